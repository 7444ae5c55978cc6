/-
  WALKS of the reference of layer 15: one, rest, Octets, Encode.
-/
import Derived.Test.YtcpfkikifhcdmaaMgRefC
import Derived.Test.YtcpfkikifhcdmaaWrRefW
import Derived.Test.YtcpfkikifhcdmaaAdText
namespace Go.Proofs.Ytcpfkikifhcdmaa
open Go.RowKit Go.Mg Go.Wr Go.Ad
attribute [local go_sem ↓ high] Bd_.loadF Bd_.storeF Bd_.v_cells Bd_.v_match Bd_.loadP
attribute [local go_sem] Bd_.loadF_new

theorem ozAdd (s t : List UInt8) (h : s.length + t.length ≤ 1000000) (W : World) : (Op.stringOp .add (oz s) (oz t)).run Try.prog W = .ok (.string (oz (s ++ t))) W := by
  have := run_string_add_sum (P := Try.prog) W (oz s) (oz t) (by rw [oz_size, oz_size]; omega)
  rw [this]
  congr 2
theorem refOct15_any (z : Int) (k : Nat) (w : World) (h1 : 1 ≤ k) (h6 : k ≤ 6) (hz : 0 ≤ z ∧ z < 281474976710656) :
    Calls Try.prog 66 #[.int .i64 z, .int .i64 (k : Int)] w fun e w' => e = .returned (.string (oz (ow z k))) ∧ Below w.heap.size w w' := by
  have := octets_any z.toNat k w h1 h6 (by omega)
  rw [Int.toNat_of_nonneg hz.1] at this
  exact this
theorem refOct5_any (a : Int) (w : World) (h0 : 0 ≤ a) (h1 : a < 281474976710656) :
    Calls Try.prog 67 #[.int .u64 a] w fun e w' => e = .returned (.string (oz (be a.toNat))) ∧ Below w.heap.size w w' := by
  have := refOctets5_any a.toNat w (by omega)
  rw [Int.toNat_of_nonneg h0] at this
  exact this
theorem refOne_any (z : Int) (w : World) (hz : 0 ≤ z ∧ z ≤ 255) :
    Calls Try.prog 42 #[.int .i64 z] w fun e w' => e = .returned (.string (oz (ow z 1))) ∧ Below w.heap.size w w' := by
  have C : Hid (∀ w, Calls Try.prog 66 #[.int .i64 z, .int .i64 1] w fun e w' => e = .returned (.string (oz (ow z 1))) ∧ Below w.heap.size w w') := fun w => refOct15_any z 1 w (by decide) (by decide) ⟨hz.1, by omega⟩
  generalize oz (ow z 1) = s at *
  clear hz
  go_enter Try.func42, Try.ntmps42
  go_wp2_with (go_at_call 66; refine (C.out _).mono ?_; rintro e w1 ⟨rfl, hb⟩; have B1 := Lib.hid hb; clear hb)
  go_returns
  exact ⟨rfl, B1.out⟩

set_option maxRecDepth 100000 in
set_option maxHeartbeats 4000000 in
theorem refRest_1 (b : Bd) (w : World) (hd : b.kd = 1) (hf : Fit b) :
    Calls Try.prog 43 #[Bd_.v b] w fun e w' => e = .returned (.string (oz (rst b))) ∧ Below w.heap.size w w' := by
  obtain ⟨w1, hw1⟩ : ∃ w1, w.alloc (.cells (Bd_.C b) 27) = w1 := ⟨_, rfl⟩
  have S1 := Lib.hid (show Stb w b w1 from hw1 ▸ Stb.new w b)
  have d2 : w1.cell? ⟨w.heap.size, 2, none⟩ = some (.int .i64 b.st) := S1.out.box.all 2
  have HK : Hid (∀ wi, Stb w b wi → wi.cell? ⟨w.heap.size, 0, none⟩ = some (.int .i64 1)) := fun wi h => by rw [← hd]; exact h.box.all 0
  have KS := Lib.hid fun w => refOne_any b.st w hf.st
  have K0 := Lib.hid fun w => refOne_any b.sp w hf.sp
  have K1 : Hid (∀ w, Calls Try.prog 66 #[.int .i64 b.hn, .int .i64 2] w fun e w' => e = .returned (.string (oz (ow b.hn 2))) ∧ Below w.heap.size w w') := fun w => refOct15_any b.hn 2 w (by decide) (by decide) (by have := hf.hn; omega)
  have a1 := ozAdd (ow b.sp 1) (ow b.st 1) (by simp only [ow_len]; decide)
  have a2 := ozAdd (ow b.sp 1 ++ ow b.st 1) (ow b.hn 2) (by simp only [List.length_append, ow_len]; decide)
  have HR : Hid (oz (rst b) = oz (ow b.sp 1 ++ ow b.st 1 ++ ow b.hn 2)) := by unfold Hid rst; rw [hd]; simp only [if_true, List.append_assoc]
  generalize oz (ow b.sp 1 ++ ow b.st 1 ++ ow b.hn 2) = y2 at *
  generalize oz (ow b.sp 1 ++ ow b.st 1) = y1 at *
  generalize oz (ow b.st 1) = xs at *
  generalize oz (ow b.sp 1) = x0 at *
  generalize oz (ow b.hn 2) = x1 at *
  have k1 := HK.out w1 S1.out
  clear hd hf
  go_enter Try.func43, Try.ntmps43
  go_wp2_with (go_at_call 42; with_reducible refine (KS.out _).mono ?_; rintro e w2 ⟨rfl, hb⟩; have S2 := Lib.hid (S1.out.keep hb); have k2 := HK.out _ S2.out; clear hb)
  have h1 : ∀ (p : Of (Stb w b)), p.w.cell? ⟨w.heap.size, 1, none⟩ = some (.int .i64 b.sp) := fun p => p.ok.box.all 1
  have h3 : ∀ (p : Of (Stb w b)), p.w.cell? ⟨w.heap.size, 3, none⟩ = some (.int .i64 b.hn) := fun p => p.ok.box.all 3
  have _ne : Nonempty (Of (Stb w b)) := ⟨⟨_, S2.out⟩⟩
  refine wp_region_of (Stb w b) (by kernel_rfl) (by kernel_rfl) S2.out.drew ?_
  repeat (quiet_step (first
    | (go_at_call 42; with_reducible exact Calls.of_below Stb.keep' (K0.out _))
    | (go_at_call 66; with_reducible exact Calls.of_below Stb.keep' (K1.out _))))
  refine wpQuiet_nil ?_
  rintro _ ⟨p, rfl⟩
  clear h1 h3
  go_wp2
  go_ret
  exact ⟨by rw [HR.out]; rfl, p.ok.bel⟩

set_option maxRecDepth 100000 in
set_option maxHeartbeats 4000000 in
theorem refRest_2 (b : Bd) (w : World) (hd : b.kd = 2) (hf : Fit b) :
    Calls Try.prog 43 #[Bd_.v b] w fun e w' => e = .returned (.string (oz (rst b))) ∧ Below w.heap.size w w' := by
  obtain ⟨w1, hw1⟩ : ∃ w1, w.alloc (.cells (Bd_.C b) 27) = w1 := ⟨_, rfl⟩
  have S1 := Lib.hid (show Stb w b w1 from hw1 ▸ Stb.new w b)
  have d2 : w1.cell? ⟨w.heap.size, 2, none⟩ = some (.int .i64 b.st) := S1.out.box.all 2
  have HK : Hid (∀ wi, Stb w b wi → wi.cell? ⟨w.heap.size, 0, none⟩ = some (.int .i64 2)) := fun wi h => by rw [← hd]; exact h.box.all 0
  have KS := Lib.hid fun w => refOne_any b.st w hf.st
  have K0 := Lib.hid fun w => refOne_any (b.nm.size : Int) w (by have := hf.nm; omega)
  have K1 := Lib.hid fun w => refOne_any b.ls w hf.ls
  have K2 := Lib.hid fun w => refOne_any b.dv w hf.dv
  have a1 := ozAdd (ow b.nm.size 1) (b.nm.data.toList) (by simp only [ow_len, nm_len]; have := hf.nm; omega)
  have a2 := ozAdd (ow b.nm.size 1 ++ b.nm.data.toList) (ow b.ls 1) (by simp only [List.length_append, ow_len, nm_len]; have := hf.nm; omega)
  have a3 := ozAdd (ow b.nm.size 1 ++ b.nm.data.toList ++ ow b.ls 1) (ow b.dv 1) (by simp only [List.length_append, ow_len, nm_len]; have := hf.nm; omega)
  have HR : Hid (oz (rst b) = oz (ow b.nm.size 1 ++ b.nm.data.toList ++ ow b.ls 1 ++ ow b.dv 1)) := by unfold Hid rst nmo; rw [hd]; simp only [Int.reduceEq, if_true, if_false, List.append_assoc]
  rw [oz_of] at a1
  generalize oz (ow b.nm.size 1 ++ b.nm.data.toList ++ ow b.ls 1 ++ ow b.dv 1) = y3 at *
  generalize oz (ow b.nm.size 1 ++ b.nm.data.toList ++ ow b.ls 1) = y2 at *
  generalize oz (ow b.nm.size 1 ++ b.nm.data.toList) = y1 at *
  generalize oz (ow b.st 1) = xs at *
  generalize oz (ow b.nm.size 1) = x0 at *
  generalize oz (ow b.ls 1) = x1 at *
  generalize oz (ow b.dv 1) = x2 at *
  have k1 := HK.out w1 S1.out
  clear hd hf
  go_enter Try.func43, Try.ntmps43
  go_wp2_with (go_at_call 42; with_reducible refine (KS.out _).mono ?_; rintro e w2 ⟨rfl, hb⟩; have S2 := Lib.hid (S1.out.keep hb); have k2 := HK.out _ S2.out; clear hb)
  have h4 : ∀ (p : Of (Stb w b)), p.w.cell? ⟨w.heap.size, 4, none⟩ = some (.string b.nm) := fun p => p.ok.box.all 4
  have h5 : ∀ (p : Of (Stb w b)), p.w.cell? ⟨w.heap.size, 5, none⟩ = some (.int .i64 b.ls) := fun p => p.ok.box.all 5
  have h6 : ∀ (p : Of (Stb w b)), p.w.cell? ⟨w.heap.size, 6, none⟩ = some (.int .i64 b.dv) := fun p => p.ok.box.all 6
  have _ne : Nonempty (Of (Stb w b)) := ⟨⟨_, S2.out⟩⟩
  refine wp_region_of (Stb w b) (by kernel_rfl) (by kernel_rfl) S2.out.drew ?_
  repeat (quiet_step (first
    | (go_at_call 42; with_reducible exact Calls.of_below Stb.keep' (K0.out _))
    | (go_at_call 42; with_reducible exact Calls.of_below Stb.keep' (K1.out _))
    | (go_at_call 42; with_reducible exact Calls.of_below Stb.keep' (K2.out _))))
  refine wpQuiet_nil ?_
  rintro _ ⟨p, rfl⟩
  clear h4 h5 h6
  go_wp2
  go_ret
  exact ⟨by rw [HR.out]; rfl, p.ok.bel⟩

set_option maxRecDepth 100000 in
set_option maxHeartbeats 4000000 in
theorem refRest_3 (b : Bd) (w : World) (hd : b.kd = 3) (hf : Fit b) :
    Calls Try.prog 43 #[Bd_.v b] w fun e w' => e = .returned (.string (oz (rst b))) ∧ Below w.heap.size w w' := by
  obtain ⟨w1, hw1⟩ : ∃ w1, w.alloc (.cells (Bd_.C b) 27) = w1 := ⟨_, rfl⟩
  have S1 := Lib.hid (show Stb w b w1 from hw1 ▸ Stb.new w b)
  have d2 : w1.cell? ⟨w.heap.size, 2, none⟩ = some (.int .i64 b.st) := S1.out.box.all 2
  have HK : Hid (∀ wi, Stb w b wi → wi.cell? ⟨w.heap.size, 0, none⟩ = some (.int .i64 3)) := fun wi h => by rw [← hd]; exact h.box.all 0
  have KS := Lib.hid fun w => refOne_any b.st w hf.st
  have K0 := Lib.hid fun w => refOne_any (b.nm.size : Int) w (by have := hf.nm; omega)
  have K1 := Lib.hid fun w => refOne_any b.ls w hf.ls
  have K2 := Lib.hid fun w => refOne_any b.dv w hf.dv
  have K3 := Lib.hid fun w => refOct5_any b.od w hf.od.1 hf.od.2
  have a1 := ozAdd (ow b.nm.size 1) (b.nm.data.toList) (by simp only [ow_len, nm_len]; have := hf.nm; omega)
  have a2 := ozAdd (ow b.nm.size 1 ++ b.nm.data.toList) (ow b.ls 1) (by simp only [List.length_append, ow_len, nm_len]; have := hf.nm; omega)
  have a3 := ozAdd (ow b.nm.size 1 ++ b.nm.data.toList ++ ow b.ls 1) (ow b.dv 1) (by simp only [List.length_append, ow_len, nm_len]; have := hf.nm; omega)
  have a4 := ozAdd (ow b.nm.size 1 ++ b.nm.data.toList ++ ow b.ls 1 ++ ow b.dv 1) (be b.od.toNat) (by simp only [List.length_append, ow_len, be_len, nm_len]; have := hf.nm; omega)
  have HR : Hid (oz (rst b) = oz (ow b.nm.size 1 ++ b.nm.data.toList ++ ow b.ls 1 ++ ow b.dv 1 ++ be b.od.toNat)) := by unfold Hid rst nmo; rw [hd]; simp only [Int.reduceEq, if_true, if_false, List.append_assoc]
  rw [oz_of] at a1
  generalize oz (ow b.nm.size 1 ++ b.nm.data.toList ++ ow b.ls 1 ++ ow b.dv 1 ++ be b.od.toNat) = y4 at *
  generalize oz (ow b.nm.size 1 ++ b.nm.data.toList ++ ow b.ls 1 ++ ow b.dv 1) = y3 at *
  generalize oz (ow b.nm.size 1 ++ b.nm.data.toList ++ ow b.ls 1) = y2 at *
  generalize oz (ow b.nm.size 1 ++ b.nm.data.toList) = y1 at *
  generalize oz (ow b.st 1) = xs at *
  generalize oz (ow b.nm.size 1) = x0 at *
  generalize oz (ow b.ls 1) = x1 at *
  generalize oz (ow b.dv 1) = x2 at *
  generalize oz (be b.od.toNat) = x3 at *
  have k1 := HK.out w1 S1.out
  clear hd hf
  go_enter Try.func43, Try.ntmps43
  go_wp2_with (go_at_call 42; with_reducible refine (KS.out _).mono ?_; rintro e w2 ⟨rfl, hb⟩; have S2 := Lib.hid (S1.out.keep hb); have k2 := HK.out _ S2.out; clear hb)
  have h4 : ∀ (p : Of (Stb w b)), p.w.cell? ⟨w.heap.size, 4, none⟩ = some (.string b.nm) := fun p => p.ok.box.all 4
  have h5 : ∀ (p : Of (Stb w b)), p.w.cell? ⟨w.heap.size, 5, none⟩ = some (.int .i64 b.ls) := fun p => p.ok.box.all 5
  have h6 : ∀ (p : Of (Stb w b)), p.w.cell? ⟨w.heap.size, 6, none⟩ = some (.int .i64 b.dv) := fun p => p.ok.box.all 6
  have h7 : ∀ (p : Of (Stb w b)), p.w.cell? ⟨w.heap.size, 7, none⟩ = some (.int .u64 b.od) := fun p => p.ok.box.all 7
  have _ne : Nonempty (Of (Stb w b)) := ⟨⟨_, S2.out⟩⟩
  refine wp_region_of (Stb w b) (by kernel_rfl) (by kernel_rfl) S2.out.drew ?_
  repeat (quiet_step (first
    | (go_at_call 42; with_reducible exact Calls.of_below Stb.keep' (K0.out _))
    | (go_at_call 42; with_reducible exact Calls.of_below Stb.keep' (K1.out _))
    | (go_at_call 42; with_reducible exact Calls.of_below Stb.keep' (K2.out _))
    | (go_at_call 67; with_reducible exact Calls.of_below Stb.keep' (K3.out _))))
  refine wpQuiet_nil ?_
  rintro _ ⟨p, rfl⟩
  clear h4 h5 h7 h6
  go_wp2
  go_ret
  exact ⟨by rw [HR.out]; rfl, p.ok.bel⟩

set_option maxRecDepth 100000 in
set_option maxHeartbeats 4000000 in
theorem refRest_4 (b : Bd) (w : World) (hd : b.kd = 4) (hf : Fit b) :
    Calls Try.prog 43 #[Bd_.v b] w fun e w' => e = .returned (.string (oz (rst b))) ∧ Below w.heap.size w w' := by
  obtain ⟨w1, hw1⟩ : ∃ w1, w.alloc (.cells (Bd_.C b) 27) = w1 := ⟨_, rfl⟩
  have S1 := Lib.hid (show Stb w b w1 from hw1 ▸ Stb.new w b)
  have d2 : w1.cell? ⟨w.heap.size, 2, none⟩ = some (.int .i64 b.st) := S1.out.box.all 2
  have HK : Hid (∀ wi, Stb w b wi → wi.cell? ⟨w.heap.size, 0, none⟩ = some (.int .i64 4)) := fun wi h => by rw [← hd]; exact h.box.all 0
  have KS := Lib.hid fun w => refOne_any b.st w hf.st
  have K0 := Lib.hid fun w => refOne_any b.ai w hf.ai
  have a1 := ozAdd (ow b.st 1) (ow b.ai 1) (by simp only [ow_len]; decide)
  have HR : Hid (oz (rst b) = oz (ow b.st 1 ++ ow b.ai 1)) := by unfold Hid rst; rw [hd]; rfl
  generalize oz (ow b.st 1 ++ ow b.ai 1) = y1 at *
  generalize oz (ow b.st 1) = xs at *
  generalize oz (ow b.ai 1) = x0 at *
  have k1 := HK.out w1 S1.out
  clear hd hf
  go_enter Try.func43, Try.ntmps43
  go_wp2_with (first
    | (go_at_call 42; with_reducible refine (KS.out _).mono ?_; rintro e w2 ⟨rfl, hb⟩; have S2 := Lib.hid (S1.out.keep hb); have k2 := HK.out _ S2.out; have e2 := (S2.out.box.all 8).trans (show _ = some (.int .i64 b.ai) from rfl); clear hb)
    | (go_at_call 42; with_reducible refine (K0.out _).mono ?_; rintro e w3 ⟨rfl, hb⟩; have S3 := Lib.hid (S2.out.keep hb); clear hb))
  go_ret
  exact ⟨by rw [HR.out]; rfl, S3.out.bel⟩

set_option maxRecDepth 100000 in
set_option maxHeartbeats 4000000 in
theorem refRest_5 (b : Bd) (w : World) (hd : b.kd = 5) (hf : Fit b) :
    Calls Try.prog 43 #[Bd_.v b] w fun e w' => e = .returned (.string (oz (rst b))) ∧ Below w.heap.size w w' := by
  obtain ⟨w1, hw1⟩ : ∃ w1, w.alloc (.cells (Bd_.C b) 27) = w1 := ⟨_, rfl⟩
  have S1 := Lib.hid (show Stb w b w1 from hw1 ▸ Stb.new w b)
  have d2 : w1.cell? ⟨w.heap.size, 2, none⟩ = some (.int .i64 b.st) := S1.out.box.all 2
  have HK : Hid (∀ wi, Stb w b wi → wi.cell? ⟨w.heap.size, 0, none⟩ = some (.int .i64 5)) := fun wi h => by rw [← hd]; exact h.box.all 0
  have KS := Lib.hid fun w => refOne_any b.st w hf.st
  have HR : Hid (oz (rst b) = oz (ow b.st 1)) := by unfold Hid rst; rw [hd]; rfl
  generalize oz (ow b.st 1) = xs at *
  have k1 := HK.out w1 S1.out
  clear hd hf
  go_enter Try.func43, Try.ntmps43
  go_wp2_with (first
    | (go_at_call 42; with_reducible refine (KS.out _).mono ?_; rintro e w2 ⟨rfl, hb⟩; have S2 := Lib.hid (S1.out.keep hb); have k2 := HK.out _ S2.out; clear hb))
  go_ret
  exact ⟨by rw [HR.out]; rfl, S2.out.bel⟩

set_option maxRecDepth 100000 in
set_option maxHeartbeats 4000000 in
theorem refRest_6 (b : Bd) (w : World) (hd : b.kd = 6) (hf : Fit b) :
    Calls Try.prog 43 #[Bd_.v b] w fun e w' => e = .returned (.string (oz (rst b))) ∧ Below w.heap.size w w' := by
  obtain ⟨w1, hw1⟩ : ∃ w1, w.alloc (.cells (Bd_.C b) 27) = w1 := ⟨_, rfl⟩
  have S1 := Lib.hid (show Stb w b w1 from hw1 ▸ Stb.new w b)
  have d2 : w1.cell? ⟨w.heap.size, 2, none⟩ = some (.int .i64 b.st) := S1.out.box.all 2
  have HK : Hid (∀ wi, Stb w b wi → wi.cell? ⟨w.heap.size, 0, none⟩ = some (.int .i64 6)) := fun wi h => by rw [← hd]; exact h.box.all 0
  have KS := Lib.hid fun w => refOne_any b.st w hf.st
  have K0 := Lib.hid fun w => refOne_any b.ct w hf.ct
  have K1 : Hid (∀ w, Calls Try.prog 66 #[.int .i64 b.sr, .int .i64 2] w fun e w' => e = .returned (.string (oz (ow b.sr 2))) ∧ Below w.heap.size w w') := fun w => refOct15_any b.sr 2 w (by decide) (by decide) (by have := hf.sr; omega)
  have K2 := Lib.hid fun w => refOne_any b.sz w hf.sz
  have a1 := ozAdd (ow b.ct 1) (ow b.sr 2) (by simp only [ow_len]; decide)
  have a2 := ozAdd (ow b.ct 1 ++ ow b.sr 2) (ow b.sz 1) (by simp only [List.length_append, ow_len]; decide)
  have HR : Hid (oz (rst b) = oz (ow b.ct 1 ++ ow b.sr 2 ++ ow b.sz 1)) := by unfold Hid rst; rw [hd]; simp only [Int.reduceEq, if_true, if_false, List.append_assoc]
  generalize oz (ow b.ct 1 ++ ow b.sr 2 ++ ow b.sz 1) = y2 at *
  generalize oz (ow b.ct 1 ++ ow b.sr 2) = y1 at *
  generalize oz (ow b.st 1) = xs at *
  generalize oz (ow b.ct 1) = x0 at *
  generalize oz (ow b.sr 2) = x1 at *
  generalize oz (ow b.sz 1) = x2 at *
  have k1 := HK.out w1 S1.out
  clear hd hf
  go_enter Try.func43, Try.ntmps43
  go_wp2_with (go_at_call 42; with_reducible refine (KS.out _).mono ?_; rintro e w2 ⟨rfl, hb⟩; have S2 := Lib.hid (S1.out.keep hb); have k2 := HK.out _ S2.out; clear hb)
  have h9 : ∀ (p : Of (Stb w b)), p.w.cell? ⟨w.heap.size, 9, none⟩ = some (.int .i64 b.ct) := fun p => p.ok.box.all 9
  have h10 : ∀ (p : Of (Stb w b)), p.w.cell? ⟨w.heap.size, 10, none⟩ = some (.int .i64 b.sr) := fun p => p.ok.box.all 10
  have h11 : ∀ (p : Of (Stb w b)), p.w.cell? ⟨w.heap.size, 11, none⟩ = some (.int .i64 b.sz) := fun p => p.ok.box.all 11
  have _ne : Nonempty (Of (Stb w b)) := ⟨⟨_, S2.out⟩⟩
  refine wp_region_of (Stb w b) (by kernel_rfl) (by kernel_rfl) S2.out.drew ?_
  repeat (quiet_step (first
    | (go_at_call 42; with_reducible exact Calls.of_below Stb.keep' (K0.out _))
    | (go_at_call 66; with_reducible exact Calls.of_below Stb.keep' (K1.out _))
    | (go_at_call 42; with_reducible exact Calls.of_below Stb.keep' (K2.out _))))
  refine wpQuiet_nil ?_
  rintro _ ⟨p, rfl⟩
  clear h9 h11 h10
  go_wp2
  go_ret
  exact ⟨by rw [HR.out]; rfl, p.ok.bel⟩

set_option maxRecDepth 100000 in
set_option maxHeartbeats 4000000 in
theorem refRest_7 (b : Bd) (w : World) (hd : b.kd = 7) (hf : Fit b) :
    Calls Try.prog 43 #[Bd_.v b] w fun e w' => e = .returned (.string (oz (rst b))) ∧ Below w.heap.size w w' := by
  obtain ⟨w1, hw1⟩ : ∃ w1, w.alloc (.cells (Bd_.C b) 27) = w1 := ⟨_, rfl⟩
  have S1 := Lib.hid (show Stb w b w1 from hw1 ▸ Stb.new w b)
  have d2 : w1.cell? ⟨w.heap.size, 2, none⟩ = some (.int .i64 b.st) := S1.out.box.all 2
  have HK : Hid (∀ wi, Stb w b wi → wi.cell? ⟨w.heap.size, 0, none⟩ = some (.int .i64 7)) := fun wi h => by rw [← hd]; exact h.box.all 0
  have KS := Lib.hid fun w => refOne_any b.st w hf.st
  have K0 := Lib.hid fun w => refOne_any b.ct w hf.ct
  have K1 := Lib.hid fun w => refOne_any b.sz w hf.sz
  have a1 := ozAdd (ow b.ct 1) (ow b.st 1) (by simp only [ow_len]; decide)
  have a2 := ozAdd (ow b.ct 1 ++ ow b.st 1) (ow b.sz 1) (by simp only [List.length_append, ow_len]; decide)
  have HR : Hid (oz (rst b) = oz (ow b.ct 1 ++ ow b.st 1 ++ ow b.sz 1)) := by unfold Hid rst; rw [hd]; simp only [Int.reduceEq, if_true, if_false, List.append_assoc]
  generalize oz (ow b.ct 1 ++ ow b.st 1 ++ ow b.sz 1) = y2 at *
  generalize oz (ow b.ct 1 ++ ow b.st 1) = y1 at *
  generalize oz (ow b.st 1) = xs at *
  generalize oz (ow b.ct 1) = x0 at *
  generalize oz (ow b.sz 1) = x1 at *
  have k1 := HK.out w1 S1.out
  clear hd hf
  go_enter Try.func43, Try.ntmps43
  go_wp2_with (go_at_call 42; with_reducible refine (KS.out _).mono ?_; rintro e w2 ⟨rfl, hb⟩; have S2 := Lib.hid (S1.out.keep hb); have k2 := HK.out _ S2.out; clear hb)
  have h9 : ∀ (p : Of (Stb w b)), p.w.cell? ⟨w.heap.size, 9, none⟩ = some (.int .i64 b.ct) := fun p => p.ok.box.all 9
  have h11 : ∀ (p : Of (Stb w b)), p.w.cell? ⟨w.heap.size, 11, none⟩ = some (.int .i64 b.sz) := fun p => p.ok.box.all 11
  have _ne : Nonempty (Of (Stb w b)) := ⟨⟨_, S2.out⟩⟩
  refine wp_region_of (Stb w b) (by kernel_rfl) (by kernel_rfl) S2.out.drew ?_
  repeat (quiet_step (first
    | (go_at_call 42; with_reducible exact Calls.of_below Stb.keep' (K0.out _))
    | (go_at_call 42; with_reducible exact Calls.of_below Stb.keep' (K1.out _))))
  refine wpQuiet_nil ?_
  rintro _ ⟨p, rfl⟩
  clear h9 h11
  go_wp2
  go_ret
  exact ⟨by rw [HR.out]; rfl, p.ok.bel⟩

set_option maxRecDepth 100000 in
set_option maxHeartbeats 4000000 in
theorem refRest_8 (b : Bd) (w : World) (hd : b.kd = 8) (hf : Fit b) :
    Calls Try.prog 43 #[Bd_.v b] w fun e w' => e = .returned (.string (oz (rst b))) ∧ Below w.heap.size w w' := by
  obtain ⟨w1, hw1⟩ : ∃ w1, w.alloc (.cells (Bd_.C b) 27) = w1 := ⟨_, rfl⟩
  have S1 := Lib.hid (show Stb w b w1 from hw1 ▸ Stb.new w b)
  have d2 : w1.cell? ⟨w.heap.size, 2, none⟩ = some (.int .i64 b.st) := S1.out.box.all 2
  have HK : Hid (∀ wi, Stb w b wi → wi.cell? ⟨w.heap.size, 0, none⟩ = some (.int .i64 8)) := fun wi h => by rw [← hd]; exact h.box.all 0
  have KS := Lib.hid fun w => refOne_any b.st w hf.st
  have K0 := Lib.hid fun w => refOne_any b.ct w hf.ct
  have a1 := ozAdd (ow b.ct 1) (ow b.st 1) (by simp only [ow_len]; decide)
  have HR : Hid (oz (rst b) = oz (ow b.ct 1 ++ ow b.st 1)) := by unfold Hid rst; rw [hd]; rfl
  generalize oz (ow b.ct 1 ++ ow b.st 1) = y1 at *
  generalize oz (ow b.st 1) = xs at *
  generalize oz (ow b.ct 1) = x0 at *
  have k1 := HK.out w1 S1.out
  clear hd hf
  go_enter Try.func43, Try.ntmps43
  go_wp2_with (first
    | (go_at_call 42; with_reducible refine (KS.out _).mono ?_; rintro e w2 ⟨rfl, hb⟩; have S2 := Lib.hid (S1.out.keep hb); have k2 := HK.out _ S2.out; have e2 := (S2.out.box.all 9).trans (show _ = some (.int .i64 b.ct) from rfl); clear hb)
    | (go_at_call 42; with_reducible refine (K0.out _).mono ?_; rintro e w3 ⟨rfl, hb⟩; have S3 := Lib.hid (S2.out.keep hb); clear hb))
  go_ret
  exact ⟨by rw [HR.out]; rfl, S3.out.bel⟩

set_option maxRecDepth 100000 in
set_option maxHeartbeats 4000000 in
theorem refRest_9 (b : Bd) (w : World) (hd : b.kd = 9) (hf : Fit b) :
    Calls Try.prog 43 #[Bd_.v b] w fun e w' => e = .returned (.string (oz (rst b))) ∧ Below w.heap.size w w' := by
  obtain ⟨w1, hw1⟩ : ∃ w1, w.alloc (.cells (Bd_.C b) 27) = w1 := ⟨_, rfl⟩
  have S1 := Lib.hid (show Stb w b w1 from hw1 ▸ Stb.new w b)
  have d2 : w1.cell? ⟨w.heap.size, 2, none⟩ = some (.int .i64 b.st) := S1.out.box.all 2
  have HK : Hid (∀ wi, Stb w b wi → wi.cell? ⟨w.heap.size, 0, none⟩ = some (.int .i64 9)) := fun wi h => by rw [← hd]; exact h.box.all 0
  have KS := Lib.hid fun w => refOne_any b.st w hf.st
  have K0 := Lib.hid fun w => refOne_any b.ch w hf.ch
  have K1 := Lib.hid fun w => refOne_any b.cn w hf.cn
  have a1 := ozAdd (ow b.ch 1) (ow b.cn 1) (by simp only [ow_len]; decide)
  have HR : Hid (oz (rst b) = oz (ow b.ch 1 ++ ow b.cn 1)) := by unfold Hid rst; rw [hd]; rfl
  generalize oz (ow b.ch 1 ++ ow b.cn 1) = y1 at *
  generalize oz (ow b.st 1) = xs at *
  generalize oz (ow b.ch 1) = x0 at *
  generalize oz (ow b.cn 1) = x1 at *
  have k1 := HK.out w1 S1.out
  clear hd hf
  go_enter Try.func43, Try.ntmps43
  go_wp2_with (go_at_call 42; with_reducible refine (KS.out _).mono ?_; rintro e w2 ⟨rfl, hb⟩; have S2 := Lib.hid (S1.out.keep hb); have k2 := HK.out _ S2.out; clear hb)
  have h12 : ∀ (p : Of (Stb w b)), p.w.cell? ⟨w.heap.size, 12, none⟩ = some (.int .i64 b.ch) := fun p => p.ok.box.all 12
  have h13 : ∀ (p : Of (Stb w b)), p.w.cell? ⟨w.heap.size, 13, none⟩ = some (.int .i64 b.cn) := fun p => p.ok.box.all 13
  have _ne : Nonempty (Of (Stb w b)) := ⟨⟨_, S2.out⟩⟩
  refine wp_region_of (Stb w b) (by kernel_rfl) (by kernel_rfl) S2.out.drew ?_
  repeat (quiet_step (first
    | (go_at_call 42; with_reducible exact Calls.of_below Stb.keep' (K0.out _))
    | (go_at_call 42; with_reducible exact Calls.of_below Stb.keep' (K1.out _))))
  refine wpQuiet_nil ?_
  rintro _ ⟨p, rfl⟩
  clear h13 h12
  go_wp2
  go_ret
  exact ⟨by rw [HR.out]; rfl, p.ok.bel⟩

set_option maxRecDepth 100000 in
set_option maxHeartbeats 4000000 in
theorem refRest_10 (b : Bd) (w : World) (hd : b.kd = 10) (hf : Fit b) :
    Calls Try.prog 43 #[Bd_.v b] w fun e w' => e = .returned (.string (oz (rst b))) ∧ Below w.heap.size w w' := by
  obtain ⟨w1, hw1⟩ : ∃ w1, w.alloc (.cells (Bd_.C b) 27) = w1 := ⟨_, rfl⟩
  have S1 := Lib.hid (show Stb w b w1 from hw1 ▸ Stb.new w b)
  have d2 : w1.cell? ⟨w.heap.size, 2, none⟩ = some (.int .i64 b.st) := S1.out.box.all 2
  have HK : Hid (∀ wi, Stb w b wi → wi.cell? ⟨w.heap.size, 0, none⟩ = some (.int .i64 10)) := fun wi h => by rw [← hd]; exact h.box.all 0
  have KS := Lib.hid fun w => refOne_any b.st w hf.st
  have K0 : Hid (∀ w, Calls Try.prog 66 #[.int .i64 b.pf, .int .i64 4] w fun e w' => e = .returned (.string (oz (ow b.pf 4))) ∧ Below w.heap.size w w') := fun w => refOct15_any b.pf 4 w (by decide) (by decide) (by have := hf.pf; omega)
  have K1 : Hid (∀ w, Calls Try.prog 66 #[.int .i64 b.pp, .int .i64 4] w fun e w' => e = .returned (.string (oz (ow b.pp 4))) ∧ Below w.heap.size w w') := fun w => refOct15_any b.pp 4 w (by decide) (by decide) (by have := hf.pp; omega)
  have K2 : Hid (∀ w, Calls Try.prog 66 #[.int .i64 b.pl, .int .i64 4] w fun e w' => e = .returned (.string (oz (ow b.pl 4))) ∧ Below w.heap.size w w') := fun w => refOct15_any b.pl 4 w (by decide) (by decide) (by have := hf.pl; omega)
  have a1 := ozAdd (ow b.pf 4) (ow b.pp 4) (by simp only [ow_len]; decide)
  have a2 := ozAdd (ow b.pf 4 ++ ow b.pp 4) (ow b.pl 4) (by simp only [List.length_append, ow_len]; decide)
  have HR : Hid (oz (rst b) = oz (ow b.pf 4 ++ ow b.pp 4 ++ ow b.pl 4)) := by unfold Hid rst pln; rw [hd]; simp only [Int.reduceEq, if_true, if_false, List.append_assoc]
  generalize oz (ow b.pf 4 ++ ow b.pp 4 ++ ow b.pl 4) = y2 at *
  generalize oz (ow b.pf 4 ++ ow b.pp 4) = y1 at *
  generalize oz (ow b.st 1) = xs at *
  generalize oz (ow b.pf 4) = x0 at *
  generalize oz (ow b.pp 4) = x1 at *
  generalize oz (ow b.pl 4) = x2 at *
  have k1 := HK.out w1 S1.out
  clear hd hf
  go_enter Try.func43, Try.ntmps43
  go_wp2_with (go_at_call 42; with_reducible refine (KS.out _).mono ?_; rintro e w2 ⟨rfl, hb⟩; have S2 := Lib.hid (S1.out.keep hb); have k2 := HK.out _ S2.out; clear hb)
  have h14 : ∀ (p : Of (Stb w b)), p.w.cell? ⟨w.heap.size, 14, none⟩ = some (.int .i64 b.pf) := fun p => p.ok.box.all 14
  have h15 : ∀ (p : Of (Stb w b)), p.w.cell? ⟨w.heap.size, 15, none⟩ = some (.int .i64 b.pp) := fun p => p.ok.box.all 15
  have h16 : ∀ (p : Of (Stb w b)), p.w.cell? ⟨w.heap.size, 16, none⟩ = some (.int .i64 b.pl) := fun p => p.ok.box.all 16
  have _ne : Nonempty (Of (Stb w b)) := ⟨⟨_, S2.out⟩⟩
  refine wp_region_of (Stb w b) (by kernel_rfl) (by kernel_rfl) S2.out.drew ?_
  repeat (quiet_step (first
    | (go_at_call 66; with_reducible exact Calls.of_below Stb.keep' (K0.out _))
    | (go_at_call 66; with_reducible exact Calls.of_below Stb.keep' (K1.out _))
    | (go_at_call 66; with_reducible exact Calls.of_below Stb.keep' (K2.out _))))
  refine wpQuiet_nil ?_
  rintro _ ⟨p, rfl⟩
  clear h16 h14 h15
  have k3 := HK.out _ p.ok
  go_wp2
  go_ret
  exact ⟨by rw [HR.out]; rfl, p.ok.bel⟩

set_option maxRecDepth 100000 in
set_option maxHeartbeats 4000000 in
theorem refRest_11 (b : Bd) (w : World) (hd : b.kd = 11) (hf : Fit b) :
    Calls Try.prog 43 #[Bd_.v b] w fun e w' => e = .returned (.string (oz (rst b))) ∧ Below w.heap.size w w' := by
  obtain ⟨w1, hw1⟩ : ∃ w1, w.alloc (.cells (Bd_.C b) 27) = w1 := ⟨_, rfl⟩
  have S1 := Lib.hid (show Stb w b w1 from hw1 ▸ Stb.new w b)
  have d2 : w1.cell? ⟨w.heap.size, 2, none⟩ = some (.int .i64 b.st) := S1.out.box.all 2
  have HK : Hid (∀ wi, Stb w b wi → wi.cell? ⟨w.heap.size, 0, none⟩ = some (.int .i64 11)) := fun wi h => by rw [← hd]; exact h.box.all 0
  have KS := Lib.hid fun w => refOne_any b.st w hf.st
  have K0 : Hid (∀ w, Calls Try.prog 66 #[.int .i64 b.pf, .int .i64 4] w fun e w' => e = .returned (.string (oz (ow b.pf 4))) ∧ Below w.heap.size w w') := fun w => refOct15_any b.pf 4 w (by decide) (by decide) (by have := hf.pf; omega)
  have K1 : Hid (∀ w, Calls Try.prog 66 #[.int .i64 b.pp, .int .i64 4] w fun e w' => e = .returned (.string (oz (ow b.pp 4))) ∧ Below w.heap.size w w') := fun w => refOct15_any b.pp 4 w (by decide) (by decide) (by have := hf.pp; omega)
  have K2 : Hid (∀ w, Calls Try.prog 66 #[.int .i64 b.pl, .int .i64 4] w fun e w' => e = .returned (.string (oz (ow b.pl 4))) ∧ Below w.heap.size w w') := fun w => refOct15_any b.pl 4 w (by decide) (by decide) (by have := hf.pl; omega)
  have a1 := ozAdd (ow b.pf 4) (ow b.pp 4) (by simp only [ow_len]; decide)
  have a2 := ozAdd (ow b.pf 4 ++ ow b.pp 4) (ow b.pl 4) (by simp only [List.length_append, ow_len]; decide)
  have a3 := ozAdd (ow b.pf 4 ++ ow b.pp 4 ++ ow b.pl 4) (ow b.st 1) (by simp only [List.length_append, ow_len]; decide)
  have HR : Hid (oz (rst b) = oz (ow b.pf 4 ++ ow b.pp 4 ++ ow b.pl 4 ++ ow b.st 1)) := by unfold Hid rst pln; rw [hd]; simp only [Int.reduceEq, if_true, if_false, List.append_assoc]
  generalize oz (ow b.pf 4 ++ ow b.pp 4 ++ ow b.pl 4 ++ ow b.st 1) = y3 at *
  generalize oz (ow b.pf 4 ++ ow b.pp 4 ++ ow b.pl 4) = y2 at *
  generalize oz (ow b.pf 4 ++ ow b.pp 4) = y1 at *
  generalize oz (ow b.st 1) = xs at *
  generalize oz (ow b.pf 4) = x0 at *
  generalize oz (ow b.pp 4) = x1 at *
  generalize oz (ow b.pl 4) = x2 at *
  have k1 := HK.out w1 S1.out
  clear hd hf
  go_enter Try.func43, Try.ntmps43
  go_wp2_with (go_at_call 42; with_reducible refine (KS.out _).mono ?_; rintro e w2 ⟨rfl, hb⟩; have S2 := Lib.hid (S1.out.keep hb); have k2 := HK.out _ S2.out; clear hb)
  have h14 : ∀ (p : Of (Stb w b)), p.w.cell? ⟨w.heap.size, 14, none⟩ = some (.int .i64 b.pf) := fun p => p.ok.box.all 14
  have h15 : ∀ (p : Of (Stb w b)), p.w.cell? ⟨w.heap.size, 15, none⟩ = some (.int .i64 b.pp) := fun p => p.ok.box.all 15
  have h16 : ∀ (p : Of (Stb w b)), p.w.cell? ⟨w.heap.size, 16, none⟩ = some (.int .i64 b.pl) := fun p => p.ok.box.all 16
  have _ne : Nonempty (Of (Stb w b)) := ⟨⟨_, S2.out⟩⟩
  refine wp_region_of (Stb w b) (by kernel_rfl) (by kernel_rfl) S2.out.drew ?_
  repeat (quiet_step (first
    | (go_at_call 66; with_reducible exact Calls.of_below Stb.keep' (K0.out _))
    | (go_at_call 66; with_reducible exact Calls.of_below Stb.keep' (K1.out _))
    | (go_at_call 66; with_reducible exact Calls.of_below Stb.keep' (K2.out _))))
  refine wpQuiet_nil ?_
  rintro _ ⟨p, rfl⟩
  clear h16 h14 h15
  have k3 := HK.out _ p.ok
  go_wp2
  go_ret
  exact ⟨by rw [HR.out]; rfl, p.ok.bel⟩

set_option maxRecDepth 100000 in
set_option maxHeartbeats 4000000 in
theorem refRest_12 (b : Bd) (w : World) (hd : b.kd = 12) (hf : Fit b) :
    Calls Try.prog 43 #[Bd_.v b] w fun e w' => e = .returned (.string (oz (rst b))) ∧ Below w.heap.size w w' := by
  obtain ⟨w1, hw1⟩ : ∃ w1, w.alloc (.cells (Bd_.C b) 27) = w1 := ⟨_, rfl⟩
  have S1 := Lib.hid (show Stb w b w1 from hw1 ▸ Stb.new w b)
  have d2 : w1.cell? ⟨w.heap.size, 2, none⟩ = some (.int .i64 b.st) := S1.out.box.all 2
  have HK : Hid (∀ wi, Stb w b wi → wi.cell? ⟨w.heap.size, 0, none⟩ = some (.int .i64 12)) := fun wi h => by rw [← hd]; exact h.box.all 0
  have KS := Lib.hid fun w => refOne_any b.st w hf.st
  have K0 := Lib.hid fun w => refOct5_any b.od w hf.od.1 hf.od.2
  have K1 := Lib.hid fun w => refOne_any b.cn w hf.cn
  have a1 := ozAdd (be b.od.toNat) (ow b.cn 1) (by simp only [ow_len, be_len]; decide)
  have HR : Hid (oz (rst b) = oz (be b.od.toNat ++ ow b.cn 1)) := by unfold Hid rst; rw [hd]; rfl
  generalize oz (be b.od.toNat ++ ow b.cn 1) = y1 at *
  generalize oz (ow b.st 1) = xs at *
  generalize oz (be b.od.toNat) = x0 at *
  generalize oz (ow b.cn 1) = x1 at *
  have k1 := HK.out w1 S1.out
  clear hd hf
  go_enter Try.func43, Try.ntmps43
  go_wp2_with (go_at_call 42; with_reducible refine (KS.out _).mono ?_; rintro e w2 ⟨rfl, hb⟩; have S2 := Lib.hid (S1.out.keep hb); have k2 := HK.out _ S2.out; clear hb)
  have h7 : ∀ (p : Of (Stb w b)), p.w.cell? ⟨w.heap.size, 7, none⟩ = some (.int .u64 b.od) := fun p => p.ok.box.all 7
  have h13 : ∀ (p : Of (Stb w b)), p.w.cell? ⟨w.heap.size, 13, none⟩ = some (.int .i64 b.cn) := fun p => p.ok.box.all 13
  have _ne : Nonempty (Of (Stb w b)) := ⟨⟨_, S2.out⟩⟩
  refine wp_region_of (Stb w b) (by kernel_rfl) (by kernel_rfl) S2.out.drew ?_
  repeat (quiet_step (first
    | (go_at_call 67; with_reducible exact Calls.of_below Stb.keep' (K0.out _))
    | (go_at_call 42; with_reducible exact Calls.of_below Stb.keep' (K1.out _))))
  refine wpQuiet_nil ?_
  rintro _ ⟨p, rfl⟩
  clear h13 h7
  go_wp2
  go_ret
  exact ⟨by rw [HR.out]; rfl, p.ok.bel⟩

theorem refRest_any (b : Bd) (w : World) (hk : isK b.kd) (hf : Fit b) :
    Calls Try.prog 43 #[Bd_.v b] w fun e w' => e = .returned (.string (oz (rst b))) ∧ Below w.heap.size w w' := by
  rcases kinds hk with h | h | h | h | h | h | h | h | h | h | h | h
  · exact refRest_1 b w h hf
  · exact refRest_2 b w h hf
  · exact refRest_3 b w h hf
  · exact refRest_4 b w h hf
  · exact refRest_5 b w h hf
  · exact refRest_6 b w h hf
  · exact refRest_7 b w h hf
  · exact refRest_8 b w h hf
  · exact refRest_9 b w h hf
  · exact refRest_10 b w h hf
  · exact refRest_11 b w h hf
  · exact refRest_12 b w h hf

set_option maxRecDepth 100000 in
set_option maxHeartbeats 4000000 in
theorem refOctets15_any (b : Bd) (w : World) (hk : isK b.kd) (hf : Fit b) :
    Calls Try.prog 20 #[Bd_.v b] w fun e w' => e = .returned (.string (oz (octs b))) ∧ Below w.heap.size w w' := by
  obtain ⟨w1, hw1⟩ : ∃ w1, w.alloc (.cells (Bd_.C b) 27) = w1 := ⟨_, rfl⟩
  have S1 := Lib.hid (show Stb w b w1 from hw1 ▸ Stb.new w b)
  have K0 := Lib.hid fun w => refOne_any b.kd w (by have := hf.kd; omega)
  have K1 := Lib.hid fun w => refRest_any b w hk hf
  have hl := octs_len b (by have := hf.nm; omega)
  unfold octs at hl
  rw [List.length_append] at hl
  have a1 := ozAdd (ow b.kd 1) (rst b) (by omega)
  have HR : Hid (oz (octs b) = oz (ow b.kd 1 ++ rst b)) := rfl
  generalize oz (ow b.kd 1 ++ rst b) = y at *
  generalize oz (ow b.kd 1) = x0 at *
  generalize oz (rst b) = x1 at *
  clear hl hf hk
  go_enter Try.func20, Try.ntmps20
  go_wp2
  have h0 : ∀ (p : Of (Stb w b)), p.w.cell? ⟨w.heap.size, 0, none⟩ = some (.int .i64 b.kd) := fun p => p.ok.box.all 0
  have lf : ∀ (p : Of (Stb w b)), (Bd_.LoadF ⟨w.heap.size, 0, none⟩).run Try.prog p.w = .ok (Bd_.v b) p.w := fun p => p.ok.box.loadF
  have _ne : Nonempty (Of (Stb w b)) := ⟨⟨_, S1.out⟩⟩
  refine wp_region_of (Stb w b) (by kernel_rfl) (by kernel_rfl) S1.out.drew ?_
  repeat (quiet_step (first
    | (go_at_call 42; with_reducible exact Calls.of_below Stb.keep' (K0.out _))
    | (go_at_call 43; with_reducible exact Calls.of_below Stb.keep' (K1.out _))))
  refine wpQuiet_nil ?_
  rintro _ ⟨p, rfl⟩
  clear h0 lf
  go_wp2
  go_returns
  exact ⟨by rw [HR.out]; rfl, p.ok.bel⟩

set_option maxRecDepth 100000 in
set_option maxHeartbeats 4000000 in
theorem refEncode15_any (b : Bd) (w : World) (hb : BdW b) :
    Calls Try.prog 9 #[Bd_.v b] w fun e w' => e = .returned (.tuple #[.string (enc b), .int .i64 (chk b)]) ∧ Below w.heap.size w w' := by
  obtain ⟨w1, hw1⟩ : ∃ w1, w.alloc (.cells (Bd_.C b) 27) = w1 := ⟨_, rfl⟩
  have S1 := Lib.hid (show Stb w b w1 from hw1 ▸ Stb.new w b)
  have l1 := S1.out.box.loadF
  have CC := Lib.hid fun w => refCheck15_any b w hb
  by_cases h0 : chk b = 0
  case neg =>
    have HE : Hid (enc b = ⟨#[]⟩) := if_neg h0
    have h0' : (chk b != 0) = true := by simp; exact h0
    generalize chk b = r at *
    clear h0 hb
    go_enter Try.func9, Try.ntmps9
    go_wp2_with (go_at_call 11; refine (CC.out _).mono ?_; rintro e w2 ⟨rfl, hb⟩; have S2 := Lib.hid (S1.out.keep hb); clear hb l1)
    go_returns
    exact ⟨by rw [HE.out]; rfl, S2.out.bel⟩
  have hf := fit hb h0
  have hk := (chk_ok.1 h0).1
  have HE : Hid (enc b = oz (octs b)) := if_pos h0
  have CO := Lib.hid fun w => refOctets15_any b w hk hf
  rw [h0] at CC ⊢
  generalize oz (octs b) = s at *
  clear h0 hb hf hk
  go_enter Try.func9, Try.ntmps9
  go_wp2_with (first
    | (go_at_call 11; refine (CC.out _).mono ?_; rintro e w2 ⟨rfl, hb⟩; have S2 := Lib.hid (S1.out.keep hb); have l2 := S2.out.box.loadF; clear hb l1)
    | (go_at_call 20; refine (CO.out _).mono ?_; rintro e w3 ⟨rfl, hb⟩; have S3 := Lib.hid (S2.out.keep hb); clear hb))
  go_returns
  exact ⟨by rw [HE.out]; rfl, S3.out.bel⟩
end Go.Proofs.Ytcpfkikifhcdmaa
