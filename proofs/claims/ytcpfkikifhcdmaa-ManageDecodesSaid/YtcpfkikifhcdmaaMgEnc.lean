/-
  WALKS of package manage: Check, Encode.
-/
import Derived.Test.YtcpfkikifhcdmaaMgSets
import Derived.Test.YtcpfkikifhcdmaaMgOut
import Derived.Test.YtcpfkikifhcdmaaMgProg2
import Derived.Test.YtcpfkikifhcdmaaMgWf
namespace Go.Proofs.Ytcpfkikifhcdmaa
open Go.RowKit Go.Mg Go.Wr Go.Ad
attribute [local go_sem ↓ high] Bd_.loadF Bd_.storeF Bd_.v_cells Bd_.v_match Bd_.loadP
attribute [local go_sem] Bd_.C0 Bd_.C4 Bd_.C7 Bd_.loadF_new

set_option maxRecDepth 100000 in
set_option maxHeartbeats 4000000 in
theorem mgCheck_any (b : Bd) (w : World) (hb : BdW b) :
    Calls Try.prog 10 #[Bd_.v b] w fun e w' => e = .returned (.int .i64 (chk b)) ∧ Below w.heap.size w w' := by
  obtain ⟨w1, hw1⟩ : ∃ w1, w.alloc (.cells (Bd_.C b) 27) = w1 := ⟨_, rfl⟩
  have S1 := Lib.hid (show Stb w b w1 from hw1 ▸ Stb.new w b)
  have e1 := S1.out.box.all
  have l1 := S1.out.box.loadF
  have CU := Lib.hid fun w => mgUsed_any b.kd w
  have CF := Lib.hid fun w => mgFilled_any b w
  have CO := Lib.hid fun w => mgOutside_any b w hb
  have HC : Hid (chk b = if isK b.kd ∧ usB b = b then (if rng b = true then (if 32 < b.nm.size then 2 else 0) else 4) else 3) := rfl
  by_cases hk : isK b.kd
  case neg =>
    have HQ : Hid (chk b = 3) := HC.out.trans (if_neg fun h => hk h.1)
    rw [us_out hk] at CU
    clear hk
    go_enter Try.func10, Try.ntmps10
    go_wp2_with (go_at_call 21; refine (CU.out _).mono ?_; rintro e w' ⟨rfl, rfl⟩)
    go_ret
    exact ⟨by rw [HQ.out]; rfl, S1.out.bel⟩
  have hu0 : (us b.kd == 0) = false := by rw [beq_eq_false_iff_ne]; exact us_in hk
  have hf := fif_us b hk
  have ho := obf_us b hk
  generalize us b.kd = u at *
  generalize fif b = fi at *
  generalize obf b = oi at *
  by_cases hub : usB b = b
  case neg =>
    have HQ : Hid (chk b = 3) := HC.out.trans (if_neg fun h => hub h.2)
    rw [decide_eq_false hub, Bool.not_false] at hf
    clear hk hub ho
    go_enter Try.func10, Try.ntmps10
    go_wp2_with (first
      | (go_at_call 21; refine (CU.out _).mono ?_; rintro e w' ⟨rfl, rfl⟩)
      | (go_at_call 22; refine (CF.out _).mono ?_; rintro e w2 ⟨rfl, hb⟩; have S2 := Lib.hid (S1.out.keep hb); clear hb))
    go_ret
    exact ⟨by rw [HQ.out]; rfl, S2.out.bel⟩
  rw [decide_eq_true hub, Bool.not_true] at hf
  have HC2 := Lib.hid (HC.out.trans (if_pos ⟨hk, hub⟩))
  clear HC hk hub
  cases hr : rng b <;> rw [hr] at ho HC2
  case false =>
    rw [Bool.not_false] at ho
    go_enter Try.func10, Try.ntmps10
    go_wp2_with (first
      | (go_at_call 21; refine (CU.out _).mono ?_; rintro e w' ⟨rfl, rfl⟩)
      | (go_at_call 22; refine (CF.out _).mono ?_; rintro e w2 ⟨rfl, hb⟩; have S2 := Lib.hid (S1.out.keep hb); have l2 := S2.out.box.loadF; clear hb)
      | (go_at_call 23; refine (CO.out _).mono ?_; rintro e w3 ⟨rfl, hb⟩; have S3 := Lib.hid (S2.out.keep hb); clear hb))
    go_ret
    exact ⟨by rw [HC2.out]; rfl, S3.out.bel⟩
  rw [Bool.not_true] at ho
  by_cases hn : 32 < b.nm.size
  case pos =>
    have HQ := Lib.hid (HC2.out.trans ((if_pos rfl).trans (if_pos hn)))
    have hn' : (32 : Int) < (b.nm.size : Int) := by omega
    clear HC2 hn
    go_enter Try.func10, Try.ntmps10
    go_wp2_with (first
      | (go_at_call 21; refine (CU.out _).mono ?_; rintro e w' ⟨rfl, rfl⟩)
      | (go_at_call 22; refine (CF.out _).mono ?_; rintro e w2 ⟨rfl, hb⟩; have S2 := Lib.hid (S1.out.keep hb); have l2 := S2.out.box.loadF; clear hb)
      | (go_at_call 23; refine (CO.out _).mono ?_; rintro e w3 ⟨rfl, hb⟩; have S3 := Lib.hid (S2.out.keep hb); have e3 := S3.out.box.all; clear hb))
    go_ret
    exact ⟨by rw [HQ.out]; rfl, S3.out.bel⟩
  case neg =>
    have HQ := Lib.hid (HC2.out.trans ((if_pos rfl).trans (if_neg hn)))
    have hn' : ¬ (32 : Int) < (b.nm.size : Int) := by omega
    clear HC2 hn
    go_enter Try.func10, Try.ntmps10
    go_wp2_with (first
      | (go_at_call 21; refine (CU.out _).mono ?_; rintro e w' ⟨rfl, rfl⟩)
      | (go_at_call 22; refine (CF.out _).mono ?_; rintro e w2 ⟨rfl, hb⟩; have S2 := Lib.hid (S1.out.keep hb); have l2 := S2.out.box.loadF; clear hb)
      | (go_at_call 23; refine (CO.out _).mono ?_; rintro e w3 ⟨rfl, hb⟩; have S3 := Lib.hid (S2.out.keep hb); have e3 := S3.out.box.all; clear hb))
    go_ret
    exact ⟨by rw [HQ.out]; rfl, S3.out.bel⟩

theorem wr_new15 (w : World) : Wr (w.alloc (.cells #[.int .i64 0, .pointer none, .string ⟨#[]⟩] 44)) w.heap.size [] := ⟨none, ⟨#[]⟩, [], Blk.new _ _ _ _ rfl, .nil, rfl⟩
/-- The body's copy, a Writer behind it, all else as it was. -/
structure Ens (w : World) (g : Nat) (b : Bd) (L : List UInt8) (wi : World) : Prop where
  st : Stb w b wi
  wr : Wr wi g L
  le : w.heap.size < g
theorem Ens.new {w w1 : World} {b : Bd} (h : Stb w b w1) : Ens w w1.heap.size b [] (w1.alloc (.cells #[.int .i64 0, .pointer none, .string ⟨#[]⟩] 44)) :=
  ⟨h.keep ((Below.refl _ _).alloc (Nat.le_refl _) _), wr_new15 w1, h.box.lt⟩
theorem Ens.put {w wi w' : World} {g : Nat} {b : Bd} {L L' : List UInt8} (h : Ens w g b L wi) (h1 : Wr w' g L') (h2 : But g wi w') : Ens w g b L' w' := by
  have hle := h.le
  exact ⟨⟨(h2.block _ h.st.box.lt (by omega)).trans h.st.box, h.st.bel.trans (h2.below h.st.bel.size (by omega))⟩, h1, h.le⟩

set_option maxRecDepth 100000 in
set_option maxHeartbeats 4000000 in
theorem mgEncode_any (b : Bd) (w : World) (hb : BdW b) :
    Calls Try.prog 8 #[Bd_.v b] w fun e w' => e = .returned (.tuple #[.string (enc b), .int .i64 (chk b)]) ∧ Below w.heap.size w w' := by
  obtain ⟨w1, hw1⟩ : ∃ w1, w.alloc (.cells (Bd_.C b) 27) = w1 := ⟨_, rfl⟩
  have S1 := Lib.hid (show Stb w b w1 from hw1 ▸ Stb.new w b)
  have l1 := S1.out.box.loadF
  have CC := Lib.hid fun w => mgCheck_any b w hb
  by_cases h0 : chk b = 0
  case neg =>
    have HE : Hid (enc b = ⟨#[]⟩) := if_neg h0
    have h0' : (chk b != 0) = true := by simp; exact h0
    generalize chk b = r at *
    clear h0 hb
    go_enter Try.func8, Try.ntmps8
    go_wp2_with (go_at_call 10; refine (CC.out _).mono ?_; rintro e w2 ⟨rfl, hb⟩; have S2 := Lib.hid (S1.out.keep hb); clear hb l1)
    go_returns
    exact ⟨by rw [HE.out]; rfl, S2.out.bel⟩
  have hf := fit hb h0
  have hk := (chk_ok.1 h0).1
  have HE : Hid (enc b = oz (ow b.kd 1 ++ wF (us b.kd) b)) := (if_pos h0).trans (by rw [wF_rst hk]; rfl)
  have hlen : (ow b.kd 1 ++ wF (us b.kd) b).length ≤ 3010 := by rw [wF_rst hk]; exact octs_len b (by have := hf.nm; omega)
  have CP : Hid (∀ g w1, Ens w g b [] w1 → Calls Try.prog 17 #[.pointer (some ⟨g, 0, none⟩), .int .i64 b.kd, .int .i64 1] w1 fun e w' => e = .returned (.tuple #[]) ∧ Ens w g b (ow b.kd 1) w') := fun g w1 h1 => by
    have hkd := hf.kd
    have c := put_ok g [] b.kd.toNat 1 w1 h1.wr (by decide) (by decide) (by rw [show pow 1 = 256 from by decide]; omega) (by simp)
    rw [Int.toNat_of_nonneg (by omega)] at c
    exact c.mono fun _ _ q => ⟨q.1, h1.put q.2.1 q.2.2⟩
  have CW : Hid (∀ g w1, Ens w g b (ow b.kd 1) w1 → Calls Try.prog 18 #[.pointer (some ⟨g, 0, none⟩), Bd_.v b] w1 fun e w' => e = .returned (.tuple #[]) ∧ Ens w g b (ow b.kd 1 ++ wF (us b.kd) b) w') := fun g w1 h1 => by
    have c := mgWriteF_any b g _ w1 h1.wr hf (by rw [ow_len]; decide)
    exact c.mono fun _ _ q => ⟨q.1, h1.put q.2.1 q.2.2⟩
  have CD : Hid (∀ g w1, Ens w g b (ow b.kd 1 ++ wF (us b.kd) b) w1 → Calls Try.prog 19 #[.pointer (some ⟨g, 0, none⟩)] w1 fun e w' => e = .returned (.tuple #[.string (oz (ow b.kd 1 ++ wF (us b.kd) b)), .int .i64 0]) ∧ Stb w b w') := fun g w1 h1 =>
    (done_ok g _ w1 h1.wr (by omega)).mono fun _ _ q => ⟨q.1, h1.st.keep q.2⟩
  rw [h0] at CC ⊢
  generalize hL : ow b.kd 1 ++ wF (us b.kd) b = LL at *
  generalize ow b.kd 1 = L0 at *
  clear hL hb hk hf hlen h0
  go_enter Try.func8, Try.ntmps8
  go_wp2_with (first
    | (go_at_call 10; refine (CC.out _).mono ?_; rintro e w2 ⟨rfl, hb⟩; have S2 := Lib.hid (S1.out.keep hb); have E2 := Lib.hid (Ens.new S2.out); have e2 := E2.out.st.box.all; clear hb l1)
    | (go_at_call 17; refine (CP.out _ _ E2.out).mono ?_; rintro e w3 ⟨rfl, h3⟩; have E3 := Lib.hid h3; have l3 := h3.st.box.loadF; clear h3)
    | (go_at_call 18; refine (CW.out _ _ E3.out).mono ?_; rintro e w4 ⟨rfl, h4⟩; have E4 := Lib.hid h4; clear h4)
    | (go_at_call 19; refine (CD.out _ _ E4.out).mono ?_; rintro e w5 ⟨rfl, h5⟩; have E5 := Lib.hid h5; clear h5))
  go_returns
  exact ⟨by rw [HE.out]; rfl, E5.out.bel⟩
end Go.Proofs.Ytcpfkikifhcdmaa
