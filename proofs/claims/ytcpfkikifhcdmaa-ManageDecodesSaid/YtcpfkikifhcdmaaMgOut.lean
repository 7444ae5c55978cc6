/-
  WALKS of package manage: outside.
-/
import Derived.Test.YtcpfkikifhcdmaaMgProg
import Derived.Test.YtcpfkikifhcdmaaLexFast
namespace Go.Proofs.Ytcpfkikifhcdmaa
open Go.RowKit Go.Mg Go.Ad
attribute [local go_sem ↓ high] Bd_.loadF Bd_.storeF Bd_.v_cells Bd_.v_match Bd_.loadP
attribute [local go_sem] Bd_.C0 Bd_.C1 Bd_.C2 Bd_.C3 Bd_.C4 Bd_.C5 Bd_.C6 Bd_.C7 Bd_.C8 Bd_.C9 Bd_.C10 Bd_.C11 Bd_.C12 Bd_.C13 Bd_.C14 Bd_.C15 Bd_.C16 Bd_.loadF_new

/-- The chain of outside, as the walk leaves it. -/
def obx (b : Bd) (ll : Int) (o p : Bool) : Int := bits .or .i64 (bits .or .i64 (bits .or .i64 (bits .or .i64 (bits .or .i64 (bits .or .i64 (bits .or .i64 (bits .or .i64 (bits .or .i64 (bits .or .i64 (bits .or .i64 (bits .or .i64 (bits .or .i64 (wh (!wn b.sp 1 4) 1) (wh (!wn b.st 0 255) 2)) (wh (!wn b.hn 0 65535) 4)) (wh (b.nm.toList.isEmpty) 8)) (wh (!wn b.ls 1 255) 16)) (wh (!wn b.dv 0 15) 32)) (wh o 64)) (wh (!wn b.ai 0 63) 128)) (wh (!wn b.ct 0 3) 256)) (wh (!wn b.sr 0 4095) 512)) (wh (!wn b.sz ll 64) 1024)) (wh (!wn b.ch 1 8) 2048)) (wh (!wn b.cn 0 255) 4096)) (wh p 8192)
structure ObC (b : Bd) (ll : Int) (vd gp pl : Bool) : Prop where
  CL : ∀ w, Calls Try.prog 49 #[.int .i64 b.kd] w fun e w' => e = .returned (.int .i64 ll) ∧ w = w'
  CP : ∀ w, Calls Try.prog 50 #[.agg #[.int .i64 b.pf, .int .i64 b.pp, .int .i64 b.pl]] w fun e w' => e = .returned (.bool pl) ∧ Below w.heap.size w w'
  CV : ∀ w, Calls Try.prog 46 #[.int .u64 b.od] w fun e w' => e = .returned (.bool vd) ∧ w = w'
  CG : ∀ w, Calls Try.prog 47 #[.int .u64 b.od] w fun e w' => e = .returned (.bool gp) ∧ w = w'

set_option maxRecDepth 100000 in
set_option maxHeartbeats 4000000 in
theorem mgOutside_true_true (b : Bd) (w : World) (ll : Int) (gp : Bool) (c : ObC b ll true gp true) :
    Calls Try.prog 23 #[Bd_.v b] w fun e w' => e = .returned (.int .i64 (obx b ll gp false)) ∧ Below w.heap.size w w' := by
  obtain ⟨CL, CP, CV, CG⟩ := c
  have CL := Lib.hid CL
  have CP := Lib.hid CP
  have CV := Lib.hid CV
  have CG := Lib.hid CG
  have CW := Lib.hid mgWhen_any
  have CI := Lib.hid mgWithin_any
  have CQ := Lib.hid mgSeq_any
  have CO := Lib.hid fun w => mgWithout_any b w
  have HF : Hid (obx b ll gp false = bits .or .i64 (bits .or .i64 (bits .or .i64 (bits .or .i64 (bits .or .i64 (bits .or .i64 (bits .or .i64 (bits .or .i64 (bits .or .i64 (bits .or .i64 (bits .or .i64 (bits .or .i64 (bits .or .i64 (wh (!wn b.sp 1 4) 1) (wh (!wn b.st 0 255) 2)) (wh (!wn b.hn 0 65535) 4)) (wh (b.nm.toList.isEmpty) 8)) (wh (!wn b.ls 1 255) 16)) (wh (!wn b.dv 0 15) 32)) (wh gp 64)) (wh (!wn b.ai 0 63) 128)) (wh (!wn b.ct 0 3) 256)) (wh (!wn b.sr 0 4095) 512)) (wh (!wn b.sz ll 64) 1024)) (wh (!wn b.ch 1 8) 2048)) (wh (!wn b.cn 0 255) 4096)) (wh false 8192)) := rfl
  obtain ⟨w1, hw1⟩ : ∃ w1, w.alloc (.cells (Bd_.C b) 27) = w1 := ⟨_, rfl⟩
  have S1 := Lib.hid (show Stb w b w1 from hw1 ▸ Stb.new w b)
  go_enter Try.func23, Try.ntmps23
  go_wp2
  have hc : ∀ (p : Of (Stb w b)) (j : Nat), p.w.cell? ⟨w.heap.size, j, none⟩ = (Bd_.C b)[j]? := fun p => p.ok.box.all
  have lp : ∀ (p : Of (Stb w b)), (Bd_.LoadP ⟨w.heap.size, 14, none⟩).run Try.prog p.w = .ok (.agg #[.int .i64 b.pf, .int .i64 b.pp, .int .i64 b.pl]) p.w := fun p => p.ok.box.loadP
  have lf : ∀ (p : Of (Stb w b)), (Bd_.LoadF ⟨w.heap.size, 0, none⟩).run Try.prog p.w = .ok (Bd_.v b) p.w := fun p => p.ok.box.loadF
  have _ne : Nonempty (Of (Stb w b)) := ⟨⟨_, S1.out⟩⟩
  refine wp_region_of (Stb w b) (by kernel_rfl) (Region.lexB_of_fast (by kernel_rfl)) S1.out.drew ?_
  repeat (quiet_step (first
    | (go_at_call 44; exact Calls.of_same (CW.out _ _ _))
    | (go_at_call 45; exact Calls.of_same (CI.out _ _ _ _))
    | (go_at_call 48; exact Calls.of_same (CQ.out _ _))
    | (go_at_call 49; exact Calls.of_same (CL.out _))
    | (go_at_call 46; exact Calls.of_same (CV.out _))
    | (go_at_call 47; exact Calls.of_same (CG.out _))
    | (go_at_call 50; exact Calls.of_below Stb.keep' (CP.out _))
    | (go_at_call 51; exact Calls.of_below Stb.keep' (CO.out _))))
  refine wpQuiet_nil ?_
  rintro _ ⟨p, rfl⟩
  clear hc lp lf
  go_wp2
  go_returns
  exact ⟨by rw [HF.out]; rfl, p.ok.bel⟩

set_option maxRecDepth 100000 in
set_option maxHeartbeats 4000000 in
theorem mgOutside_true_false (b : Bd) (w : World) (ll : Int) (gp : Bool) (c : ObC b ll true gp false) :
    Calls Try.prog 23 #[Bd_.v b] w fun e w' => e = .returned (.int .i64 (obx b ll gp (!wop b))) ∧ Below w.heap.size w w' := by
  obtain ⟨CL, CP, CV, CG⟩ := c
  have CL := Lib.hid CL
  have CP := Lib.hid CP
  have CV := Lib.hid CV
  have CG := Lib.hid CG
  have CW := Lib.hid mgWhen_any
  have CI := Lib.hid mgWithin_any
  have CQ := Lib.hid mgSeq_any
  have CO := Lib.hid fun w => mgWithout_any b w
  have HF : Hid (obx b ll gp (!wop b) = bits .or .i64 (bits .or .i64 (bits .or .i64 (bits .or .i64 (bits .or .i64 (bits .or .i64 (bits .or .i64 (bits .or .i64 (bits .or .i64 (bits .or .i64 (bits .or .i64 (bits .or .i64 (bits .or .i64 (wh (!wn b.sp 1 4) 1) (wh (!wn b.st 0 255) 2)) (wh (!wn b.hn 0 65535) 4)) (wh (b.nm.toList.isEmpty) 8)) (wh (!wn b.ls 1 255) 16)) (wh (!wn b.dv 0 15) 32)) (wh gp 64)) (wh (!wn b.ai 0 63) 128)) (wh (!wn b.ct 0 3) 256)) (wh (!wn b.sr 0 4095) 512)) (wh (!wn b.sz ll 64) 1024)) (wh (!wn b.ch 1 8) 2048)) (wh (!wn b.cn 0 255) 4096)) (wh (!wop b) 8192)) := rfl
  obtain ⟨w1, hw1⟩ : ∃ w1, w.alloc (.cells (Bd_.C b) 27) = w1 := ⟨_, rfl⟩
  have S1 := Lib.hid (show Stb w b w1 from hw1 ▸ Stb.new w b)
  go_enter Try.func23, Try.ntmps23
  go_wp2
  have hc : ∀ (p : Of (Stb w b)) (j : Nat), p.w.cell? ⟨w.heap.size, j, none⟩ = (Bd_.C b)[j]? := fun p => p.ok.box.all
  have lp : ∀ (p : Of (Stb w b)), (Bd_.LoadP ⟨w.heap.size, 14, none⟩).run Try.prog p.w = .ok (.agg #[.int .i64 b.pf, .int .i64 b.pp, .int .i64 b.pl]) p.w := fun p => p.ok.box.loadP
  have lf : ∀ (p : Of (Stb w b)), (Bd_.LoadF ⟨w.heap.size, 0, none⟩).run Try.prog p.w = .ok (Bd_.v b) p.w := fun p => p.ok.box.loadF
  have _ne : Nonempty (Of (Stb w b)) := ⟨⟨_, S1.out⟩⟩
  refine wp_region_of (Stb w b) (by kernel_rfl) (Region.lexB_of_fast (by kernel_rfl)) S1.out.drew ?_
  repeat (quiet_step (first
    | (go_at_call 44; exact Calls.of_same (CW.out _ _ _))
    | (go_at_call 45; exact Calls.of_same (CI.out _ _ _ _))
    | (go_at_call 48; exact Calls.of_same (CQ.out _ _))
    | (go_at_call 49; exact Calls.of_same (CL.out _))
    | (go_at_call 46; exact Calls.of_same (CV.out _))
    | (go_at_call 47; exact Calls.of_same (CG.out _))
    | (go_at_call 50; exact Calls.of_below Stb.keep' (CP.out _))
    | (go_at_call 51; exact Calls.of_below Stb.keep' (CO.out _))))
  refine wpQuiet_nil ?_
  rintro _ ⟨p, rfl⟩
  clear hc lp lf
  go_wp2
  go_returns
  exact ⟨by rw [HF.out]; rfl, p.ok.bel⟩

set_option maxRecDepth 100000 in
set_option maxHeartbeats 4000000 in
theorem mgOutside_false_true (b : Bd) (w : World) (ll : Int) (gp : Bool) (c : ObC b ll false gp true) :
    Calls Try.prog 23 #[Bd_.v b] w fun e w' => e = .returned (.int .i64 (obx b ll true false)) ∧ Below w.heap.size w w' := by
  obtain ⟨CL, CP, CV, CG⟩ := c
  have CL := Lib.hid CL
  have CP := Lib.hid CP
  have CV := Lib.hid CV
  have CG := Lib.hid CG
  have CW := Lib.hid mgWhen_any
  have CI := Lib.hid mgWithin_any
  have CQ := Lib.hid mgSeq_any
  have CO := Lib.hid fun w => mgWithout_any b w
  have HF : Hid (obx b ll true false = bits .or .i64 (bits .or .i64 (bits .or .i64 (bits .or .i64 (bits .or .i64 (bits .or .i64 (bits .or .i64 (bits .or .i64 (bits .or .i64 (bits .or .i64 (bits .or .i64 (bits .or .i64 (bits .or .i64 (wh (!wn b.sp 1 4) 1) (wh (!wn b.st 0 255) 2)) (wh (!wn b.hn 0 65535) 4)) (wh (b.nm.toList.isEmpty) 8)) (wh (!wn b.ls 1 255) 16)) (wh (!wn b.dv 0 15) 32)) (wh true 64)) (wh (!wn b.ai 0 63) 128)) (wh (!wn b.ct 0 3) 256)) (wh (!wn b.sr 0 4095) 512)) (wh (!wn b.sz ll 64) 1024)) (wh (!wn b.ch 1 8) 2048)) (wh (!wn b.cn 0 255) 4096)) (wh false 8192)) := rfl
  obtain ⟨w1, hw1⟩ : ∃ w1, w.alloc (.cells (Bd_.C b) 27) = w1 := ⟨_, rfl⟩
  have S1 := Lib.hid (show Stb w b w1 from hw1 ▸ Stb.new w b)
  go_enter Try.func23, Try.ntmps23
  go_wp2
  have hc : ∀ (p : Of (Stb w b)) (j : Nat), p.w.cell? ⟨w.heap.size, j, none⟩ = (Bd_.C b)[j]? := fun p => p.ok.box.all
  have lp : ∀ (p : Of (Stb w b)), (Bd_.LoadP ⟨w.heap.size, 14, none⟩).run Try.prog p.w = .ok (.agg #[.int .i64 b.pf, .int .i64 b.pp, .int .i64 b.pl]) p.w := fun p => p.ok.box.loadP
  have lf : ∀ (p : Of (Stb w b)), (Bd_.LoadF ⟨w.heap.size, 0, none⟩).run Try.prog p.w = .ok (Bd_.v b) p.w := fun p => p.ok.box.loadF
  have _ne : Nonempty (Of (Stb w b)) := ⟨⟨_, S1.out⟩⟩
  refine wp_region_of (Stb w b) (by kernel_rfl) (Region.lexB_of_fast (by kernel_rfl)) S1.out.drew ?_
  repeat (quiet_step (first
    | (go_at_call 44; exact Calls.of_same (CW.out _ _ _))
    | (go_at_call 45; exact Calls.of_same (CI.out _ _ _ _))
    | (go_at_call 48; exact Calls.of_same (CQ.out _ _))
    | (go_at_call 49; exact Calls.of_same (CL.out _))
    | (go_at_call 46; exact Calls.of_same (CV.out _))
    | (go_at_call 47; exact Calls.of_same (CG.out _))
    | (go_at_call 50; exact Calls.of_below Stb.keep' (CP.out _))
    | (go_at_call 51; exact Calls.of_below Stb.keep' (CO.out _))))
  refine wpQuiet_nil ?_
  rintro _ ⟨p, rfl⟩
  clear hc lp lf
  go_wp2
  go_returns
  exact ⟨by rw [HF.out]; rfl, p.ok.bel⟩

set_option maxRecDepth 100000 in
set_option maxHeartbeats 4000000 in
theorem mgOutside_false_false (b : Bd) (w : World) (ll : Int) (gp : Bool) (c : ObC b ll false gp false) :
    Calls Try.prog 23 #[Bd_.v b] w fun e w' => e = .returned (.int .i64 (obx b ll true (!wop b))) ∧ Below w.heap.size w w' := by
  obtain ⟨CL, CP, CV, CG⟩ := c
  have CL := Lib.hid CL
  have CP := Lib.hid CP
  have CV := Lib.hid CV
  have CG := Lib.hid CG
  have CW := Lib.hid mgWhen_any
  have CI := Lib.hid mgWithin_any
  have CQ := Lib.hid mgSeq_any
  have CO := Lib.hid fun w => mgWithout_any b w
  have HF : Hid (obx b ll true (!wop b) = bits .or .i64 (bits .or .i64 (bits .or .i64 (bits .or .i64 (bits .or .i64 (bits .or .i64 (bits .or .i64 (bits .or .i64 (bits .or .i64 (bits .or .i64 (bits .or .i64 (bits .or .i64 (bits .or .i64 (wh (!wn b.sp 1 4) 1) (wh (!wn b.st 0 255) 2)) (wh (!wn b.hn 0 65535) 4)) (wh (b.nm.toList.isEmpty) 8)) (wh (!wn b.ls 1 255) 16)) (wh (!wn b.dv 0 15) 32)) (wh true 64)) (wh (!wn b.ai 0 63) 128)) (wh (!wn b.ct 0 3) 256)) (wh (!wn b.sr 0 4095) 512)) (wh (!wn b.sz ll 64) 1024)) (wh (!wn b.ch 1 8) 2048)) (wh (!wn b.cn 0 255) 4096)) (wh (!wop b) 8192)) := rfl
  obtain ⟨w1, hw1⟩ : ∃ w1, w.alloc (.cells (Bd_.C b) 27) = w1 := ⟨_, rfl⟩
  have S1 := Lib.hid (show Stb w b w1 from hw1 ▸ Stb.new w b)
  go_enter Try.func23, Try.ntmps23
  go_wp2
  have hc : ∀ (p : Of (Stb w b)) (j : Nat), p.w.cell? ⟨w.heap.size, j, none⟩ = (Bd_.C b)[j]? := fun p => p.ok.box.all
  have lp : ∀ (p : Of (Stb w b)), (Bd_.LoadP ⟨w.heap.size, 14, none⟩).run Try.prog p.w = .ok (.agg #[.int .i64 b.pf, .int .i64 b.pp, .int .i64 b.pl]) p.w := fun p => p.ok.box.loadP
  have lf : ∀ (p : Of (Stb w b)), (Bd_.LoadF ⟨w.heap.size, 0, none⟩).run Try.prog p.w = .ok (Bd_.v b) p.w := fun p => p.ok.box.loadF
  have _ne : Nonempty (Of (Stb w b)) := ⟨⟨_, S1.out⟩⟩
  refine wp_region_of (Stb w b) (by kernel_rfl) (Region.lexB_of_fast (by kernel_rfl)) S1.out.drew ?_
  repeat (quiet_step (first
    | (go_at_call 44; exact Calls.of_same (CW.out _ _ _))
    | (go_at_call 45; exact Calls.of_same (CI.out _ _ _ _))
    | (go_at_call 48; exact Calls.of_same (CQ.out _ _))
    | (go_at_call 49; exact Calls.of_same (CL.out _))
    | (go_at_call 46; exact Calls.of_same (CV.out _))
    | (go_at_call 47; exact Calls.of_same (CG.out _))
    | (go_at_call 50; exact Calls.of_below Stb.keep' (CP.out _))
    | (go_at_call 51; exact Calls.of_below Stb.keep' (CO.out _))))
  refine wpQuiet_nil ?_
  rintro _ ⟨p, rfl⟩
  clear hc lp lf
  go_wp2
  go_returns
  exact ⟨by rw [HF.out]; rfl, p.ok.bel⟩

theorem mgOutside_any (b : Bd) (w : World) (hb : BdW b) :
    Calls Try.prog 23 #[Bd_.v b] w fun e w' => e = .returned (.int .i64 (obf b)) ∧ Below w.heap.size w w' := by
  have C : ObC b (if b.kd = 7 then 0 else 1) (vald b.od.toNat) (grp b.od.toNat) (plf b) := ⟨fun w => mgLeast_any b.kd w, fun w => mgPlan_any b w, fun w => by
    have := valid_any b.od.toNat w
    rwa [Int.toNat_of_nonneg hb.1] at this, fun w => by
    have := group_any b.od.toNat w (by have := hb.2; omega)
    rwa [Int.toNat_of_nonneg hb.1] at this⟩
  have HF : obf b = obx b (if b.kd = 7 then 0 else 1) (!(vald b.od.toNat && !grp b.od.toNat)) (!(plf b || wop b)) := rfl
  rw [HF]
  clear HF
  generalize (if b.kd = 7 then (0 : Int) else 1) = ll at *
  generalize grp b.od.toNat = gp at *
  cases g1 : vald b.od.toNat <;> rw [g1] at C <;> cases g2 : plf b <;> rw [g2] at C
  · exact mgOutside_false_false b w ll gp C
  · exact mgOutside_false_true b w ll gp C
  · rw [Bool.true_and, Bool.not_not]; exact mgOutside_true_false b w ll gp C
  · rw [Bool.true_and, Bool.not_not]; exact mgOutside_true_true b w ll gp C
end Go.Proofs.Ytcpfkikifhcdmaa
