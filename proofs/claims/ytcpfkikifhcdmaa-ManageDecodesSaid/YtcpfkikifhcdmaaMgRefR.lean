/-
  WALKS of the reference of layer 15: Single, plan, ranges.
-/
import Derived.Test.YtcpfkikifhcdmaaMgRefF
import Derived.Test.YtcpfkikifhcdmaaAdRef
namespace Go.Mg
/-- The fields that have one range in all kinds. -/
def all8 (b : Bd) : Bool := wn b.st 0 255 && (wn b.hn 0 65535 && (wn b.dv 0 15 && (wn b.ai 0 63 && (wn b.ct 0 3 && (wn b.sr 0 4095 && (wn b.sz 0 64 && wn b.cn 0 255))))))
/-- The rest. -/
def finK (b : Bd) : Bool :=
  if b.kd = 1 then wn b.sp 1 4
  else if b.kd = 2 then !b.nm.toList.isEmpty && wn b.ls 1 255
  else if b.kd = 3 then (!b.nm.toList.isEmpty && wn b.ls 1 255) && sgl b.od
  else if b.kd = 6 then decide (0 < b.sz)
  else if b.kd = 9 then wn b.ch 1 8
  else if b.kd = 10 ∨ b.kd = 11 then (plf b || wop b)
  else if b.kd = 12 then sgl b.od
  else true
theorem wn0 : wn 0 0 255 = true ∧ wn 0 0 65535 = true ∧ wn 0 0 15 = true ∧ wn 0 0 63 = true ∧ wn 0 0 3 = true ∧ wn 0 0 4095 = true ∧ wn 0 0 64 = true := ⟨rfl, rfl, rfl, rfl, rfl, rfl, rfl⟩
theorem empty_b (s : ByteArray) : (!s.toList.isEmpty) = decide (s.size ≠ 0) := by
  have h : s.toList.isEmpty = decide (s.size = 0) := by
    rw [ByteArray.toList_eq]
    obtain ⟨⟨l⟩⟩ := s
    cases l <;> simp [ByteArray.size]
  rw [h]
  by_cases e : s.size = 0 <;> simp [e]
theorem sz_b (n : Int) : wn n 1 64 = (wn n 0 64 && decide (0 < n)) := by
  unfold wn
  rw [Bool.eq_iff_iff]
  simp only [Bool.and_eq_true, decide_eq_true_iff]
  omega
set_option maxHeartbeats 2000000 in
theorem rng_ref {b : Bd} (hk : isK b.kd) (hu : usB b = b) : rng b = (all8 b && finK b) := by
  have hz : zb = ⟨0, 0, 0, 0, ⟨#[]⟩, 0, 0, 0, 0, 0, 0, 0, 0, 0, 0, 0, 0⟩ := rfl
  obtain ⟨q1, q2, q3, q4, q5, q6, q7⟩ := wn0
  have hw : b.kd = 10 → wop b = false := fun e => by unfold wop; rw [e]; rfl
  unfold rng finK
  rw [empty_b]
  unfold usB at hu
  rw [hz] at hu
  generalize hd : b.kd = k at hk hw
  rcases kinds hk with rfl | rfl | rfl | rfl | rfl | rfl | rfl | rfl | rfl | rfl | rfl | rfl
  all_goals
    simp only [hd, Int.reduceEq, if_true, if_false, or_false, or_true] at hu ⊢
    rw [← hu]
    simp only [all8, q1, q2, q3, q4, q5, q6, q7, Bool.and_true, Bool.true_and, sz_b] <;> first | rfl | exact (Bool.or_false _).symm | ac_rfl
end Go.Mg
namespace Go.Proofs.Ytcpfkikifhcdmaa
open Go.RowKit Go.Mg Go.Ad
attribute [local go_sem ↓ high] Bd_.loadF Bd_.storeF Bd_.v_cells Bd_.v_match Bd_.loadP
attribute [local go_sem] Bd_.loadF_new

set_option maxHeartbeats 2000000 in
theorem refSgl15_any (a : Int) (w : World) (h0 : 0 ≤ a) (h1 : a < 18446744073709551616) :
    Calls Try.prog 53 #[.int .u64 a] w fun e w' => e = .returned (.bool (sgl a)) ∧ w = w' := by
  have CV : Hid (∀ w, Calls Try.prog 68 #[.int .u64 a] w fun e w' => e = .returned (.bool (vald a.toNat)) ∧ w = w') := fun w => by
    have := refValid5_any a.toNat w
    rwa [Int.toNat_of_nonneg h0] at this
  have CG : Hid (∀ w, Calls Try.prog 69 #[.int .u64 a] w fun e w' => e = .returned (.bool (grp a.toNat)) ∧ w = w') := fun w => by
    have := refGroup5_any a.toNat w (by omega)
    rwa [Int.toNat_of_nonneg h0] at this
  have HS : Hid (sgl a = (vald a.toNat && !grp a.toNat)) := rfl
  clear h0 h1
  cases g1 : vald a.toNat <;> rw [g1] at CV HS <;> clear g1
  all_goals
    go_enter Try.func53, Try.ntmps53
    go_wp2_with (first | (go_at_call 68; refine (CV.out _).mono ?_; rintro e w' ⟨rfl, rfl⟩) | (go_at_call 69; refine (CG.out _).mono ?_; rintro e w' ⟨rfl, rfl⟩))
    go_ret
    exact ⟨by rw [HS.out]; rfl, rfl⟩

/-- The plan in its own block, beside the body's copy. -/
theorem plan_new (W : World) (a p l : Int) : W.alloc (.cells (Bd_.PC a p l) 25) = W.alloc (.cells #[.int .i64 a, .int .i64 p, .int .i64 l] 25) := rfl

set_option maxRecDepth 100000 in
set_option maxHeartbeats 4000000 in
theorem refPlan15_any (b : Bd) (w : World) :
    Calls Try.prog 54 #[Bd_.v b] w fun e w' => e = .returned (.bool (plf b || wop b)) ∧ Below w.heap.size w w' := by
  obtain ⟨w1, hw1⟩ : ∃ w1, w.alloc (.cells (Bd_.C b) 27) = w1 := ⟨_, rfl⟩
  have S1 := Lib.hid (show Stb w b w1 from hw1 ▸ Stb.new w b)
  have e0 : w1.cell? ⟨w.heap.size, 0, none⟩ = some (.int .i64 b.kd) := S1.out.box.all 0
  have lp := S1.out.box.loadP
  have S2 := Lib.hid (S1.out.keep ((Below.refl _ _).alloc (Nat.le_refl _) (.cells #[.int .i64 b.pf, .int .i64 b.pp, .int .i64 b.pl] 25)))
  have g0 : (w1.alloc (.cells #[.int .i64 b.pf, .int .i64 b.pp, .int .i64 b.pl] 25)).cell? ⟨w.heap.size, 0, none⟩ = some (.int .i64 b.kd) := S2.out.box.all 0
  have g2 : (w1.alloc (.cells #[.int .i64 b.pf, .int .i64 b.pp, .int .i64 b.pl] 25)).cell? ⟨w.heap.size, 2, none⟩ = some (.int .i64 b.st) := S2.out.box.all 2
  have q0 : (w1.alloc (.cells #[.int .i64 b.pf, .int .i64 b.pp, .int .i64 b.pl] 25)).cell? ⟨w1.heap.size, 0, none⟩ = some (.int .i64 b.pf) := by simp
  have q1 : (w1.alloc (.cells #[.int .i64 b.pf, .int .i64 b.pp, .int .i64 b.pl] 25)).cell? ⟨w1.heap.size, 1, none⟩ = some (.int .i64 b.pp) := by simp
  have q2 : (w1.alloc (.cells #[.int .i64 b.pf, .int .i64 b.pp, .int .i64 b.pl] 25)).cell? ⟨w1.heap.size, 2, none⟩ = some (.int .i64 b.pl) := by simp
  have lq := Bd_.loadP_of q0 q1 q2
  have pe := plan_eql b
  have pg := fun op x y => plan_gd op x y b.pf b.pp b.pl 0 0 0
  have C1 := Lib.hid fun w => refIn15_any b.pf 0 16777216 w
  have C2 := Lib.hid fun w => refIn15_any b.pp 1 65535 w
  have C3 := Lib.hid fun w => refIn15_any b.pl 1 b.pp w
  have HP : Hid (plf b = (wn b.pf 0 16777216 && (wn b.pp 1 65535 && wn b.pl 1 b.pp))) := rfl
  have HQ : Hid (wop b = (decide (b.kd = 11) && (b.st != 0 && pz b))) := rfl
  cases hq : wop b
  case true =>
    rw [hq] at HQ
    have h1 := HQ.out.symm
    rw [Bool.and_eq_true, Bool.and_eq_true, decide_eq_true_iff] at h1
    obtain ⟨d1, d2, d3⟩ := h1
    have d1' : (b.kd == 11) = true := by rw [d1]; rfl
    rw [d3] at pe
    clear HQ hq d1 d3 HP
    go_enter Try.func54, Try.ntmps54
    go_wp2
    go_ret
    exact ⟨by rw [Bool.or_true]; rfl, S2.out.bel⟩
  case false =>
    rw [hq] at HQ
    have hcase : (b.kd == 11) = false ∨ ((b.kd == 11) = true ∧ (b.st != 0) = false) ∨ ((b.kd == 11) = true ∧ (b.st != 0) = true ∧ pz b = false) := by
      have h1 := HQ.out.symm
      by_cases e : b.kd = 11
      · rw [decide_eq_true e, Bool.true_and] at h1
        have e' : (b.kd == 11) = true := by rw [e]; rfl
        cases hs : (b.st != 0)
        · exact .inr (.inl ⟨e', rfl⟩)
        · rw [hs, Bool.true_and] at h1; exact .inr (.inr ⟨e', rfl, h1⟩)
      · exact .inl (by rw [beq_eq_false_iff_ne]; exact e)
    rw [Bool.or_false]
    clear HQ hq
    cases r1 : wn b.pf 0 16777216 <;> rw [r1] at C1 HP
    case' true => cases r2 : wn b.pp 1 65535 <;> rw [r2] at C2 HP
    all_goals
      clear r1
      first | clear r2 | skip
      rcases hcase with d1 | ⟨d1, d2⟩ | ⟨d1, d2, d3⟩
      all_goals
        first | (rw [d3] at pe; clear d3) | skip
        go_enter Try.func54, Try.ntmps54
        go_wp2_with (first
          | (go_at_call 52; with_reducible refine (C1.out _).mono ?_; rintro e w' ⟨rfl, rfl⟩)
          | (go_at_call 52; with_reducible refine (C2.out _).mono ?_; rintro e w' ⟨rfl, rfl⟩)
          | (go_at_call 52; with_reducible refine (C3.out _).mono ?_; rintro e w' ⟨rfl, rfl⟩))
        go_ret
        exact ⟨by rw [HP.out]; rfl, S2.out.bel⟩
end Go.Proofs.Ytcpfkikifhcdmaa
