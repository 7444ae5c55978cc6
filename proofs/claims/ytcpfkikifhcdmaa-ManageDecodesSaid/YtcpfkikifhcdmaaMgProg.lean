/-
  WALKS of package manage: usedBy, has, when, within, leastSize, planFits, withoutPlan, Frame, firstLike, filled, outside.
-/
import Derived.Test.YtcpfkikifhcdmaaMgEq
import Derived.Test.YtcpfkikifhcdmaaAdDoneA
import Derived.Test.YtcpfkikifhcdmaaQuietOf
import Derived.Deep.RegionWith
import Derived.BigRegion
namespace Go.Mg
/-- The field, or nothing. -/
def wh (b : Bool) (c : Int) : Int := if b then c else 0
/-- The fields that are filled, as the landed code puts them together. -/
def fif (b : Bd) : Int :=
  bits .or .i64 (bits .or .i64 (bits .or .i64 (bits .or .i64 (bits .or .i64 (bits .or .i64 (bits .or .i64 (bits .or .i64 (bits .or .i64 (bits .or .i64 (bits .or .i64 (bits .or .i64 (bits .or .i64 (wh (b.sp != 0) 1) (wh (b.st != 0) 2)) (wh (b.hn != 0) 4)) (wh (!b.nm.toList.isEmpty) 8)) (wh (b.ls != 0) 16)) (wh (b.dv != 0) 32)) (wh (b.od != 0) 64)) (wh (b.ai != 0) 128)) (wh (b.ct != 0) 256)) (wh (b.sr != 0) 512)) (wh (b.sz != 0) 1024)) (wh (b.ch != 0) 2048)) (wh (b.cn != 0) 4096)) (wh (!pz b) 8192)
/-- The fields out of their ranges, as the landed code puts them together. -/
def obf (b : Bd) : Int :=
  bits .or .i64 (bits .or .i64 (bits .or .i64 (bits .or .i64 (bits .or .i64 (bits .or .i64 (bits .or .i64 (bits .or .i64 (bits .or .i64 (bits .or .i64 (bits .or .i64 (bits .or .i64 (bits .or .i64 (wh (!wn b.sp 1 4) 1) (wh (!wn b.st 0 255) 2)) (wh (!wn b.hn 0 65535) 4)) (wh (b.nm.toList.isEmpty) 8)) (wh (!wn b.ls 1 255) 16)) (wh (!wn b.dv 0 15) 32)) (wh (!sgl b.od) 64)) (wh (!wn b.ai 0 63) 128)) (wh (!wn b.ct 0 3) 256)) (wh (!wn b.sr 0 4095) 512)) (wh (!wn b.sz (if b.kd = 7 then 0 else 1) 64) 1024)) (wh (!wn b.ch 1 8) 2048)) (wh (!wn b.cn 0 255) 4096)) (wh (!(plf b || wop b)) 8192)
end Go.Mg
namespace Go.Proofs.Ytcpfkikifhcdmaa
open Go.RowKit Go.Mg Go.Ad
attribute [local go_sem ↓ high] Bd_.loadF Bd_.storeF Bd_.v_cells Bd_.v_match Bd_.loadP
attribute [local go_sem] Bd_.C0 Bd_.C1 Bd_.C2 Bd_.C3 Bd_.C4 Bd_.C5 Bd_.C6 Bd_.C7 Bd_.C8 Bd_.C9 Bd_.C10 Bd_.C11 Bd_.C12 Bd_.C13 Bd_.C14 Bd_.C15 Bd_.C16 Bd_.loadF_new

set_option maxHeartbeats 2000000 in
theorem mgUsed_any (k : Int) (w : World) :
    Calls Try.prog 21 #[.int .i64 k] w fun e w' => e = .returned (.int .i64 (us k)) ∧ w = w' := by
  by_cases hk : isK k
  · rcases kinds hk with rfl | rfl | rfl | rfl | rfl | rfl | rfl | rfl | rfl | rfl | rfl | rfl
    all_goals
      clear hk
      go_enter Try.func21, Try.ntmps21
      go_wp2
      go_returns
      exact ⟨rfl, rfl⟩
  · rw [us_out hk]
    unfold isK at hk
    have e1 : (k == 1) = false := by rw [beq_eq_false_iff_ne]; omega
    have e2 : (k == 2) = false := by rw [beq_eq_false_iff_ne]; omega
    have e3 : (k == 3) = false := by rw [beq_eq_false_iff_ne]; omega
    have e4 : (k == 4) = false := by rw [beq_eq_false_iff_ne]; omega
    have e5 : (k == 5) = false := by rw [beq_eq_false_iff_ne]; omega
    have e6 : (k == 6) = false := by rw [beq_eq_false_iff_ne]; omega
    have e7 : (k == 7) = false := by rw [beq_eq_false_iff_ne]; omega
    have e8 : (k == 8) = false := by rw [beq_eq_false_iff_ne]; omega
    have e9 : (k == 9) = false := by rw [beq_eq_false_iff_ne]; omega
    have e10 : (k == 10) = false := by rw [beq_eq_false_iff_ne]; omega
    have e11 : (k == 11) = false := by rw [beq_eq_false_iff_ne]; omega
    have e12 : (k == 12) = false := by rw [beq_eq_false_iff_ne]; omega
    clear hk
    go_enter Try.func21, Try.ntmps21
    go_wp2
    go_returns
    exact ⟨rfl, rfl⟩

theorem mgHas_any (s f : Int) (w : World) :
    Calls Try.prog 38 #[.int .i64 s, .int .i64 f] w fun e w' => e = .returned (.bool (bits .and .i64 s f != 0)) ∧ w = w' := by
  go_enter Try.func38, Try.ntmps38
  go_wp2
  go_returns
  exact ⟨rfl, rfl⟩

theorem mgWhen_any (c : Bool) (f : Int) (w : World) :
    Calls Try.prog 44 #[.bool c, .int .i64 f] w fun e w' => e = .returned (.int .i64 (wh c f)) ∧ w = w' := by
  cases c
  all_goals
    go_enter Try.func44, Try.ntmps44
    go_wp2
    go_returns
    exact ⟨rfl, rfl⟩

theorem mgWithin_any (n lo hi : Int) (w : World) :
    Calls Try.prog 45 #[.int .i64 n, .int .i64 lo, .int .i64 hi] w fun e w' => e = .returned (.bool (wn n lo hi)) ∧ w = w' := by
  by_cases h1 : lo ≤ n <;> by_cases h2 : n ≤ hi
  all_goals
    have HW : Hid (wn n lo hi = (decide (lo ≤ n) && decide (n ≤ hi))) := rfl
    first | have H1 : Hid (decide (lo ≤ n) = true) := decide_eq_true h1 | have H1 : Hid (decide (lo ≤ n) = false) := decide_eq_false h1
    first | have H2 : Hid (decide (n ≤ hi) = true) := decide_eq_true h2 | have H2 : Hid (decide (n ≤ hi) = false) := decide_eq_false h2
    go_enter Try.func45, Try.ntmps45
    go_wp2
    go_ret
    exact ⟨by rw [HW.out, H1.out, H2.out]; rfl, rfl⟩

theorem mgLeast_any (k : Int) (w : World) :
    Calls Try.prog 49 #[.int .i64 k] w fun e w' => e = .returned (.int .i64 (if k = 7 then 0 else 1)) ∧ w = w' := by
  by_cases h : k = 7
  · subst h
    go_enter Try.func49, Try.ntmps49
    go_wp2
    go_returns
    exact ⟨rfl, rfl⟩
  · have e : (k == 7) = false := by rw [beq_eq_false_iff_ne]; exact h
    rw [if_neg h]
    go_enter Try.func49, Try.ntmps49
    go_wp2
    go_returns
    exact ⟨rfl, rfl⟩

/-- Numbers are valid from 0 to 4095. -/
theorem mgSeq_any (n : Int) (w : World) :
    Calls Try.prog 48 #[.int .i64 n] w fun e w' => e = .returned (.bool (wn n 0 4095)) ∧ w = w' := by
  by_cases h1 : 0 ≤ n <;> by_cases h2 : n < 4096
  all_goals
    have HW : Hid (wn n 0 4095 = (decide (0 ≤ n) && decide (n < 4096))) := by
      unfold wn Hid; congr 1; rw [decide_eq_decide]; omega
    first | have H1 : Hid (decide (0 ≤ n) = true) := decide_eq_true h1 | have H1 : Hid (decide (0 ≤ n) = false) := decide_eq_false h1
    first | have H2 : Hid (decide (n < 4096) = true) := decide_eq_true h2 | have H2 : Hid (decide (n < 4096) = false) := decide_eq_false h2
    go_enter Try.func48, Try.ntmps48
    go_wp2
    go_ret
    exact ⟨by rw [HW.out, H1.out, H2.out]; rfl, rfl⟩

set_option maxHeartbeats 1000000 in
theorem mgPlan_any (b : Bd) (w : World) :
    Calls Try.prog 50 #[.agg #[.int .i64 b.pf, .int .i64 b.pp, .int .i64 b.pl]] w fun e w' => e = .returned (.bool (plf b)) ∧ Below w.heap.size w w' := by
  have C1 := Lib.hid fun w => mgWithin_any b.pf 0 16777216 w
  have C2 := Lib.hid fun w => mgWithin_any b.pp 1 65535 w
  have C3 := Lib.hid fun w => mgWithin_any b.pl 1 b.pp w
  have HP : Hid (plf b = (wn b.pf 0 16777216 && (wn b.pp 1 65535 && wn b.pl 1 b.pp))) := rfl
  cases g1 : wn b.pf 0 16777216 <;> rw [g1] at C1 HP
  case' true => cases g2 : wn b.pp 1 65535 <;> rw [g2] at C2 HP
  all_goals
    clear g1
    first | clear g2 | skip
    go_enter Try.func50, Try.ntmps50
    go_wp2_with (first
      | (go_at_call 45; with_reducible refine (C1.out _).mono ?_; rintro e w' ⟨rfl, rfl⟩)
      | (go_at_call 45; with_reducible refine (C2.out _).mono ?_; rintro e w' ⟨rfl, rfl⟩)
      | (go_at_call 45; with_reducible refine (C3.out _).mono ?_; rintro e w' ⟨rfl, rfl⟩))
    go_ret
    exact ⟨by rw [HP.out]; rfl, (Below.refl _ _).alloc (Nat.le_refl _) _⟩

set_option maxHeartbeats 1000000 in
theorem mgWithout_any (b : Bd) (w : World) :
    Calls Try.prog 51 #[Bd_.v b] w fun e w' => e = .returned (.bool (wop b)) ∧ Below w.heap.size w w' := by
  obtain ⟨w1, hw1⟩ : ∃ w1, w.alloc (.cells (Bd_.C b) 27) = w1 := ⟨_, rfl⟩
  have S1 := Lib.hid (show Stb w b w1 from hw1 ▸ Stb.new w b)
  have e1 := S1.out.box.all
  have lp := S1.out.box.loadP
  have pe := plan_eql b
  have pg := fun op x y => plan_gd op x y b.pf b.pp b.pl 0 0 0
  have HP : Hid (wop b = (decide (b.kd = 11) && (b.st != 0 && pz b))) := rfl
  by_cases h1 : b.kd = 11
  · have d1 : (b.kd == 11) = true := by rw [h1]; rfl
    rw [decide_eq_true h1] at HP
    cases h2 : (b.st != 0) <;> rw [h2] at HP
    all_goals
      go_enter Try.func51, Try.ntmps51
      go_wp2
      go_ret
      exact ⟨by rw [HP.out]; rfl, S1.out.bel⟩
  · have d1 : (b.kd == 11) = false := by rw [beq_eq_false_iff_ne]; exact h1
    rw [decide_eq_false h1] at HP
    go_enter Try.func51, Try.ntmps51
    go_wp2
    go_ret
    exact ⟨by rw [HP.out]; rfl, S1.out.bel⟩

set_option maxHeartbeats 2000000 in
theorem mgFrame_any (b : Bd) (w : World) :
    Calls Try.prog 12 #[Bd_.v b] w fun e w' => e = .returned (.int .i64 (frk b.kd)) ∧ Below w.heap.size w w' := by
  obtain ⟨w1, hw1⟩ : ∃ w1, w.alloc (.cells (Bd_.C b) 27) = w1 := ⟨_, rfl⟩
  have S1 := Lib.hid (show Stb w b w1 from hw1 ▸ Stb.new w b)
  have c0 : w1.cell? ⟨w.heap.size, 0, none⟩ = some (.int .i64 b.kd) := S1.out.box.all 0
  have CU := Lib.hid fun w => mgUsed_any b.kd w
  have HF : Hid (frk b.kd = frk b.kd) := rfl
  generalize hd : b.kd = k at c0 CU HF ⊢
  by_cases hk : isK k
  · rcases kinds hk with rfl | rfl | rfl | rfl | rfl | rfl | rfl | rfl | rfl | rfl | rfl | rfl
    all_goals
      clear hk hd
      go_enter Try.func12, Try.ntmps12
      go_wp2_with (go_at_call 21; refine (CU.out _).mono ?_; rintro e w' ⟨rfl, rfl⟩)
      go_ret
      exact ⟨rfl, S1.out.bel⟩
  · rw [us_out hk] at CU
    rw [frk_out hk]
    unfold isK at hk
    have e1 : (k == 1) = false := by rw [beq_eq_false_iff_ne]; omega
    have e2 : (k == 2) = false := by rw [beq_eq_false_iff_ne]; omega
    have e3 : (k == 3) = false := by rw [beq_eq_false_iff_ne]; omega
    have e4 : (k == 4) = false := by rw [beq_eq_false_iff_ne]; omega
    have e5 : (k == 5) = false := by rw [beq_eq_false_iff_ne]; omega
    clear hk hd
    go_enter Try.func12, Try.ntmps12
    go_wp2_with (go_at_call 21; refine (CU.out _).mono ?_; rintro e w' ⟨rfl, rfl⟩)
    go_ret
    exact ⟨rfl, S1.out.bel⟩

set_option maxHeartbeats 2000000 in
theorem mgFirst_any (k : Int) (w : World) :
    Calls Try.prog 26 #[.int .i64 k] w fun e w' => e = .returned (.int .i64 (fst k)) ∧ w = w' := by
  rcases fst_vals k with ⟨rfl, h⟩ | ⟨rfl, h⟩ | ⟨hk, h⟩ | ⟨hk, h⟩
  case inr.inr.inl =>
    rcases hk with rfl | rfl | rfl | rfl | rfl | rfl
    all_goals
      clear h
      go_enter Try.func26, Try.ntmps26
      go_wp2
      go_returns
      exact ⟨rfl, rfl⟩
  case inr.inr.inr =>
    rw [h]
    have e4 : (k == 4) = false := by rw [beq_eq_false_iff_ne]; omega
    have e5 : (k == 5) = false := by rw [beq_eq_false_iff_ne]; omega
    have e6 : (k == 6) = false := by rw [beq_eq_false_iff_ne]; omega
    have e7 : (k == 7) = false := by rw [beq_eq_false_iff_ne]; omega
    have e8 : (k == 8) = false := by rw [beq_eq_false_iff_ne]; omega
    have e9 : (k == 9) = false := by rw [beq_eq_false_iff_ne]; omega
    have e10 : (k == 10) = false := by rw [beq_eq_false_iff_ne]; omega
    have e11 : (k == 11) = false := by rw [beq_eq_false_iff_ne]; omega
    clear hk h
    go_enter Try.func26, Try.ntmps26
    go_wp2
    go_returns
    exact ⟨rfl, rfl⟩
  all_goals
    clear h
    go_enter Try.func26, Try.ntmps26
    go_wp2
    go_returns
    exact ⟨rfl, rfl⟩
end Go.Proofs.Ytcpfkikifhcdmaa
