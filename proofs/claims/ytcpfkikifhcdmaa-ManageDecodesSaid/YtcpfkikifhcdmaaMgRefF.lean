/-
  WALKS of the reference of layer 15: in, Frame, Carries.
-/
import Derived.Test.YtcpfkikifhcdmaaMgEq
import Derived.Test.YtcpfkikifhcdmaaQuietOf
import Derived.Deep.RegionWith
import Derived.BigRegion
namespace Go.Proofs.Ytcpfkikifhcdmaa
open Go.RowKit Go.Mg
attribute [local go_sem ↓ high] Bd_.loadF Bd_.storeF Bd_.v_cells Bd_.v_match Bd_.loadP
attribute [local go_sem] Bd_.C0 Bd_.loadF_new

theorem car_b (k c : Int) : car k c = ((frk c != 0) && ((k == frk c) || ((c == 4) && (k == 8)) || ((c == 5) && (k == 10)))) := by
  unfold car
  rw [Bool.eq_iff_iff, decide_eq_true_iff]
  simp only [Bool.and_eq_true, Bool.or_eq_true, beq_iff_eq, bne_iff_ne, ne_eq, or_assoc]

theorem refIn15_any (n lo hi : Int) (w : World) :
    Calls Try.prog 52 #[.int .i64 n, .int .i64 lo, .int .i64 hi] w fun e w' => e = .returned (.bool (wn n lo hi)) ∧ w = w' := by
  by_cases h1 : lo ≤ n <;> by_cases h2 : n ≤ hi
  all_goals
    have HW : Hid (wn n lo hi = (decide (lo ≤ n) && decide (n ≤ hi))) := rfl
    first | have H1 : Hid (decide (lo ≤ n) = true) := decide_eq_true h1 | have H1 : Hid (decide (lo ≤ n) = false) := decide_eq_false h1
    first | have H2 : Hid (decide (n ≤ hi) = true) := decide_eq_true h2 | have H2 : Hid (decide (n ≤ hi) = false) := decide_eq_false h2
    go_enter Try.func52, Try.ntmps52
    go_wp2
    go_ret
    exact ⟨by rw [HW.out, H1.out, H2.out]; rfl, rfl⟩

set_option maxHeartbeats 2000000 in
theorem refFrame15_any (b : Bd) (w : World) :
    Calls Try.prog 13 #[Bd_.v b] w fun e w' => e = .returned (.int .i64 (frk b.kd)) ∧ Below w.heap.size w w' := by
  obtain ⟨w1, hw1⟩ : ∃ w1, w.alloc (.cells (Bd_.C b) 27) = w1 := ⟨_, rfl⟩
  have S1 := Lib.hid (show Stb w b w1 from hw1 ▸ Stb.new w b)
  have c0 : w1.cell? ⟨w.heap.size, 0, none⟩ = some (.int .i64 b.kd) := S1.out.box.all 0
  generalize b.kd = k at c0 ⊢
  by_cases hk : isK k
  · rcases kinds hk with rfl | rfl | rfl | rfl | rfl | rfl | rfl | rfl | rfl | rfl | rfl | rfl
    all_goals
      clear hk
      go_enter Try.func13, Try.ntmps13
      go_wp2
      go_ret
      exact ⟨rfl, S1.out.bel⟩
  · rw [frk_out hk]
    unfold isK at hk
    have e1 : (k == 1) = false := by rw [beq_eq_false_iff_ne]; omega
    have e2 : (k == 2) = false := by rw [beq_eq_false_iff_ne]; omega
    have e3 : (k == 3) = false := by rw [beq_eq_false_iff_ne]; omega
    have e4 : (k == 4) = false := by rw [beq_eq_false_iff_ne]; omega
    have e5 : (k == 5) = false := by rw [beq_eq_false_iff_ne]; omega
    by_cases h5 : 5 < k
    · have h12 : ¬ k ≤ 12 := by omega
      clear hk
      go_enter Try.func13, Try.ntmps13
      go_wp2
      go_ret
      exact ⟨rfl, S1.out.bel⟩
    · clear hk
      go_enter Try.func13, Try.ntmps13
      go_wp2
      go_ret
      exact ⟨rfl, S1.out.bel⟩

set_option maxHeartbeats 4000000 in
theorem refCarries_any (k c : Int) (w : World) :
    Calls Try.prog 16 #[.int .i64 k, .int .i64 c] w fun e w' => e = .returned (.bool (car k c)) ∧ Below w.heap.size w w' := by
  have CF : Hid (∀ w, Calls Try.prog 13 #[Bd_.v { zb with kd := c }] w fun e w' => e = .returned (.int .i64 (frk c)) ∧ Below w.heap.size w w') := fun w => refFrame15_any { zb with kd := c } w
  have hfold : (.agg #[.int .i64 c, .int .i64 0, .int .i64 0, .int .i64 0, .string ⟨#[]⟩, .int .i64 0, .int .i64 0, .int .u64 0, .int .i64 0, .int .i64 0, .int .i64 0, .int .i64 0, .int .i64 0, .int .i64 0, .int .i64 0, .int .i64 0, .int .i64 0] : Value) = Bd_.v { zb with kd := c } := rfl
  have HC := Lib.hid (car_b k c)
  generalize ({ zb with kd := c } : Bd) = y at *
  generalize frk c = f at *
  cases db1 : (f != 0)
  case false =>
    go_enter Try.func16, Try.ntmps16
    go_wp2_with (go_at_call 13; refine (CF.out _).mono ?_; rintro e w2 ⟨rfl, hb⟩; have B2 := Lib.hid hb; clear hb)
    go_ret
    exact ⟨by rw [HC.out]; simp_all, B2.out⟩
  case true =>
    cases db2 : (k == f)
    case false =>
      cases db3 : (c == 4)
      case false =>
        cases db5 : (c == 5)
        case false =>
          go_enter Try.func16, Try.ntmps16
          go_wp2_with (go_at_call 13; refine (CF.out _).mono ?_; rintro e w2 ⟨rfl, hb⟩; have B2 := Lib.hid hb; clear hb)
          go_ret
          exact ⟨by rw [HC.out]; simp_all, B2.out⟩
        case true =>
          cases db6 : (k == 10)
          case false =>
            go_enter Try.func16, Try.ntmps16
            go_wp2_with (go_at_call 13; refine (CF.out _).mono ?_; rintro e w2 ⟨rfl, hb⟩; have B2 := Lib.hid hb; clear hb)
            go_ret
            exact ⟨by rw [HC.out]; simp_all, B2.out⟩
          case true =>
            go_enter Try.func16, Try.ntmps16
            go_wp2_with (go_at_call 13; refine (CF.out _).mono ?_; rintro e w2 ⟨rfl, hb⟩; have B2 := Lib.hid hb; clear hb)
            go_ret
            exact ⟨by rw [HC.out]; simp_all, B2.out⟩
      case true =>
        cases db4 : (k == 8)
        case false =>
          cases db5 : (c == 5)
          case false =>
            go_enter Try.func16, Try.ntmps16
            go_wp2_with (go_at_call 13; refine (CF.out _).mono ?_; rintro e w2 ⟨rfl, hb⟩; have B2 := Lib.hid hb; clear hb)
            go_ret
            exact ⟨by rw [HC.out]; simp_all, B2.out⟩
          case true =>
            cases db6 : (k == 10)
            case false =>
              go_enter Try.func16, Try.ntmps16
              go_wp2_with (go_at_call 13; refine (CF.out _).mono ?_; rintro e w2 ⟨rfl, hb⟩; have B2 := Lib.hid hb; clear hb)
              go_ret
              exact ⟨by rw [HC.out]; simp_all, B2.out⟩
            case true =>
              go_enter Try.func16, Try.ntmps16
              go_wp2_with (go_at_call 13; refine (CF.out _).mono ?_; rintro e w2 ⟨rfl, hb⟩; have B2 := Lib.hid hb; clear hb)
              go_ret
              exact ⟨by rw [HC.out]; simp_all, B2.out⟩
        case true =>
          go_enter Try.func16, Try.ntmps16
          go_wp2_with (go_at_call 13; refine (CF.out _).mono ?_; rintro e w2 ⟨rfl, hb⟩; have B2 := Lib.hid hb; clear hb)
          go_ret
          exact ⟨by rw [HC.out]; simp_all, B2.out⟩
    case true =>
      go_enter Try.func16, Try.ntmps16
      go_wp2_with (go_at_call 13; refine (CF.out _).mono ?_; rintro e w2 ⟨rfl, hb⟩; have B2 := Lib.hid hb; clear hb)
      go_ret
      exact ⟨by rw [HC.out]; simp_all, B2.out⟩
end Go.Proofs.Ytcpfkikifhcdmaa
