/-
  WALKS of package fragment: possible, continues, proceed, Add.
-/
import Derived.Test.YtbcbfilpkjgclaaFgPw
import Derived.Test.YtbcbfilpkjgclaaFgXw
import Derived.Test.YtbcbfilpkjgclaaFgNum
namespace Go.Proofs.Ytbcbfilpkjgclaa
open Go.RowKit Go.Fg
attribute [local go_sem ↓ high] Pw_.loadF Pw_.storeF Pw_.v_cells Pw_.v_match Xw_.loadF Xw_.v_cells Xw_.v_match
attribute [local go_sem] Pw_.C0 Pw_.C1 Pw_.C2 Pw_.C3 Xw_.C0 Xw_.C1 Xw_.C2 Xw_.C3 Xw_.C4 Pw_.loadF_new Xw_.loadF_new

/-- From 0 to 4095. -/
def vl (n : Int) : Bool := decide (0 ≤ n ∧ n < 4096)
theorem vl_no1 {n : Int} (h : ¬ 0 ≤ n) : vl n = false := decide_eq_false fun hh => h hh.1
theorem vl_no2 {n : Int} (h : ¬ n < 4096) : vl n = false := decide_eq_false fun hh => h hh.2
theorem vl_yes {n : Int} (h1 : 0 ≤ n) (h2 : n < 4096) : vl n = true := decide_eq_true ⟨h1, h2⟩
theorem fgValid_any (n : Int) (w : World) :
    Calls Try.prog 23 #[.int .i64 n] w fun e w' => e = .returned (.bool (vl n)) ∧ w = w' := by
  by_cases h1 : 0 ≤ n
  · by_cases h2 : n < 4096
    · have HR := Lib.hid (vl_yes h1 h2)
      have d1 : decide (0 ≤ n) = true := decide_eq_true h1
      have d2 : decide (n < 4096) = true := decide_eq_true h2
      go_enter Try.func23, Try.ntmps23
      go_wp2
      go_returns
      exact ⟨by rw [HR.out] <;> rfl, rfl⟩
    · have HR := Lib.hid (vl_no2 h2)
      have d1 : decide (0 ≤ n) = true := decide_eq_true h1
      have d2 : decide (n < 4096) = false := decide_eq_false h2
      go_enter Try.func23, Try.ntmps23
      go_wp2
      go_returns
      exact ⟨by rw [HR.out] <;> rfl, rfl⟩
  · have HR := Lib.hid (vl_no1 h1)
    have d1 : decide (0 ≤ n) = false := decide_eq_false h1
    go_enter Try.func23, Try.ntmps23
    go_wp2
    go_returns
    exact ⟨by rw [HR.out] <;> rfl, rfl⟩

theorem poss_t {q f : Int} {m r : Bool} {s : ByteArray} (h : vl q = true) (h1 : s.size ≤ 2048) (h2 : 0 ≤ f) (h3 : f ≤ 15) (h4 : ¬ (f = 15 ∧ m = true)) : poss ⟨q, f, m, r, s⟩ = true :=
  poss_iff.2 ⟨of_decide_eq_true h, h1, h2, h3, h4⟩
theorem poss_f {q f : Int} {m r : Bool} {s : ByteArray} (h : ¬ vl q = true ∨ ¬ s.size ≤ 2048 ∨ ¬ 0 ≤ f ∨ ¬ f ≤ 15 ∨ (f = 15 ∧ m = true)) : poss ⟨q, f, m, r, s⟩ = false := by
  refine Bool.eq_false_iff.2 fun hh => ?_
  obtain ⟨h0, h1, h2, h3, h4⟩ := poss_iff.1 hh
  rcases h with h | h | h | h | h
  · exact h (decide_eq_true h0)
  · exact h h1
  · exact h h2
  · exact h h3
  · exact h4 h

set_option maxRecDepth 100000 in
set_option maxHeartbeats 2000000 in
theorem fgPoss_any (q f : Int) (m r : Bool) (s : ByteArray) (w : World) :
    Calls Try.prog 19 #[.agg #[.int .i64 q, .int .i64 f, .bool m, .bool r, .string s]] w fun e w' => e = .returned (.bool (poss ⟨q, f, m, r, s⟩)) ∧ Below w.heap.size w w' := by
  have CV := Lib.hid fun w => fgValid_any q w
  have HT := Lib.hid (@poss_t q f m r s)
  have HF := Lib.hid (@poss_f q f m r s)
  cases hv : vl q
  case' true => by_cases h1 : s.size ≤ 2048
  case' pos => by_cases h2 : 0 ≤ f
  case' pos => by_cases h3 : f ≤ 15
  case' pos => by_cases h4 : f = 15
  case' pos => cases m
  all_goals
    rw [hv] at CV
    first
      | (have HR := Lib.hid (HT.out hv h1 h2 h3 (fun hh => h4 hh.1)))
      | (have HR := Lib.hid (HT.out hv h1 h2 h3 (fun hh => Bool.noConfusion hh.2)))
      | (have HR := Lib.hid (HF.out (.inl (Bool.eq_false_iff.1 hv))))
      | (have HR := Lib.hid (HF.out (.inr (.inl h1))))
      | (have HR := Lib.hid (HF.out (.inr (.inr (.inl h2)))))
      | (have HR := Lib.hid (HF.out (.inr (.inr (.inr (.inl h3))))))
      | (have HR := Lib.hid (HF.out (.inr (.inr (.inr (.inr ⟨h4, rfl⟩))))))
    generalize poss _ = R at *
    clear HT HF hv
    first
      | (have h1' : ¬ (2048 : Int) < (s.size : Int) := by omega)
      | (have h1' : (2048 : Int) < (s.size : Int) := by omega)
      | skip
    first | clear h1 | skip
    first
      | (have d2 : decide (0 ≤ f) = true := decide_eq_true h2)
      | (have d2 : decide (0 ≤ f) = false := decide_eq_false h2)
      | skip
    first
      | (have d3 : decide (f ≤ 15) = true := decide_eq_true h3)
      | (have d3 : decide (f ≤ 15) = false := decide_eq_false h3)
      | skip
    first
      | (have d4 : (f == 15) = true := by rw [beq_iff_eq]; exact h4)
      | (have d4 : (f == 15) = false := by rw [beq_eq_false_iff_ne]; exact h4)
      | skip
    first | clear h4 | skip
    obtain rfl := HR.out
    go_enter Try.func19, Try.ntmps19
    go_wp2_with (go_at_call 23; refine (CV.out _).mono ?_; rintro e w' ⟨rfl, rfl⟩)
    go_returns
    exact ⟨rfl, (Below.refl _ _).alloc (Nat.le_refl _) _⟩
end Go.Proofs.Ytbcbfilpkjgclaa
