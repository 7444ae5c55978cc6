/-
  WALKS of the reference of layer 6: Valid, Modulo, Add, Distance, Before, In, Window; the law's same.
-/
import Derived.Test.YteffmfloopkmoaaRows
import Derived.Test.YteffmfloopkmoaaSqMath
import Derived.WalkKit
import Derived.WalkSpells
import Derived.WalkLawsBesides
import Derived.Deep.QuietTactic
import Derived.BigQuiet
import Derived.Lib.Hide
import Derived.Handy
import Derived.Below
namespace Go.Proofs.Yteffmfloopkmoaa
open Go.RowKit Go.Sq

theorem i64_bounds {a : Int} (h : (Lit.int .i64 a).wf = true) : -9223372036854775808 ≤ a ∧ a < 9223372036854775808 := by
  simp [Lit.wf, IntKind.min, IntKind.max, IntKind.signed, IntKind.bits] at h
  omega

set_option maxHeartbeats 400000 in
theorem refValid_any (n : Int) (w : World) :
    Calls Try.prog 25 #[.int .i64 n] w fun e w' => e = .returned (.bool (vl n)) ∧ w = w' := by
  have hy : (0 ≤ n ∧ n < 4096) → vl n = true := fun h => decide_eq_true h
  have hn : ¬ (0 ≤ n ∧ n < 4096) → vl n = false := fun h => decide_eq_false h
  generalize vl n = v at *
  by_cases h1 : 0 ≤ n
  · by_cases h2 : n < 4096
    · obtain rfl := hy ⟨h1, h2⟩
      clear hy hn
      go_enter Try.func25, Try.ntmps25
      go_wp2
      go_returns
      exact ⟨rfl, rfl⟩
    · obtain rfl := hn (fun h => h2 h.2)
      clear hy hn
      go_enter Try.func25, Try.ntmps25
      go_wp2
      go_returns
      exact ⟨rfl, rfl⟩
  · obtain rfl := hn (fun h => h1 h.1)
    clear hy hn
    go_enter Try.func25, Try.ntmps25
    go_wp2
    go_returns
    exact ⟨rfl, rfl⟩

theorem tmod_md (n : Int) : (n.tmod 4096 < 0 → n.tmod 4096 + 4096 = md n) ∧ (¬ n.tmod 4096 < 0 → n.tmod 4096 = md n) ∧ -4096 < n.tmod 4096 ∧ n.tmod 4096 < 4096 := by
  unfold md
  rcases Int.le_total 0 n with h | h
  · rw [Int.tmod_eq_emod_of_nonneg h]; omega
  · have e : n.tmod 4096 = -((-n) % 4096) := by
      have h2 := Int.neg_tmod (a := -n) (b := 4096)
      rw [Int.neg_neg] at h2
      rw [h2, Int.tmod_eq_emod_of_nonneg (by omega)]
    rw [e]; omega

set_option maxHeartbeats 400000 in
theorem refModulo_any (n : Int) (w : World) :
    Calls Try.prog 9 #[.int .i64 n] w fun e w' => e = .returned (.int .i64 (md n)) ∧ w = w' := by
  obtain ⟨h1, h2, h3, h4⟩ := tmod_md n
  obtain ⟨t, ht⟩ : ∃ t, t = n.tmod 4096 := ⟨_, rfl⟩
  rw [← ht] at h1 h2 h3 h4
  generalize md n = m at *
  by_cases hneg : t < 0
  · have hw : IntKind.i64.wrap (t + 4096) = t + 4096 := IntWalk.i64_in _ (by omega)
    have e := h1 hneg
    have ht' := ht.symm
    clear h1 h2 ht
    go_enter Try.func9, Try.ntmps9
    go_wp2
    go_returns
    exact ⟨by rw [← e]; rfl, rfl⟩
  · have e := h2 hneg
    have ht' := ht.symm
    clear h1 h2 ht
    go_enter Try.func9, Try.ntmps9
    go_wp2
    go_returns
    exact ⟨by rw [← e]; rfl, rfl⟩

set_option maxHeartbeats 400000 in
theorem refAdd_any (n k : Int) (w : World) :
    Calls Try.prog 40 #[.int .i64 n, .int .i64 k] w fun e w' => e = .returned (.int .i64 (add n k)) ∧ w = w' := by
  have C1 := Lib.hid (fun w => refModulo_any n w)
  have C2 := Lib.hid (fun w => refModulo_any k w)
  have h1 := md_in n
  have h2 := md_in k
  have hw : IntKind.i64.wrap (md n + md k) = md n + md k := IntWalk.i64_in _ (by omega)
  have C3 : Hid (∀ w, Calls Try.prog 9 #[.int .i64 (md n + md k)] w fun e w' => e = .returned (.int .i64 (add n k)) ∧ w = w') := fun w => by
    have h := refModulo_any (md n + md k) w
    rw [show md (md n + md k) = add n k by unfold add md; omega] at h; exact h
  generalize md n = a at *
  generalize md k = b at *
  generalize add n k = c at *
  go_enter Try.func40, Try.ntmps40
  go_wp2_with (first
    | (go_at_call 9; with_reducible refine (C1.out _).mono ?_; rintro e w' ⟨rfl, rfl⟩)
    | (go_at_call 9; with_reducible refine (C2.out _).mono ?_; rintro e w' ⟨rfl, rfl⟩)
    | (go_at_call 9; with_reducible refine (C3.out _).mono ?_; rintro e w' ⟨rfl, rfl⟩))
  go_returns
  exact ⟨rfl, rfl⟩

set_option maxHeartbeats 400000 in
theorem refDistance_any (a b : Int) (w : World) :
    Calls Try.prog 10 #[.int .i64 a, .int .i64 b] w fun e w' => e = .returned (.int .i64 (dist a b)) ∧ w = w' := by
  have C1 := Lib.hid (fun w => refModulo_any b w)
  have C2 := Lib.hid (fun w => refModulo_any a w)
  have h1 := md_in a
  have h2 := md_in b
  have hw : IntKind.i64.wrap (md b - md a) = md b - md a := IntWalk.i64_in _ (by omega)
  have C3 : Hid (∀ w, Calls Try.prog 9 #[.int .i64 (md b - md a)] w fun e w' => e = .returned (.int .i64 (dist a b)) ∧ w = w') := fun w => by
    have h := refModulo_any (md b - md a) w
    rw [show md (md b - md a) = dist a b by unfold dist md; omega] at h; exact h
  generalize md a = x at *
  generalize md b = y at *
  generalize dist a b = c at *
  go_enter Try.func10, Try.ntmps10
  go_wp2_with (first
    | (go_at_call 9; with_reducible refine (C1.out _).mono ?_; rintro e w' ⟨rfl, rfl⟩)
    | (go_at_call 9; with_reducible refine (C2.out _).mono ?_; rintro e w' ⟨rfl, rfl⟩)
    | (go_at_call 9; with_reducible refine (C3.out _).mono ?_; rintro e w' ⟨rfl, rfl⟩))
  go_returns
  exact ⟨rfl, rfl⟩

end Go.Proofs.Yteffmfloopkmoaa
