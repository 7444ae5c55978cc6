/-
  WALKS OF THE LANDED CODE OF LAYER 6: reduce, Valid, Add, Distance, Before, In.
-/
import Derived.Laws.BitsAllLaws
import Derived.Laws.BitsLemmas
import Derived.Test.YtldeflpaghbmmaaSqRef
namespace Go.Proofs.Ytldeflpaghbmmaa
open Go.RowKit Go.Sq
attribute [local go_sem] Oper.semAt_some

theorem and_4095 (n : Int) : bits .and .i64 n 4095 = md n := by
  show IntKind.i64.wrap ((BitVec.ofInt 64 n &&& BitVec.ofInt 64 4095).toNat : Int) = n % 4096
  have e1 : (BitVec.ofInt 64 (4095 : Int)).toNat = 4095 := by decide
  have e2 : ((BitVec.ofInt 64 n).toNat : Int) = n % 18446744073709551616 := by
    rw [BitVec.toNat_ofInt]
    have : 0 ≤ n % ((2 ^ 64 : Nat) : Int) := Int.emod_nonneg _ (by decide)
    rw [Int.toNat_of_nonneg this]; rfl
  rw [BitVec.toNat_and, e1, show (4095 : Nat) = 2 ^ 12 - 1 from rfl, Nat.and_two_pow_sub_one_eq_mod, IntKind.wrap_i64]
  omega

theorem wrap_md (x : Int) : md (wrap64 x) = md x := by unfold md wrap64; omega

set_option maxHeartbeats 400000 in
theorem reduce_any (n : Int) (w : World) :
    Calls Try.prog 65 #[.int .i64 n] w fun e w' => e = .returned (.int .i64 (md n)) ∧ w = w' := by
  have h := and_4095 n
  generalize md n = m at *
  go_enter Try.func65, Try.ntmps65
  go_wp2
  go_returns
  exact ⟨rfl, rfl⟩

set_option maxHeartbeats 400000 in
theorem valid_any (n : Int) (w : World) :
    Calls Try.prog 39 #[.int .i64 n] w fun e w' => e = .returned (.bool (vl n)) ∧ w = w' := by
  have hy : (0 ≤ n ∧ n < 4096) → vl n = true := fun h => decide_eq_true h
  have hn : ¬ (0 ≤ n ∧ n < 4096) → vl n = false := fun h => decide_eq_false h
  generalize vl n = v at *
  by_cases h1 : 0 ≤ n
  · by_cases h2 : n < 4096
    · obtain rfl := hy ⟨h1, h2⟩
      clear hy hn
      go_enter Try.func39, Try.ntmps39
      go_wp2
      go_returns
      exact ⟨rfl, rfl⟩
    · obtain rfl := hn (fun h => h2 h.2)
      clear hy hn
      go_enter Try.func39, Try.ntmps39
      go_wp2
      go_returns
      exact ⟨rfl, rfl⟩
  · obtain rfl := hn (fun h => h1 h.1)
    clear hy hn
    go_enter Try.func39, Try.ntmps39
    go_wp2
    go_returns
    exact ⟨rfl, rfl⟩

set_option maxHeartbeats 400000 in
theorem add_any (n k : Int) (w : World) :
    Calls Try.prog 45 #[.int .i64 n, .int .i64 k] w fun e w' => e = .returned (.int .i64 (add n k)) ∧ w = w' := by
  have C := Lib.hid (fun w => reduce_any (wrap64 (n + k)) w)
  have e : md (wrap64 (n + k)) = add n k := wrap_md _
  rw [e] at C
  generalize add n k = r at *
  go_enter Try.func45, Try.ntmps45
  go_wp2_with (go_at_call 65; refine (C.out _).mono ?_; rintro e w' ⟨rfl, rfl⟩)
  go_returns
  exact ⟨rfl, rfl⟩

set_option maxHeartbeats 400000 in
theorem distance_any (a b : Int) (w : World) :
    Calls Try.prog 51 #[.int .i64 a, .int .i64 b] w fun e w' => e = .returned (.int .i64 (dist a b)) ∧ w = w' := by
  have C := Lib.hid (fun w => reduce_any (wrap64 (b - a)) w)
  have e : md (wrap64 (b - a)) = dist a b := wrap_md _
  rw [e] at C
  generalize dist a b = r at *
  go_enter Try.func51, Try.ntmps51
  go_wp2_with (go_at_call 65; refine (C.out _).mono ?_; rintro e w' ⟨rfl, rfl⟩)
  go_returns
  exact ⟨rfl, rfl⟩

end Go.Proofs.Ytldeflpaghbmmaa
