/-
  WALKS of the reference of layer 6: Valid, Modulo, Add, Distance, Before, In, Window; the law's same.
-/
import Derived.Test.YtldeflpaghbmmaaRows
import Derived.Test.YtldeflpaghbmmaaSqMath
import Derived.WalkKit
import Derived.WalkSpells
import Derived.WalkLawsBesides
import Derived.Deep.QuietTactic
import Derived.BigQuiet
import Derived.Lib.Hide
import Derived.Handy
import Derived.Below
namespace Go.Proofs.Ytldeflpaghbmmaa
open Go.RowKit Go.Sq

theorem i64_bounds {a : Int} (h : (Lit.int .i64 a).wf = true) : -9223372036854775808 ≤ a ∧ a < 9223372036854775808 := by
  simp [Lit.wf, IntKind.min, IntKind.max, IntKind.signed, IntKind.bits] at h
  omega

theorem tmod_md (n : Int) : (n.tmod 4096 < 0 → n.tmod 4096 + 4096 = md n) ∧ (¬ n.tmod 4096 < 0 → n.tmod 4096 = md n) ∧ -4096 < n.tmod 4096 ∧ n.tmod 4096 < 4096 := by
  unfold md
  rcases Int.le_total 0 n with h | h
  · rw [Int.tmod_eq_emod_of_nonneg h]; omega
  · have e : n.tmod 4096 = -((-n) % 4096) := by
      have h2 := Int.neg_tmod (a := -n) (b := 4096)
      rw [Int.neg_neg] at h2
      rw [h2, Int.tmod_eq_emod_of_nonneg (by omega)]
    rw [e]; omega

end Go.Proofs.Ytldeflpaghbmmaa
