/-
  WALKS of the reference of layer 5: Valid, Group, Node, Number, Of, digit.
-/
import Derived.Test.YtaljdjabppiglaaRows
import Derived.Test.YtaljdjabppiglaaAdMath
import Derived.WalkKit
import Derived.WalkSpells
import Derived.WalkLawsBesides
import Derived.Deep.QuietTactic
import Derived.BigQuiet
import Derived.Lib.Hide
import Derived.Handy
namespace Go.Proofs.Ytaljdjabppiglaa
open Go.RowKit Go.Wr Go.Ad

set_option maxRecDepth 100000 in
set_option maxHeartbeats 400000 in
theorem refValid5_any (a : Nat) (w : World) :
    Calls Try.prog 51 #[.int .u64 a] w fun e w' => e = .returned (.bool (vald a)) ∧ w = w' := by
  have hy := vald_yes (a := a)
  have hn := vald_no (a := a)
  have hz : (0 < a ∧ a < 281474976710656) ↔ ((0 : Int) < (a : Int) ∧ (a : Int) < 281474976710656) := by omega
  rw [hz] at hy hn
  generalize vald a = v at *
  clear hz
  generalize ((a : Nat) : Int) = z at *
  by_cases h1 : (0 : Int) < z
  · by_cases h2 : z < 281474976710656
    · obtain rfl := hy ⟨h1, h2⟩
      clear hy hn
      go_enter Try.func51, Try.ntmps51
      go_wp2
      go_returns
      exact ⟨rfl, rfl⟩
    · obtain rfl := hn (fun h => h2 h.2)
      clear hy hn
      go_enter Try.func51, Try.ntmps51
      go_wp2
      go_returns
      exact ⟨rfl, rfl⟩
  · obtain rfl := hn (fun h => h1 h.1)
    clear hy hn
    go_enter Try.func51, Try.ntmps51
    go_wp2
    go_returns
    exact ⟨rfl, rfl⟩

set_option maxHeartbeats 400000 in
theorem refGroup5_any (a : Nat) (w : World) (ha : a < 18446744073709551616) :
    Calls Try.prog 55 #[.int .u64 a] w fun e w' => e = .returned (.bool (grp a)) ∧ w = w' := by
  have C := Lib.hid (fun w => refValid5_any a w)
  unfold grp
  generalize vald a = v at *
  have hd : ((a : Int) / 1099511627776 % 2 == 1) = decide (a / 1099511627776 % 2 = 1) := by
    by_cases h : a / 1099511627776 % 2 = 1
    · rw [decide_eq_true h]; exact beq_iff_eq.mpr (by omega)
    · rw [decide_eq_false h]; exact beq_eq_false_iff_ne.mpr (by omega)
  cases v
  · rw [Bool.false_and]
    clear hd
    go_enter Try.func55, Try.ntmps55
    go_wp2_with (go_at_call 51; refine (C.out _).mono ?_; rintro e w' ⟨rfl, rfl⟩)
    go_returns
    exact ⟨rfl, rfl⟩
  · rw [Bool.true_and]
    generalize decide (a / 1099511627776 % 2 = 1) = d at *
    go_enter Try.func55, Try.ntmps55
    go_wp2_with (go_at_call 51; refine (C.out _).mono ?_; rintro e w' ⟨rfl, rfl⟩)
    go_returns
    exact ⟨rfl, rfl⟩

theorem dstr_get : ∀ i : Fin 16, ((⟨#[48, 49, 50, 51, 52, 53, 54, 55, 56, 57, 97, 98, 99, 100, 101, 102]⟩ : ByteArray)[i.val]'(i.isLt)).toNat = (hexd i.val).toNat := by decide +kernel

end Go.Proofs.Ytaljdjabppiglaa
