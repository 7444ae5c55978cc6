/-
  WALKS of package address: Valid, Group, Node (for seats without package wire; out of XAdDoneA).
-/
import Derived.Test.YtaljdjabppiglaaRows
import Derived.Test.YtaljdjabppiglaaAdMath
import Derived.WalkKit
import Derived.WalkSpells
import Derived.WalkLawsBesides
import Derived.Deep.QuietTactic
import Derived.BigQuiet
import Derived.Lib.Hide
import Derived.Handy
namespace Go.Proofs.Ytaljdjabppiglaa
open Go.RowKit Go.Wr Go.Ad

set_option maxHeartbeats 400000 in
theorem fits_yes (a : Int) (w : World) (h : a < 281474976710656) :
    Calls Try.prog 53 #[.int .u64 a] w fun e w' => e = .returned (.bool true) ∧ w = w' := by
  have h1 : a ≤ 281474976710655 := by omega
  go_enter Try.func53, Try.ntmps53
  go_wp2
  go_returns
  exact ⟨rfl, rfl⟩

set_option maxHeartbeats 400000 in
theorem fits_no (a : Int) (w : World) (h : ¬ a < 281474976710656) :
    Calls Try.prog 53 #[.int .u64 a] w fun e w' => e = .returned (.bool false) ∧ w = w' := by
  have h1 : ¬ a ≤ 281474976710655 := by omega
  go_enter Try.func53, Try.ntmps53
  go_wp2
  go_returns
  exact ⟨rfl, rfl⟩

set_option maxRecDepth 100000 in
set_option maxHeartbeats 400000 in
theorem valid_any (a : Nat) (w : World) :
    Calls Try.prog 44 #[.int .u64 a] w fun e w' => e = .returned (.bool (vald a)) ∧ w = w' := by
  have hy := vald_yes (a := a)
  have hn := vald_no (a := a)
  have hz : (0 < a ∧ a < 281474976710656) ↔ ((0 : Int) < (a : Int) ∧ (a : Int) < 281474976710656) := by omega
  have hz0 : (0 : Int) ≤ (a : Int) := by omega
  rw [hz] at hy hn
  generalize vald a = v at *
  clear hz
  generalize ((a : Nat) : Int) = z at *
  by_cases h1 : (0 : Int) < z
  · have hne : (z != 0) = true := by rw [bne_iff_ne]; omega
    by_cases h2 : z < 281474976710656
    · obtain rfl := hy ⟨h1, h2⟩
      have C := Lib.hid (fun w => fits_yes z w h2)
      clear hy hn
      go_enter Try.func44, Try.ntmps44
      go_wp2_with (go_at_call 53; refine (C.out _).mono ?_; rintro e w' ⟨rfl, rfl⟩)
      go_returns
      exact ⟨rfl, rfl⟩
    · obtain rfl := hn (fun h => h2 h.2)
      have C := Lib.hid (fun w => fits_no z w h2)
      clear hy hn
      go_enter Try.func44, Try.ntmps44
      go_wp2_with (go_at_call 53; refine (C.out _).mono ?_; rintro e w' ⟨rfl, rfl⟩)
      go_returns
      exact ⟨rfl, rfl⟩
  · obtain rfl := hn (fun h => h1 h.1)
    obtain rfl : z = 0 := by omega
    clear hy hn
    go_enter Try.func44, Try.ntmps44
    go_wp2
    go_returns
    exact ⟨rfl, rfl⟩

theorem and_pow40 (a : Nat) : a &&& 2 ^ 40 = (a.testBit 40).toNat * 2 ^ 40 := by
  refine Nat.eq_of_testBit_eq fun i => ?_
  rw [Nat.testBit_and, Nat.testBit_two_pow]
  by_cases h : 40 = i
  · subst h
    cases a.testBit 40 <;> decide
  · rw [decide_eq_false h, Bool.and_false]
    cases a.testBit 40
    · simp
    · show false = Nat.testBit (1 * 2 ^ 40) i
      rw [Nat.one_mul, Nat.testBit_two_pow, decide_eq_false h]
theorem and_bit40 (a : Nat) (h : a < 18446744073709551616) : (bits .and .u64 (a : Int) 1099511627776 != 0) = decide (a / 1099511627776 % 2 = 1) := by
  have e : bits .and .u64 (a : Int) 1099511627776 = ((a &&& 2 ^ 40 : Nat) : Int) := by
    have hx : a &&& 2 ^ 40 < 2 ^ 64 := Nat.and_lt_two_pow _ (by decide)
    show IntKind.u64.wrap ((BitVec.ofInt 64 (a : Int) &&& BitVec.ofInt 64 (1099511627776 : Int)).toNat : Int) = _
    rw [BitVec.toNat_and, ofInt_u64 a (by omega), show (BitVec.ofInt 64 (1099511627776 : Int)).toNat = 2 ^ 40 from by decide]
    exact IntWalk.u64_in _ (by omega)
  rw [e, and_pow40, Nat.testBit_eq_decide_div_mod_eq]
  by_cases hb : a / 1099511627776 % 2 = 1
  · rw [decide_eq_true hb]; rfl
  · rw [decide_eq_false hb]; rfl

set_option maxRecDepth 100000 in
set_option maxHeartbeats 400000 in
theorem group_any (a : Nat) (w : World) (ha : a < 18446744073709551616) :
    Calls Try.prog 54 #[.int .u64 a] w fun e w' => e = .returned (.bool (grp a)) ∧ w = w' := by
  have C := Lib.hid (fun w => valid_any a w)
  have hd := and_bit40 a ha
  unfold grp
  generalize vald a = v at *
  generalize decide (a / 1099511627776 % 2 = 1) = d at *
  clear ha
  generalize ((a : Nat) : Int) = z at *
  cases v
  · rw [Bool.false_and]
    clear hd
    go_enter Try.func54, Try.ntmps54
    go_wp2_with (go_at_call 44; refine (C.out _).mono ?_; rintro e w' ⟨rfl, rfl⟩)
    go_returns
    exact ⟨rfl, rfl⟩
  · rw [Bool.true_and]
    go_enter Try.func54, Try.ntmps54
    go_wp2_with (go_at_call 44; refine (C.out _).mono ?_; rintro e w' ⟨rfl, rfl⟩)
    go_returns
    exact ⟨rfl, rfl⟩

set_option maxRecDepth 100000 in
set_option maxHeartbeats 400000 in
theorem node_any (n : Int) (w : World) (hw : (Lit.int .i64 n).wf = true) :
    Calls Try.prog 27 #[.int .i64 n] w fun e w' => e = .returned (.int .u64 (nod n : Nat)) ∧ w = w' := by
  by_cases h0 : n < 0
  · rw [nod_out (by omega)]
    go_enter Try.func27, Try.ntmps27
    go_wp2
    go_returns
    exact ⟨rfl, rfl⟩
  · by_cases h1 : (16 : Int) ≤ n
    · rw [nod_out (by omega)]
      go_enter Try.func27, Try.ntmps27
      go_wp2
      go_returns
      exact ⟨rfl, rfl⟩
    · rw [nod_in (by omega)]
      obtain ⟨m, rfl⟩ : ∃ m : Nat, n = m := ⟨n.toNat, by omega⟩
      have hm : (m : Int) < 16 := by omega
      go_enter Try.func27, Try.ntmps27
      go_wp2
      go_returns
      exact ⟨by simp, rfl⟩

end Go.Proofs.Ytaljdjabppiglaa
