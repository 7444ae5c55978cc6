/-
  OF NO PROGRAM: the least element of a set by its trailing zeros; the elements behind it.
-/
import Derived.Test.YtfmjekfgfkcleaaDoorBsMath
import Derived.Lib.TrailingZeros
import Derived.Laws.Bits64b
import Derived.IntWalk
namespace Go.Bs

/-- What is left behind the least element. -/
def nxt (x : Nat) : Nat := x &&& (x - 1)

theorem ctz_spec {x : Nat} (h0 : x ≠ 0) (hx : x < 18446744073709551616) : ∃ m, x = 2 ^ Lib.ctz 64 x * (2 * m + 1) ∧ Lib.ctz 64 x < 64 := by
  unfold Lib.ctz
  rw [if_neg h0]
  exact Lib.ctzFrom_spec 64 x (by omega) hx
theorem ctz_bits {x : Nat} (h0 : x ≠ 0) (hx : x < 18446744073709551616) :
    Lib.ctz 64 x < 64 ∧ (∀ j, j < Lib.ctz 64 x → x.testBit j = false) ∧ x.testBit (Lib.ctz 64 x) = true ∧ nxt x = wot x (Lib.ctz 64 x : Nat) := by
  obtain ⟨m, hm, hc⟩ := ctz_spec h0 hx
  generalize Lib.ctz 64 x = c at hm hc ⊢
  have hp : 0 < 2 ^ c := Nat.two_pow_pos c
  have e1 : x = 2 ^ (c + 1) * m + 2 ^ c := by rw [hm, Nat.pow_succ, Nat.mul_add, Nat.mul_one, Nat.mul_assoc]
  have e2 : x - 1 = 2 ^ (c + 1) * m + (2 ^ c - 1) := by omega
  have b1 : 2 ^ c < 2 ^ (c + 1) := by rw [Nat.pow_succ]; omega
  have b2 : 2 ^ c - 1 < 2 ^ (c + 1) := by omega
  have t1 : ∀ j, x.testBit j = if j < c + 1 then (2 ^ c).testBit j else m.testBit (j - (c + 1)) := fun j => by
    rw [e1, Nat.testBit_two_pow_mul_add _ b1]
  have t2 : ∀ j, (x - 1).testBit j = if j < c + 1 then (2 ^ c - 1).testBit j else m.testBit (j - (c + 1)) := fun j => by
    rw [e2, Nat.testBit_two_pow_mul_add _ b2]
  refine ⟨hc, fun j hj => ?_, ?_, ?_⟩
  · rw [t1, if_pos (by omega), Nat.testBit_two_pow]; simp; omega
  · rw [t1, if_pos (by omega), Nat.testBit_two_pow]; simp
  · apply Nat.eq_of_testBit_eq
    intro j
    unfold nxt
    rw [Nat.testBit_and, testBit_wot, t1, t2]
    by_cases hj : j < c + 1
    · rw [if_pos hj, if_pos hj, Nat.testBit_two_pow, Nat.testBit_two_pow_sub_one]
      by_cases he : c = j
      · subst he; simp; omega
      · simp [he]
    · rw [if_neg hj, if_neg hj, decide_eq_false (by omega)]
      simp
theorem nxt_lt {x : Nat} (h0 : x ≠ 0) : nxt x < x := by
  have : nxt x ≤ x - 1 := Nat.and_le_right
  omega
theorem elk_cons {x c : Nat} (hc : c < 64) (h1 : ∀ j, j < c → x.testBit j = false) (h2 : x.testBit c = true) :
    ∀ k, k ≤ 64 → elk x k = (if c < k then (c : Int) :: elk (wot x c) k else []) ∧ (k ≤ c → elk (wot x c) k = [])
  | 0, _ => by rw [if_neg (by omega)]; exact ⟨rfl, fun _ => rfl⟩
  | k + 1, hk => by
    obtain ⟨ih, ih2⟩ := elk_cons hc h1 h2 k (by omega)
    have hW : has (wot x c) k = (x.testBit k && !decide (c = k)) := by
      rw [has_in (by omega) (by omega), testBit_wot, Int.toNat_natCast]
      congr 2
      rw [Bool.eq_iff_iff]; simp; omega
    have hX : has x k = x.testBit k := by rw [has_in (by omega) (by omega), Int.toNat_natCast]
    by_cases hlt : k < c
    · have hb := h1 k hlt
      rw [hb] at hX
      rw [hb] at hW
      rw [if_neg (by omega)] at ih ⊢
      refine ⟨by rw [elk_no hX]; exact ih, fun _ => ?_⟩
      rw [elk_no (by simpa using hW)]; exact ih2 (by omega)
    · by_cases he : c = k
      · subst he
        rw [h2] at hX
        rw [if_neg (by omega)] at ih
        rw [if_pos (by omega)]
        refine ⟨?_, fun h => by omega⟩
        rw [elk_yes hX, ih, elk_no (by simpa using hW), ih2 (by omega)]
        rfl
      · rw [if_pos (by omega)] at ih ⊢
        refine ⟨?_, fun h => by omega⟩
        rw [decide_eq_false he] at hW
        cases hb : x.testBit k
        · rw [hb] at hX hW
          rw [elk_no hX, elk_no (by simpa using hW), ih]
        · rw [hb] at hX hW
          rw [elk_yes hX, elk_yes (by simpa using hW), ih]
          rfl
/-- THE LEAST ELEMENT AHEAD OF THE REST. -/
theorem els_cons {x : Nat} (h0 : x ≠ 0) (hx : x < 18446744073709551616) : els x = ((Lib.ctz 64 x : Nat) : Int) :: els (nxt x) := by
  obtain ⟨hc, h1, h2, h3⟩ := ctz_bits h0 hx
  have := (elk_cons hc h1 h2 64 (by omega)).1
  rw [if_pos hc] at this
  rw [h3]; exact this
theorem els_zero : els 0 = [] := by decide +kernel
/-- 'left &= left - 1'. -/
theorem nxt_eq {x : Nat} (h0 : x ≠ 0) (hx : x < 18446744073709551616) : bits .and .u64 (x : Int) ((x : Int) - 1) = (nxt x : Int) := by
  have : ((x : Int) - 1) = ((x - 1 : Nat) : Int) := by omega
  rw [this]
  exact bits_and_u64_nat x (x - 1) hx (by omega)
theorem nxt_wrap {x : Nat} (h0 : x ≠ 0) (hx : x < 18446744073709551616) : bits .and .u64 (x : Int) (IntKind.u64.wrap ((x : Int) - 1)) = (nxt x : Int) := by
  rw [IntWalk.u64_in _ (by omega)]; exact nxt_eq h0 hx
end Go.Bs
