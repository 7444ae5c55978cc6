/-
  OF NO PROGRAM: numbers as octets, the least significant first, and back.
-/
import Derived.Laws.BitsAllLaws
import Derived.IntWalk
namespace Go.Wr
open Go.RowKit

/-- 256 to the k (a plain name, that the walk does not open). -/
def pow (k : Nat) : Nat := 256 ^ k
/-- n in k octets, the least significant first. -/
def le (n : Nat) : Nat → List UInt8
  | 0 => []
  | k + 1 => le n k ++ [UInt8.ofNat (n / pow k % 256)]
/-- The number of a list of octets. -/
def val : List UInt8 → Nat
  | [] => 0
  | b :: l => b.toNat + 256 * val l

theorem pow_zero : pow 0 = 1 := rfl
theorem pow_succ (k : Nat) : pow (k + 1) = pow k * 256 := Nat.pow_succ ..
theorem pow_pos (k : Nat) : 1 ≤ pow k := Nat.pos_of_ne_zero (by unfold pow; exact Nat.pos_iff_ne_zero.1 (Nat.pow_pos (by decide)))
theorem pow_le {i j : Nat} (h : i ≤ j) : pow i ≤ pow j := Nat.pow_le_pow_right (by decide) h
theorem pow_6 : pow 6 = 281474976710656 := by decide
theorem pow_two (k : Nat) : pow k = 2 ^ (8 * k) := by unfold pow; rw [show (256 : Nat) = 2 ^ 8 from rfl, ← Nat.pow_mul]
theorem le_len (n k : Nat) : (le n k).length = k := by
  induction k with
  | zero => rfl
  | succ k ih => rw [le, List.length_append, ih]; rfl
theorem val_lt (l : List UInt8) : val l < pow l.length := by
  induction l with
  | nil => exact Nat.one_pos
  | cons b l ih =>
    rw [val, List.length_cons, pow_succ]
    have := b.toNat_lt
    omega
theorem val_append (a b : List UInt8) : val (a ++ b) = val a + pow a.length * val b := by
  induction a with
  | nil => simp [val, pow_zero]
  | cons x a ih =>
    rw [List.cons_append, val, ih, val, List.length_cons, pow_succ]
    rw [Nat.mul_add, ← Nat.mul_assoc, Nat.mul_comm 256 (pow _), Nat.add_assoc]
theorem val_snoc (a : List UInt8) (x : UInt8) : val (a ++ [x]) = val a + pow a.length * x.toNat := by
  rw [val_append]; simp [val]
theorem val_le (n k : Nat) : val (le n k) = n % pow k := by
  induction k with
  | zero => simp [le, val, pow_zero, Nat.mod_one]
  | succ k ih =>
    rw [le, val_snoc, le_len, ih, pow_succ]
    rw [UInt8.toNat_ofNat', Nat.mod_mul]
    rw [show n / pow k % 256 % 2 ^ 8 = n / pow k % 256 from Nat.mod_mod_of_dvd _ (Nat.dvd_refl _)]
theorem val_le_of_lt {n k : Nat} (h : n < pow k) : val (le n k) = n := by rw [val_le, Nat.mod_eq_of_lt h]
theorem val_take_succ (l : List UInt8) (k : Nat) (h : k < l.length) : val (l.take (k + 1)) = val (l.take k) + pow k * l[k].toNat := by
  rw [List.take_succ_eq_append_getElem h, val_snoc, List.length_take, Nat.min_eq_left (by omega)]
theorem val_take_lt (l : List UInt8) (k : Nat) (h : k ≤ l.length) : val (l.take k) < pow k := by
  have := val_lt (l.take k)
  rwa [List.length_take, Nat.min_eq_left h] at this
theorem val_drop (l : List UInt8) (k : Nat) (h : k < l.length) : val (l.drop k) = l[k].toNat + 256 * val (l.drop (k + 1)) := by
  rw [List.drop_eq_getElem_cons h, val]
theorem div_pow_succ (n k : Nat) : n / pow (k + 1) = n / pow k / 256 := by rw [pow_succ, Nat.div_div_eq_div_mul]

/-- The or of a shifted octet is a sum. -/
theorem or_shift {a k : Nat} (x : Nat) (h : a < pow k) : a ||| x * pow k = a + x * pow k := by
  rw [pow_two] at *
  rw [Nat.or_comm, Nat.mul_comm, ← Nat.two_pow_add_eq_or_of_lt h, Nat.add_comm]
theorem shr (n k : Nat) : n >>> (8 * k) = n / pow k := by rw [pow_two, Nat.shiftRight_eq_div_pow]
theorem div_zero_iff {n k : Nat} : n / pow k = 0 ↔ n < pow k := by
  rw [Nat.div_eq_zero_iff]; have := pow_pos k; omega

/-! the operations as the walk leaves them -/
theorem i64_or_nat (a b : Nat) (ha : a < 9223372036854775808) (hb : b < 9223372036854775808) : bits .or .i64 (a : Int) (b : Int) = ((a ||| b : Nat) : Int) := by
  have hx : a ||| b < 2 ^ 63 := Nat.or_lt_two_pow (by omega) (by omega)
  show IntKind.i64.wrap ((BitVec.ofInt 64 (a : Int) ||| BitVec.ofInt 64 (b : Int)).toNat : Int) = _
  rw [BitVec.toNat_or, ofInt_u64 a (by omega), ofInt_u64 b (by omega)]
  exact IntWalk.i64_in _ (by omega)
theorem shr_ne {n k : Nat} (h : ¬ n < pow k) : (((n : Int) / 2 ^ (8 * k)) != 0) = true := by
  have e : (n : Int) / 2 ^ (8 * k) = ((n / pow k : Nat) : Int) := by rw [pow_two, Int.natCast_ediv, Int.natCast_pow]; simp only [Int.cast_ofNat_Int]
  rw [e, bne_iff_ne]
  have := mt div_zero_iff.1 h
  omega
theorem shr_eq {n k : Nat} (h : n < pow k) : (((n : Int) / 2 ^ (8 * k)) != 0) = false := by
  have e : (n : Int) / 2 ^ (8 * k) = ((n / pow k : Nat) : Int) := by rw [pow_two, Int.natCast_ediv, Int.natCast_pow]; simp only [Int.cast_ofNat_Int]
  rw [e, div_zero_iff.2 h]; rfl
theorem shr_val (n m : Nat) : (n : Int) / 2 ^ (8 * m) % 256 = ((n / pow m % 256 : Nat) : Int) := by
  have e : (n : Int) / 2 ^ (8 * m) = ((n / pow m : Nat) : Int) := by rw [pow_two, Int.natCast_ediv, Int.natCast_pow]; simp only [Int.cast_ofNat_Int]
  rw [e]; rfl
theorem shl_in (x m : Nat) (hx : x < 256) (h6 : m < 6) : wrap64 (wrap64 (x : Int) * 2 ^ (8 * m)) = ((x * pow m : Nat) : Int) ∧ x * pow m < 281474976710656 := by
  have hp : pow m ≤ pow 5 := pow_le (by omega)
  have h5 : pow 5 = 1099511627776 := by decide
  have hm : x * pow m ≤ 255 * pow 5 := Nat.mul_le_mul (by omega) hp
  rw [h5] at hm
  have e1 : wrap64 (x : Int) = x := IntWalk.wrap64_in _ (by omega)
  have e2 : (x : Int) * 2 ^ (8 * m) = ((x * pow m : Nat) : Int) := by rw [pow_two, Int.natCast_mul, Int.natCast_pow]; simp only [Int.cast_ofNat_Int]
  rw [e1, e2]
  generalize x * pow m = y at hm
  exact ⟨IntWalk.wrap64_in _ (by omega), by omega⟩
theorem or_step (l : ByteArray) (m : Nat) (h : m < l.size) (h6 : m < 6) :
    bits .or .i64 ((val (l.data.toList.take m) : Nat) : Int) (wrap64 (wrap64 (((l[m]'h).toNat : Nat) : Int) * 2 ^ (8 * m))) = ((val (l.data.toList.take (m + 1)) : Nat) : Int) := by
  have hx := (l[m]'h).toNat_lt
  have hl : m < l.data.toList.length := h
  have hv := val_take_lt l.data.toList m (by omega)
  have hp : pow m ≤ pow 5 := pow_le (by omega)
  have h5 : pow 5 = 1099511627776 := by decide
  have e4 : l.data.toList[m] = l[m]'h := rfl
  rw [val_take_succ _ _ hl, e4]
  generalize (l[m]'h).toNat = x at hx
  obtain ⟨e5, e6⟩ := shl_in x m hx h6
  have e7 := or_shift x hv
  rw [e5]
  generalize val (l.data.toList.take m) = v at hv e7
  rw [Nat.mul_comm (pow m), ← e7]
  generalize x * pow m = y at e6
  exact i64_or_nat _ _ (by omega) (by omega)
end Go.Wr
