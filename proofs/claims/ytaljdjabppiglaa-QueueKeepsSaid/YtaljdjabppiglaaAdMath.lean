/-
  ADDRESSES AS NUMBERS, OCTETS AND TEXTS. Of no program.
-/
import Derived.Test.YtaljdjabppiglaaWrMath
namespace Go.Ad
open Go.Wr

/-- The octets, the most significant one first. -/
def be (a : Nat) : List UInt8 := (le a 6).reverse
def bev (l : List UInt8) : Nat := l.foldl (fun a o => a * 256 + o.toNat) 0
theorem bev_snoc (l : List UInt8) (x : UInt8) : bev (l ++ [x]) = bev l * 256 + x.toNat := by unfold bev; rw [List.foldl_append]; rfl
theorem bev_val (l : List UInt8) : bev l = val l.reverse := by
  suffices h : ∀ m : List UInt8, bev m.reverse = val m by have := h l.reverse; rwa [List.reverse_reverse] at this
  intro m
  induction m with
  | nil => rfl
  | cons x m ih => rw [List.reverse_cons, bev_snoc, ih, val]; omega
theorem be_len (a : Nat) : (be a).length = 6 := by unfold be; rw [List.length_reverse, le_len]
theorem bev_be {a : Nat} (h : a < 281474976710656) : bev (be a) = a := by
  rw [bev_val, be, List.reverse_reverse]; exact val_le_of_lt (by rw [pow_6]; exact h)
theorem bev_lt (l : List UInt8) : bev l < 256 ^ l.length := by rw [bev_val]; have := val_lt l.reverse; rwa [List.length_reverse, pow] at this
theorem bev_take (l : List UInt8) (k : Nat) (h : k < l.length) : bev (l.take (k + 1)) = bev (l.take k) * 256 + l[k].toNat := by
  rw [List.take_succ_eq_append_getElem h, bev_snoc]
theorem be_get (a k : Nat) (h : k < 6) : (be a).getD k 0 = UInt8.ofNat (a / 2 ^ (8 * (5 - k)) % 256) := by
  have e : be a = [UInt8.ofNat (a / pow 5 % 256), UInt8.ofNat (a / pow 4 % 256), UInt8.ofNat (a / pow 3 % 256), UInt8.ofNat (a / pow 2 % 256), UInt8.ofNat (a / pow 1 % 256), UInt8.ofNat (a / pow 0 % 256)] := by simp [be, le]
  rw [e]
  match k, h with
  | 0, _ => rfl
  | 1, _ => rfl
  | 2, _ => rfl
  | 3, _ => rfl
  | 4, _ => rfl
  | 5, _ => simp [pow]

/-! ### Texts -/
def dl : List UInt8 := [48, 49, 50, 51, 52, 53, 54, 55, 56, 57, 97, 98, 99, 100, 101, 102]
def hexd (n : Nat) : UInt8 := dl.getD n 0
/-- The value of a digit, or 16. -/
def dig (c : UInt8) : Nat := dl.findIdx (· == c)
theorem dig_hexd : ∀ n : Fin 16, dig (hexd n.val) = n.val := by decide +kernel
theorem dig_le (c : UInt8) : dig c ≤ 16 := List.findIdx_le_length
theorem dig_at : ∀ (c : Fin 256) (i : Fin 16), (hexd i.val).toNat = c.val → dig (UInt8.ofNat c.val) = i.val := by decide +kernel
theorem dig_none : ∀ c : Fin 256, (∀ i : Fin 16, (hexd i.val).toNat ≠ c.val) → dig (UInt8.ofNat c.val) = 16 := by decide +kernel

/-- The text of the first k octets. -/
def tx (o : List UInt8) : Nat → List UInt8
  | 0 => []
  | k + 1 => tx o k ++ (if k = 0 then [] else [58]) ++ [hexd ((o.getD k 0).toNat / 16), hexd ((o.getD k 0).toNat % 16)]
def txt (a : Nat) : List UInt8 := tx (be a) 6
theorem tx_len (o : List UInt8) (k : Nat) : (tx o k).length = 3 * k - 1 := by
  induction k with
  | zero => rfl
  | succ k ih => rw [tx, List.length_append, List.length_append, ih]; split <;> simp <;> omega
theorem txt_len (a : Nat) : (txt a).length = 17 := tx_len _ 6

/-- The number that the digits of a text denote, after k characters. -/
def prk (l : List UInt8) : Nat → Nat
  | 0 => 0
  | k + 1 => if k % 3 < 2 then prk l k * 16 + dig (l.getD k 0) % 16 else prk l k
theorem prk_lt (l : List UInt8) (k : Nat) : prk l k < 16 ^ (k - k / 3) := by
  induction k with
  | zero => exact Nat.one_pos
  | succ k ih =>
    rw [prk]
    split
    · have e : k + 1 - (k + 1) / 3 = (k - k / 3) + 1 := by omega
      rw [e, Nat.pow_succ]
      have : dig (l.getD k 0) % 16 < 16 := Nat.mod_lt _ (by decide)
      omega
    · have e : k + 1 - (k + 1) / 3 = k - k / 3 := by omega
      rw [e]; exact ih
theorem prk_small (l : List UInt8) {k : Nat} (h : k ≤ 17) : prk l k < 281474976710656 := by
  refine Nat.lt_of_lt_of_le (prk_lt l k) ?_
  exact Nat.le_trans (Nat.pow_le_pow_right (by decide) (by omega : k - k / 3 ≤ 12)) (by decide)
theorem hex_hi (x : UInt8) : dig (hexd (x.toNat / 16)) % 16 = x.toNat / 16 := by
  have h : x.toNat / 16 < 16 := by have := x.toNat_lt; omega
  rw [dig_hexd ⟨_, h⟩]; exact Nat.mod_eq_of_lt h
theorem hex_lo (x : UInt8) : dig (hexd (x.toNat % 16)) % 16 = x.toNat % 16 := by
  have h : x.toNat % 16 < 16 := Nat.mod_lt _ (by decide)
  rw [dig_hexd ⟨_, h⟩]; exact Nat.mod_eq_of_lt h
theorem prk_six (a b c d e f : UInt8) : prk (tx [a, b, c, d, e, f] 6) 17 = bev [a, b, c, d, e, f] := by
  have ha := hex_hi a; have hb := hex_hi b; have hc := hex_hi c; have hd := hex_hi d; have he := hex_hi e; have hf := hex_hi f
  have la := hex_lo a; have lb := hex_lo b; have lc := hex_lo c; have ld := hex_lo d; have le := hex_lo e; have lf := hex_lo f
  simp only [tx, prk, bev, List.foldl, List.getD_eq_getElem?_getD]
  simp
  simp only [ha, hb, hc, hd, he, hf, la, lb, lc, ld, le, lf]
  omega
theorem prk_txt {a : Nat} (h : a < 281474976710656) : prk (txt a) 17 = a := by
  have e : ∃ a0 a1 a2 a3 a4 a5, be a = [a0, a1, a2, a3, a4, a5] := by
    have hl := be_len a
    match be a, hl with
    | [a0, a1, a2, a3, a4, a5], _ => exact ⟨a0, a1, a2, a3, a4, a5, rfl⟩
  obtain ⟨a0, a1, a2, a3, a4, a5, e⟩ := e
  unfold txt
  rw [e, prk_six, ← e, bev_be h]
/-- What Parse reads. -/
def prz (l : List UInt8) : Nat := if l.length = 17 then prk l 17 else 0
theorem prz_small (l : List UInt8) : prz l < 281474976710656 := by unfold prz; split; exact prk_small l (Nat.le_refl _); decide
theorem prz_txt {a : Nat} (h : a < 281474976710656) : prz (txt a) = a := by unfold prz; rw [if_pos (txt_len a), prk_txt h]
/-- A text is that of an address exactly if it is that of what is read. -/
theorem txt_iff (l : List UInt8) : (∃ a, a < 281474976710656 ∧ l = txt a) ↔ txt (prz l) = l :=
  ⟨fun ⟨a, h, e⟩ => by rw [e, prz_txt h], fun h => ⟨prz l, prz_small l, h.symm⟩⟩

/-! ### Kinds and nodes -/
def vald (a : Nat) : Bool := decide (0 < a ∧ a < 281474976710656)
def grp (a : Nat) : Bool := vald a && decide (a / 1099511627776 % 2 = 1)
def nod (n : Int) : Nat := if 0 ≤ n ∧ n < 16 then 2199023255553 + n.toNat else 0
def num (a : Nat) : Nat × Bool := if 2199023255553 ≤ a ∧ a < 2199023255569 then (a - 2199023255553, true) else (0, false)
theorem vald_yes {a : Nat} (h : 0 < a ∧ a < 281474976710656) : vald a = true := decide_eq_true h
theorem vald_no {a : Nat} (h : ¬ (0 < a ∧ a < 281474976710656)) : vald a = false := decide_eq_false h
theorem nod_in {n : Int} (h : 0 ≤ n ∧ n < 16) : nod n = 2199023255553 + n.toNat := if_pos h
theorem nod_out {n : Int} (h : ¬ (0 ≤ n ∧ n < 16)) : nod n = 0 := if_neg h
theorem num_in {a : Nat} (h : 2199023255553 ≤ a ∧ a < 2199023255569) : num a = (a - 2199023255553, true) := if_pos h
theorem num_out {a : Nat} (h : ¬ (2199023255553 ≤ a ∧ a < 2199023255569)) : num a = (0, false) := if_neg h
theorem num_nod (n : Nat) (h : n < 16) : num (nod n) = (n, true) := by
  have e := nod_in (n := (n : Int)) (by omega)
  rw [num_in (by omega)]
  have h2 : nod n - 2199023255553 = n := by omega
  rw [h2]
theorem nod_kind (n : Nat) (h : n < 16) : vald (nod n) = true ∧ grp (nod n) = false := by
  have e := nod_in (n := (n : Int)) (by omega)
  have h1 : vald (nod n) = true := vald_yes (by omega)
  refine ⟨h1, ?_⟩
  unfold grp
  rw [h1, e, Bool.true_and]
  exact decide_eq_false (by omega)
end Go.Ad
