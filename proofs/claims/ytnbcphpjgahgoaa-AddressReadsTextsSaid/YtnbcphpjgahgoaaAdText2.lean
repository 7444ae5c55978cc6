/-
  WHICH TEXTS ARE TEXTS OF ADDRESSES, character by character. Of no program.
-/
import Derived.Test.YtnbcphpjgahgoaaAdMath
import Derived.Lib.Bytealg
namespace Go.Ad
open Go.Wr Go.RowKit

/-- The character at place j is a digit, or the colon. -/
def okc (l : List UInt8) (j : Nat) : Prop := if j % 3 < 2 then dig (l.getD j 0) < 16 else l.getD j 0 = 58

theorem hexd_dig' : ∀ c : Fin 256, dig (UInt8.ofNat c.val) < 16 → hexd (dig (UInt8.ofNat c.val)) = UInt8.ofNat c.val := by decide +kernel
theorem hexd_dig (c : UInt8) (h : dig c < 16) : hexd (dig c) = c := by
  have := hexd_dig' ⟨c.toNat, c.toNat_lt⟩
  simp only [UInt8.ofNat_toNat] at this
  exact this h
theorem index_dig' : ∀ c : Fin 256, Lib.indexByte [48, 49, 50, 51, 52, 53, 54, 55, 56, 57, 97, 98, 99, 100, 101, 102] (UInt8.ofNat c.val) = if dig (UInt8.ofNat c.val) < 16 then ((dig (UInt8.ofNat c.val) : Nat) : Int) else -1 := by decide +kernel
theorem index_dig (c : UInt8) : Lib.indexByte [48, 49, 50, 51, 52, 53, 54, 55, 56, 57, 97, 98, 99, 100, 101, 102] c = if dig c < 16 then ((dig c : Nat) : Int) else -1 := by
  have := index_dig' ⟨c.toNat, c.toNat_lt⟩
  simpa only [UInt8.ofNat_toNat] using this

theorem be_bev (a b c d e f : UInt8) : be (bev [a, b, c, d, e, f]) = [a, b, c, d, e, f] := by
  have ha := a.toNat_lt; have hb := b.toNat_lt; have hc := c.toNat_lt; have hd := d.toNat_lt; have he := e.toNat_lt; have hf := f.toNat_lt
  have h : ∀ (n k : Nat) (x : UInt8), n / pow k % 256 = x.toNat → UInt8.ofNat (n / pow k % 256) = x := fun n k x h => by rw [h, UInt8.ofNat_toNat]
  have E : be (bev [a, b, c, d, e, f]) = [UInt8.ofNat (bev [a, b, c, d, e, f] / pow 5 % 256), UInt8.ofNat (bev [a, b, c, d, e, f] / pow 4 % 256), UInt8.ofNat (bev [a, b, c, d, e, f] / pow 3 % 256), UInt8.ofNat (bev [a, b, c, d, e, f] / pow 2 % 256), UInt8.ofNat (bev [a, b, c, d, e, f] / pow 1 % 256), UInt8.ofNat (bev [a, b, c, d, e, f] / pow 0 % 256)] := by simp [be, le]
  have B : bev [a, b, c, d, e, f] = ((((a.toNat * 256 + b.toNat) * 256 + c.toNat) * 256 + d.toNat) * 256 + e.toNat) * 256 + f.toNat := by simp [bev]
  rw [E, B]
  have p5 : pow 5 = 1099511627776 := by decide
  have p4 : pow 4 = 4294967296 := by decide
  have p3 : pow 3 = 16777216 := by decide
  have p2 : pow 2 = 65536 := by decide
  have p1 : pow 1 = 256 := by decide
  have p0 : pow 0 = 1 := by decide
  rw [h _ 5 a (by rw [p5]; omega), h _ 4 b (by rw [p4]; omega), h _ 3 c (by rw [p3]; omega), h _ 2 d (by rw [p2]; omega), h _ 1 e (by rw [p1]; omega), h _ 0 f (by rw [p0]; omega)]

theorem dig_small {n : Nat} (h : n < 16) : dig (hexd n) < 16 := by rw [dig_hexd ⟨n, h⟩]; exact h
theorem okc_list (c0 c1 c2 c3 c4 c5 c6 c7 c8 c9 c10 c11 : UInt8) (h0 : dig c0 < 16) (h1 : dig c1 < 16) (h2 : dig c2 < 16) (h3 : dig c3 < 16) (h4 : dig c4 < 16) (h5 : dig c5 < 16) (h6 : dig c6 < 16) (h7 : dig c7 < 16) (h8 : dig c8 < 16) (h9 : dig c9 < 16) (h10 : dig c10 < 16) (h11 : dig c11 < 16) (j : Nat) (hj : j < 17) :
    okc [c0, c1, 58, c2, c3, 58, c4, c5, 58, c6, c7, 58, c8, c9, 58, c10, c11] j := by
  match j, hj with
  | 0, _ => exact h0
  | 1, _ => exact h1
  | 2, _ => exact rfl
  | 3, _ => exact h2
  | 4, _ => exact h3
  | 5, _ => exact rfl
  | 6, _ => exact h4
  | 7, _ => exact h5
  | 8, _ => exact rfl
  | 9, _ => exact h6
  | 10, _ => exact h7
  | 11, _ => exact rfl
  | 12, _ => exact h8
  | 13, _ => exact h9
  | 14, _ => exact rfl
  | 15, _ => exact h10
  | 16, _ => exact h11
  | j + 17, h => exact absurd h (by omega)
theorem okc_txt (a j : Nat) (hj : j < 17) : okc (txt a) j := by
  have e : ∃ a0 a1 a2 a3 a4 a5, be a = [a0, a1, a2, a3, a4, a5] := by
    have hl := be_len a
    match be a, hl with
    | [a0, a1, a2, a3, a4, a5], _ => exact ⟨a0, a1, a2, a3, a4, a5, rfl⟩
  obtain ⟨a0, a1, a2, a3, a4, a5, e⟩ := e
  have hh : ∀ x : UInt8, dig (hexd (x.toNat / 16)) < 16 := fun x => dig_small (by have := x.toNat_lt; omega)
  have hw : ∀ x : UInt8, dig (hexd (x.toNat % 16)) < 16 := fun x => dig_small (Nat.mod_lt _ (by decide))
  have t : txt a = [hexd (a0.toNat / 16), hexd (a0.toNat % 16), 58, hexd (a1.toNat / 16), hexd (a1.toNat % 16), 58, hexd (a2.toNat / 16), hexd (a2.toNat % 16), 58, hexd (a3.toNat / 16), hexd (a3.toNat % 16), 58, hexd (a4.toNat / 16), hexd (a4.toNat % 16), 58, hexd (a5.toNat / 16), hexd (a5.toNat % 16)] := by
    unfold txt; rw [e]; rfl
  rw [t]
  exact okc_list _ _ _ _ _ _ _ _ _ _ _ _ (hh a0) (hw a0) (hh a1) (hw a1) (hh a2) (hw a2) (hh a3) (hw a3) (hh a4) (hw a4) (hh a5) (hw a5) j hj

theorem p256 : 256 ^ 6 ≤ 281474976710656 := by decide
theorem txt_of_okc (l : List UInt8) (hl : l.length = 17) (h : ∀ j, j < 17 → okc l j) : txt (prz l) = l := by
  refine (txt_iff l).1 ?_
  match l, hl with
  | [c0, c1, c2, c3, c4, c5, c6, c7, c8, c9, c10, c11, c12, c13, c14, c15, c16], _ =>
    have d : ∀ x y : UInt8, dig x < 16 → dig y < 16 → ∃ z : UInt8, hexd (z.toNat / 16) = x ∧ hexd (z.toNat % 16) = y := fun x y hx hy => by
      have hz : (UInt8.ofNat (dig x * 16 + dig y)).toNat = dig x * 16 + dig y := by rw [UInt8.toNat_ofNat']; exact Nat.mod_eq_of_lt (by omega)
      refine ⟨UInt8.ofNat (dig x * 16 + dig y), ?_, ?_⟩
      · rw [hz, show (dig x * 16 + dig y) / 16 = dig x from by omega, hexd_dig x hx]
      · rw [hz, show (dig x * 16 + dig y) % 16 = dig y from by omega, hexd_dig y hy]
    obtain ⟨z0, e0, f0⟩ := d c0 c1 (h 0 (by decide)) (h 1 (by decide))
    obtain ⟨z1, e1, f1⟩ := d c3 c4 (h 3 (by decide)) (h 4 (by decide))
    obtain ⟨z2, e2, f2⟩ := d c6 c7 (h 6 (by decide)) (h 7 (by decide))
    obtain ⟨z3, e3, f3⟩ := d c9 c10 (h 9 (by decide)) (h 10 (by decide))
    obtain ⟨z4, e4, f4⟩ := d c12 c13 (h 12 (by decide)) (h 13 (by decide))
    obtain ⟨z5, e5, f5⟩ := d c15 c16 (h 15 (by decide)) (h 16 (by decide))
    have g0 : c2 = 58 := h 2 (by decide)
    have g1 : c5 = 58 := h 5 (by decide)
    have g2 : c8 = 58 := h 8 (by decide)
    have g3 : c11 = 58 := h 11 (by decide)
    have g4 : c14 = 58 := h 14 (by decide)
    refine ⟨bev [z0, z1, z2, z3, z4, z5], ?_, ?_⟩
    · exact Nat.lt_of_lt_of_le (bev_lt [z0, z1, z2, z3, z4, z5]) p256
    · unfold txt
      rw [be_bev]
      subst g0 g1 g2 g3 g4
      rw [← e0, ← e1, ← e2, ← e3, ← e4, ← e5, ← f0, ← f1, ← f2, ← f3, ← f4, ← f5]
      rfl

theorem txt_not (l : List UInt8) (j : Nat) (hj : j < 17) (h : ¬ okc l j) : ¬ txt (prz l) = l := fun e => h (e ▸ okc_txt (prz l) j hj)
end Go.Ad
