/-
  COMPLETE FRAMES (of no program): layer 12: the octets, the length and the text of a frame.
-/
import Derived.Test.YtacbhbejchjbiaaDoorCkMath
import Derived.Test.YtacbhbejchjbiaaDoorHdOct
import Derived.Test.YtacbhbejchjbiaaDoorAdMath
import Derived.Lib.ItoaNum
import Derived.Lib.ItoaLen
namespace Go.Fm
open Go.Hd Go.Wr Go.Ad Go.Ck

/-- A string out of octets. -/
def st (l : List UInt8) : ByteArray := ⟨l.toArray⟩
theorem st_size (l : List UInt8) : (st l).size = l.length := by simp [st, ByteArray.size]
theorem st_data (l : List UInt8) : (st l).data.toList = l := by simp [st]
theorem st_of (s : ByteArray) : st s.data.toList = s := by unfold st; simp
/-- The octets of a frame. -/
def body (f : Fr) : List UInt8 := oct f ++ f.bo.data.toList
def sealed (l : List UInt8) : List UInt8 := l ++ le (crc l) 4
def enc (f : Fr) : ByteArray := if chk f = 0 then st (sealed (body f)) else ⟨#[]⟩
def flen (f : Fr) : Int := if chk f = 0 then len f + f.bo.size + 4 else 0
/-- The text of a frame. -/
def wd (b : Bool) (l : List UInt8) : List UInt8 := if b then 32 :: l else []
def retryT : List UInt8 := [114, 101, 116, 114, 121]
def moreT : List UInt8 := [109, 111, 114, 101]
def powerT : List UInt8 := [112, 111, 119, 101, 114]
def storedT : List UInt8 := [115, 116, 111, 114, 101, 100]
def lastT : List UInt8 := [108, 97, 115, 116]
def fl (f : Fr) : List UInt8 := wd f.rt retryT ++ wd f.mo moreT ++ wd f.pw powerT ++ wd f.st storedT ++ wd f.la lastT
def frm (f : Fr) : List UInt8 := if f.fa = 0 then [45] else txt f.fa.toNat
def dd (n : Int) : List UInt8 := Lib.decDigits n.toNat
def t1 (f : Fr) : List UInt8 := (nm f.kd).data.toList ++ [32] ++ txt f.ta.toNat ++ [32] ++ frm f
def t2 (f : Fr) : List UInt8 := t1 f ++ [32] ++ dd f.sq ++ [46] ++ dd f.fg ++ [32] ++ dd f.ct ++ [32] ++ dd f.bo.size
def text (f : Fr) : ByteArray := if chk f = 0 then st (t2 f ++ fl f) else ⟨#[]⟩

theorem chk_of {f : Fr} (h : chk f = 0) : isK f.kd ∧ rngs f ∧ ¬ (bd f.kd ∧ 2048 < f.bo.size) ∧ ¬ bad f := by
  unfold chk at h
  by_cases h1 : isK f.kd
  · rw [if_neg (not_not_intro h1)] at h
    by_cases h2 : rngs f
    · rw [if_neg (not_not_intro h2)] at h
      by_cases h3 : bd f.kd ∧ 2048 < f.bo.size
      · rw [if_pos h3] at h; omega
      · rw [if_neg h3] at h
        by_cases h4 : bad f
        · rw [if_pos h4] at h; omega
        · exact ⟨h1, h2, h3, h4⟩
    · rw [if_pos h2] at h; omega
  · rw [if_pos h1] at h; omega
/-- A valid frame's body. -/
theorem bo_le {f : Fr} (h : chk f = 0) : f.bo.size ≤ 2048 := by
  obtain ⟨_, _, h3, h4⟩ := chk_of h
  by_cases hb : bd f.kd
  · exact Nat.le_of_not_lt fun hl => h3 ⟨hb, hl⟩
  · have : f.bo.size = 0 := Classical.byContradiction fun hn => h4 (.inl (.inr (.inr (.inr (.inr (.inl ⟨hb, hn⟩))))))
    omega
theorem body_len {f : Fr} (h : chk f = 0) : ((body f).length : Int) = len f + f.bo.size := by
  unfold body
  rw [List.length_append, Int.natCast_add, oct_len_is h]
  rfl
theorem sealed_len (l : List UInt8) : (sealed l).length = l.length + 4 := by unfold sealed; rw [List.length_append, le_len]
theorem dd_len {n : Int} (h : 0 ≤ n ∧ n < 1000000000) : (dd n).length ≤ 20 := by
  unfold dd; rw [Lib.decDigits_length]; exact Lib.nDigits_le20 _ (by omega)
theorem wd_len (b : Bool) (l : List UInt8) : (wd b l).length ≤ l.length + 1 := by unfold wd; split <;> simp
theorem txt_len (a : Nat) : (txt a).length = 17 := by unfold txt; rw [tx_len]
theorem frm_len (f : Fr) : (frm f).length ≤ 17 := by unfold frm; split <;> simp [txt_len]
theorem nm_len (k : Int) : (nm k).data.toList.length ≤ 20 := by
  by_cases h : isK k
  · rcases kinds h with rfl | rfl | rfl | rfl | rfl | rfl | rfl | rfl | rfl | rfl | rfl | rfl | rfl | rfl | rfl | rfl | rfl | rfl | rfl <;> decide
  · rw [nm_no h]; decide
/-- The numbers of a valid frame. -/
structure Nums (f : Fr) : Prop where
  ta : 0 ≤ f.ta ∧ f.ta < 281474976710656
  fa : 0 ≤ f.fa ∧ f.fa < 281474976710656
  sq : 0 ≤ f.sq ∧ f.sq < 1000000000
  fg : 0 ≤ f.fg ∧ f.fg < 1000000000
  ct : 0 ≤ f.ct ∧ f.ct < 1000000000
  bo : f.bo.size ≤ 2048
theorem nums_of {f : Fr} (h : chk f = 0) : Nums f := by
  obtain ⟨_, h2, _, h4⟩ := chk_of h
  obtain ⟨_, a2, a3, a4, a5, a6⟩ := h2
  have hu : ¬ unu f := fun hu => h4 (.inl hu)
  unfold unu at hu
  have u2 : pl f.kd ∨ (f.po = 0 ∧ f.ct = 0) := by
    by_cases hp : pl f.kd
    · exact .inl hp
    · refine .inr ⟨?_, ?_⟩ <;> exact Classical.byContradiction fun hn => hu (.inr (.inl ⟨hp, by first | exact .inl hn | exact .inr hn⟩))
  have u3 : fro f.kd ∨ f.fa = 0 := by
    by_cases hp : fro f.kd
    · exact .inl hp
    · exact .inr (Classical.byContradiction fun hn => hu (.inr (.inr (.inl ⟨hp, hn⟩))))
  have u4 : nb f.kd ∨ f.sq = 0 := by
    by_cases hp : nb f.kd
    · exact .inl hp
    · exact .inr (Classical.byContradiction fun hn => hu (.inr (.inr (.inr (.inl ⟨hp, .inr hn⟩)))))
  have u6 : f.kd = 18 ∨ f.fg = 0 := by
    by_cases hp : f.kd = 18
    · exact .inl hp
    · exact .inr (Classical.byContradiction fun hn => hu (.inr (.inr (.inr (.inr (.inr ⟨hp, .inl hn⟩))))))
  refine ⟨⟨by have := a2.1; omega, a2.2⟩, ?_, ?_, ?_, ?_, bo_le h⟩
  · rcases u3 with hp | e
    · have := (a3 hp).1; unfold vad at this; omega
    · omega
  · rcases u4 with hp | e
    · have := (a4 hp).2.2; unfold rng at this; omega
    · omega
  · rcases u6 with hp | e
    · have := (a6 hp).1; unfold rng at this; omega
    · omega
  · rcases u2 with hp | e
    · have := (a5 hp).2; unfold rng at this; omega
    · omega
/-- The pieces of a text, and the text up to a piece. -/
def piece (f : Fr) : Nat → List UInt8
  | 2 => txt f.ta.toNat
  | 4 => frm f
  | 6 => dd f.sq
  | 7 => [46]
  | 8 => dd f.fg
  | 10 => dd f.ct
  | 12 => dd f.bo.size
  | _ => [32]
def lp (f : Fr) : Nat → List UInt8
  | 0 => (nm f.kd).data.toList
  | k + 1 => lp f k ++ piece f (k + 1)
theorem lp_t1 (f : Fr) : lp f 4 = t1 f := rfl
theorem lp_t2 (f : Fr) : lp f 12 = t2 f := rfl
theorem piece_len {f : Fr} (h : Nums f) (k : Nat) : (piece f k).length ≤ 20 := by
  unfold piece
  split
  · rw [txt_len]; decide
  · have := frm_len f; omega
  · exact dd_len h.sq
  · decide
  · exact dd_len h.fg
  · exact dd_len h.ct
  · exact dd_len ⟨by omega, by have := h.bo; omega⟩
  · decide
theorem lp_len {f : Fr} (h : Nums f) (k : Nat) : (lp f k).length ≤ 20 + 20 * k := by
  induction k with
  | zero => exact nm_len f.kd
  | succ k ih => unfold lp; rw [List.length_append]; have := piece_len h (k + 1); omega
/-- Frames in which the check reads the same but for the body. -/
theorem oct_bo (f : Fr) (b : ByteArray) : oct { f with bo := b } = oct f := rfl
end Go.Fm
