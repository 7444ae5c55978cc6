/-
  TRAFFIC INDICATION MAPS (of no program): layer 13. The octets of a set, the first and the last that are sent, what a map's octets are, what octets mean.
-/
import Derived.Test.YtojiffpmmgjpjaaDoorBsMath
namespace Go.Tm
open Go.Bs

structure Tm where
  c : Int
  p : Int
  g : Bool
  m : Int

/-- Octet i of the bitmap. -/
def oc (s i : Nat) : Nat := s / 2 ^ (8 * i) % 256
theorem oc_lt (s i : Nat) : oc s i < 256 := Nat.mod_lt _ (by decide)
theorem oc_bit (s i k : Nat) : (oc s i).testBit k = (decide (k < 8) && s.testBit (8 * i + k)) := by
  unfold oc
  rw [show (256 : Nat) = 2 ^ 8 from rfl, Nat.testBit_mod_two_pow, Nat.testBit_div_two_pow, Nat.add_comm]
theorem oc_zero {s i : Nat} : oc s i = 0 ↔ ∀ k, k < 8 → s.testBit (8 * i + k) = false := by
  constructor
  · intro h k hk
    have := oc_bit s i k
    rw [h, Nat.zero_testBit] at this
    simpa [hk] using this.symm
  · intro h
    refine Nat.eq_of_testBit_eq fun k => ?_
    rw [oc_bit, Nat.zero_testBit]
    by_cases hk : k < 8
    · rw [h k hk, Bool.and_false]
    · simp [hk]
theorem all_zero {s : Nat} (hs : s < 18446744073709551616) (h : ∀ i, i < 8 → oc s i = 0) : s = 0 := by
  refine Nat.eq_of_testBit_eq fun j => ?_
  rw [Nat.zero_testBit]
  by_cases hj : j < 64
  · have := oc_zero.1 (h (j / 8) (by omega)) (j % 8) (by omega)
    rwa [show 8 * (j / 8) + j % 8 = j by omega] at this
  · exact Nat.testBit_lt_two_pow (Nat.lt_of_lt_of_le hs (Nat.pow_le_pow_right (n := 2) (by decide) (show 64 ≤ j by omega)))
theorem has_at (s i k : Nat) (hi : i < 8) (hk : k < 8) : has s (8 * (i : Int) + k) = s.testBit (8 * i + k) := by
  rw [has_in (by omega) (by omega)]
  congr 1
theorem oc_step {s i k : Nat} (hi : i < 8) (hk : k < 8) : oc s i % 2 ^ (k + 1) = oc s i % 2 ^ k + if has s (8 * (i : Int) + k) = true then 2 ^ k else 0 := by
  have e := Nat.mod_pow_succ (x := oc s i) (b := 2) (k := k)
  have b : oc s i / 2 ^ k % 2 = if has s (8 * (i : Int) + k) = true then 1 else 0 := by
    rw [has_at s i k hi hk]
    have := oc_bit s i k
    rw [Nat.testBit_eq_decide_div_mod_eq] at this
    simp [hk] at this
    split
    · rename_i h; rw [h] at this; simpa using this
    · rename_i h
      have h' : s.testBit (8 * i + k) = false := by simpa using h
      rw [h'] at this
      have := of_decide_eq_false this
      omega
  rw [e, b]
  split
  · rw [Nat.mul_one]
  · rw [Nat.mul_zero]

/-- The first octet that is not 0 (8: there is none). -/
def fof (s : Nat) : Nat → Nat → Nat
  | 0, i => i
  | n + 1, i => if oc s i = 0 then fof s n (i + 1) else i
def fo (s : Nat) : Nat := fof s 8 0
theorem fof_spec (s : Nat) : ∀ n i, i ≤ fof s n i ∧ fof s n i ≤ i + n ∧ (∀ x, i ≤ x → x < fof s n i → oc s x = 0) ∧ (fof s n i < i + n → oc s (fof s n i) ≠ 0)
  | 0, i => ⟨Nat.le_refl _, Nat.le_refl _, fun x h1 h2 => absurd h2 (Nat.not_lt.2 h1), fun h => absurd h (Nat.lt_irrefl _)⟩
  | n + 1, i => by
    rw [fof]
    split
    · rename_i h
      obtain ⟨h1, h2, h3, h4⟩ := fof_spec s n (i + 1)
      refine ⟨by omega, by omega, fun x a b => ?_, fun a => h4 (by omega)⟩
      by_cases hx : x = i
      · rw [hx]; exact h
      · exact h3 x (by omega) b
    · rename_i h
      exact ⟨Nat.le_refl _, by omega, fun x a b => absurd b (Nat.not_lt.2 a), fun _ => h⟩
theorem fo_le (s : Nat) : fo s ≤ 8 := (fof_spec s 8 0).2.1
theorem fo_zero {s x : Nat} (h : x < fo s) : oc s x = 0 := (fof_spec s 8 0).2.2.1 x (Nat.zero_le _) h
theorem fo_ne {s : Nat} (h : fo s < 8) : oc s (fo s) ≠ 0 := (fof_spec s 8 0).2.2.2 h
theorem fo_at {s j : Nat} (h : j ≤ 8) (h0 : ∀ x, x < j → oc s x = 0) (h1 : j < 8 → oc s j ≠ 0) : fo s = j := by
  rcases Nat.lt_trichotomy (fo s) j with a | a | a
  · exact absurd (h0 _ a) (fo_ne (by omega))
  · exact a
  · exact absurd (fo_zero a) (h1 (by have := fo_le s; omega))

/-- The last octet that is not 0 (0: there is none). -/
def lof (s : Nat) : Nat → Nat
  | 0 => 0
  | n + 1 => if oc s (n + 1) = 0 then lof s n else n + 1
def lo (s : Nat) : Nat := lof s 7
theorem lof_spec (s : Nat) : ∀ n, lof s n ≤ n ∧ (∀ x, lof s n < x → x ≤ n → oc s x = 0) ∧ (lof s n ≠ 0 → oc s (lof s n) ≠ 0)
  | 0 => ⟨Nat.le_refl _, fun x h1 h2 => absurd h1 (Nat.not_lt.2 h2), fun h => absurd rfl h⟩
  | n + 1 => by
    rw [lof]
    split
    · rename_i h
      obtain ⟨h1, h2, h3⟩ := lof_spec s n
      refine ⟨by omega, fun x a b => ?_, h3⟩
      by_cases hx : x = n + 1
      · rw [hx]; exact h
      · exact h2 x a (by omega)
    · rename_i h
      exact ⟨Nat.le_refl _, fun x a b => absurd a (Nat.not_lt.2 b), fun _ => h⟩
theorem lo_le (s : Nat) : lo s ≤ 7 := (lof_spec s 7).1
theorem lo_zero {s x : Nat} (h : lo s < x) (h7 : x ≤ 7) : oc s x = 0 := (lof_spec s 7).2.1 x h h7
theorem lo_at {s j : Nat} (h : j ≤ 7) (h0 : ∀ x, j < x → x ≤ 7 → oc s x = 0) (h1 : j ≠ 0 → oc s j ≠ 0) : lo s = j := by
  rcases Nat.lt_trichotomy (lo s) j with a | a | a
  · exact absurd (lo_zero a h) (h1 (by omega))
  · exact a
  · exact absurd (h0 _ a (lo_le s)) ((lof_spec s 7).2.2 (by unfold lo at a; omega))

section some
variable {s : Nat} (hs : s < 18446744073709551616) (h0 : s ≠ 0)
include hs h0
theorem fo_lt : fo s < 8 := by
  have := fo_le s
  rcases Nat.lt_or_ge (fo s) 8 with h | h
  · exact h
  · exact absurd (all_zero hs fun i hi => fo_zero (by omega)) h0
theorem fo_le_lo : fo s ≤ lo s := by
  have hf := fo_lt hs h0
  rcases Nat.lt_or_ge (lo s) (fo s) with h | h
  · exact absurd (lo_zero h (by omega)) (fo_ne hf)
  · exact h
theorem lo_ne : oc s (lo s) ≠ 0 := by
  by_cases h : lo s = 0
  · have e : fo s = lo s := by have := fo_le_lo hs h0; omega
    rw [← e]; exact fo_ne (fo_lt hs h0)
  · exact (lof_spec s 7).2.2 h
end some

/-- The first and the last octet that are sent. -/
def fr (s : Nat) : Nat := if s = 0 then 0 else fo s - fo s % 2
def tt (s : Nat) : Nat := if s = 0 then 0 else lo s
theorem tt_le (s : Nat) : tt s ≤ 7 := by unfold tt; have := lo_le s; split <;> omega
theorem fr_le {s : Nat} (hs : s < 18446744073709551616) : fr s ≤ tt s := by
  unfold fr tt
  split
  · exact Nat.le_refl _
  · rename_i h
    have := fo_le_lo hs h
    omega
theorem fr_even (s : Nat) : fr s % 2 = 0 := by unfold fr; split <;> omega
theorem out_fr {s x : Nat} (h : x < fr s) : oc s x = 0 := by
  unfold fr at h
  split at h
  · omega
  · exact fo_zero (by omega)
theorem out_tt {s x : Nat} (h : tt s < x) (h7 : x ≤ 7) : oc s x = 0 := by
  unfold tt at h
  split at h
  · rename_i e; rw [e]; unfold oc; simp
  · exact lo_zero h h7

/-- The octets of the bitmap that are sent. -/
def bmn (s n : Nat) : List UInt8 := (List.range n).map fun j => UInt8.ofNat (oc s (fr s + j))
def bm (s : Nat) : List UInt8 := bmn s (tt s + 1 - fr s)
theorem bmn_len (s n : Nat) : (bmn s n).length = n := by unfold bmn; simp
theorem bmn_succ (s n : Nat) : bmn s (n + 1) = bmn s n ++ [UInt8.ofNat (oc s (fr s + n))] := by unfold bmn; rw [List.range_succ, List.map_append]; rfl
/-- The first three octets, and all of them. -/
def hd (c p : Int) (g : Bool) (s : Nat) : List UInt8 := [UInt8.ofNat c.toNat, UInt8.ofNat p.toNat, UInt8.ofNat (fr s + g.toNat)]
def enc (c p : Int) (g : Bool) (s : Nat) : ByteArray := ⟨(hd c p g s ++ bm s).toArray⟩
theorem enc_size (c p : Int) (g : Bool) (s : Nat) : (enc c p g s).size = 3 + (tt s + 1 - fr s) := by
  rw [show (enc c p g s).size = (hd c p g s ++ bm s).length from List.size_toArray, List.length_append, bm, bmn_len]
  rfl
theorem enc_sizes (c p : Int) (g : Bool) {s : Nat} (hs : s < 18446744073709551616) : 4 ≤ (enc c p g s).size ∧ (enc c p g s).size ≤ 11 := by
  rw [enc_size]
  have := fr_le hs; have := tt_le s
  omega

/-- May a map have this Count and this Period? -/
def cnt (c p : Int) : Bool := decide (0 ≤ c) && decide (c < p) && decide (p ≤ 255)
theorem cnt_iff {c p : Int} : cnt c p = true ↔ 0 ≤ c ∧ c < p ∧ p ≤ 255 := by unfold cnt; simp [and_assoc]
/-- What Check answers. -/
def chk (c p : Int) (s : Nat) : Int := if cnt c p = true then (if has s 0 = true then 3 else 0) else 4
theorem chk_ok {c p : Int} {s : Nat} : chk c p s = 0 ↔ cnt c p = true ∧ has s 0 = false := by
  unfold chk
  cases cnt c p <;> cases has s 0 <;> simp
/-- What Encode answers. -/
def encR (c p : Int) (g : Bool) (s : Nat) : ByteArray := if chk c p s = 0 then enc c p g s else ⟨#[]⟩

/-! Decode. -/
def byt (a : ByteArray) (i : Nat) : Nat := (a.data.toList.getD i 0).toNat
theorem byt_get {a : ByteArray} {i : Nat} (h : i < a.size) : (a[i]'h).toNat = byt a i := by
  unfold byt
  have h' : i < a.data.toList.length := by rw [Array.length_toList]; exact h
  rw [List.getD_eq_getElem?_getD, List.getElem?_eq_getElem h']
  rfl
theorem byt_lt (a : ByteArray) (i : Nat) : byt a i < 256 := UInt8.toNat_lt _
def bmk (f : Nat) (a : ByteArray) : Nat → Nat
  | 0 => 0
  | k + 1 => bmk f a k ||| byt a (3 + k) * 2 ^ (8 * (f + k)) % 18446744073709551616
theorem bmk_lt (f : Nat) (a : ByteArray) : ∀ k, bmk f a k < 18446744073709551616
  | 0 => Nat.two_pow_pos 64
  | k + 1 => by
    rw [bmk]
    exact Nat.or_lt_two_pow (n := 64) (bmk_lt f a k) (Nat.mod_lt _ (by decide))
/-- The number of the first octet that was sent, by the control octet. -/
def off (a : ByteArray) : Nat := byt a 2 - byt a 2 % 2
def bmp (a : ByteArray) : Nat := bmk (off a) a (a.size - 3)
theorem bmp_lt (a : ByteArray) : bmp a < 18446744073709551616 := bmk_lt _ _ _
def grp (a : ByteArray) : Bool := byt a 2 % 2 == 1
def zt : Tm := ⟨0, 0, false, 0⟩
def dec (a : ByteArray) : Tm × Int :=
  if a.size < 4 then (zt, 1)
  else if 11 < a.size then (zt, 2)
  else if cnt (byt a 0 : Int) (byt a 1 : Int) = true then
    (if chk (byt a 0 : Int) (byt a 1 : Int) (bmp a) = 0 ∧ enc (byt a 0 : Int) (byt a 1 : Int) (grp a) (bmp a) = a then (⟨(byt a 0 : Int), (byt a 1 : Int), grp a, (bmp a : Int)⟩, 0) else (zt, 3))
  else (zt, 4)

theorem byt_enc0 {c p : Int} {g : Bool} {s : Nat} (h : cnt c p = true) : ((byt (enc c p g s) 0 : Nat) : Int) = c := by
  have := cnt_iff.1 h
  show ((UInt8.ofNat c.toNat).toNat : Int) = c
  simp; omega
theorem byt_enc1 {c p : Int} {g : Bool} {s : Nat} (h : cnt c p = true) : ((byt (enc c p g s) 1 : Nat) : Int) = p := by
  have := cnt_iff.1 h
  show ((UInt8.ofNat p.toNat).toNat : Int) = p
  simp; omega
theorem byt_enc2 (c p : Int) (g : Bool) {s : Nat} (hs : s < 18446744073709551616) : byt (enc c p g s) 2 = fr s + g.toNat := by
  have := fr_le hs; have := tt_le s
  show (UInt8.ofNat (fr s + g.toNat)).toNat = _
  have : g.toNat ≤ 1 := by cases g <;> decide
  simp; omega
theorem off_enc (c p : Int) (g : Bool) {s : Nat} (hs : s < 18446744073709551616) : off (enc c p g s) = fr s := by
  unfold off
  rw [byt_enc2 c p g hs]
  have := fr_even s
  have : g.toNat ≤ 1 := by cases g <;> decide
  omega
theorem grp_enc (c p : Int) (g : Bool) {s : Nat} (hs : s < 18446744073709551616) : grp (enc c p g s) = g := by
  unfold grp
  rw [byt_enc2 c p g hs]
  have := fr_even s
  cases g
  · have : (fr s + false.toNat) % 2 = 0 := by simp; omega
    rw [this]; rfl
  · have : (fr s + true.toNat) % 2 = 1 := by simp; omega
    rw [this]; rfl
theorem byt_encK (c p : Int) (g : Bool) (s : Nat) {j : Nat} (hj : j < tt s + 1 - fr s) : byt (enc c p g s) (3 + j) = oc s (fr s + j) := by
  have e : (enc c p g s).data.toList = hd c p g s ++ bm s := by unfold enc; rfl
  unfold byt
  rw [e, List.getD_eq_getElem?_getD, List.getElem?_append_right (show (hd c p g s).length ≤ 3 + j from Nat.le_add_right 3 j), show 3 + j - (hd c p g s).length = j from Nat.add_sub_cancel_left 3 j]
  unfold bm bmn
  rw [List.getElem?_map, List.getElem?_range hj]
  have := oc_lt s (fr s + j)
  simp; omega
theorem bmk_bit {s f n : Nat} {a : ByteArray} (H : ∀ j, j < n → byt a (3 + j) = oc s (f + j)) : ∀ k, k ≤ n → ∀ i, (bmk f a k).testBit i = (decide (i < 64 ∧ 8 * f ≤ i ∧ i < 8 * (f + k)) && s.testBit i)
  | 0, _, i => by
    rw [bmk, Nat.zero_testBit, decide_eq_false (show ¬ (i < 64 ∧ 8 * f ≤ i ∧ i < 8 * (f + 0)) by omega), Bool.false_and]
  | k + 1, hk, i => by
    rw [bmk, Nat.testBit_or, bmk_bit H k (by omega) i, H k (by omega), show (18446744073709551616 : Nat) = 2 ^ 64 from rfl, Nat.testBit_mod_two_pow, Nat.testBit_mul_two_pow, oc_bit]
    by_cases h1 : 8 * (f + k) ≤ i
    · rw [show 8 * (f + k) + (i - 8 * (f + k)) = i by omega]
      by_cases h2 : i < 64
      · by_cases h3 : i < 8 * (f + (k + 1))
        · have a1 : ¬ (i < 64 ∧ 8 * f ≤ i ∧ i < 8 * (f + k)) := by omega
          have a2 : i < 64 ∧ 8 * f ≤ i ∧ i < 8 * (f + (k + 1)) := by omega
          have a3 : i - 8 * (f + k) < 8 := by omega
          rw [decide_eq_false a1, decide_eq_true a2, decide_eq_true a3, decide_eq_true h1, decide_eq_true h2]; simp
        · have a1 : ¬ (i < 64 ∧ 8 * f ≤ i ∧ i < 8 * (f + k)) := by omega
          have a2 : ¬ (i < 64 ∧ 8 * f ≤ i ∧ i < 8 * (f + (k + 1))) := by omega
          have a3 : ¬ i - 8 * (f + k) < 8 := by omega
          rw [decide_eq_false a1, decide_eq_false a2, decide_eq_false a3]; simp
      · have a1 : ¬ (i < 64 ∧ 8 * f ≤ i ∧ i < 8 * (f + k)) := by omega
        have a2 : ¬ (i < 64 ∧ 8 * f ≤ i ∧ i < 8 * (f + (k + 1))) := by omega
        rw [decide_eq_false a1, decide_eq_false a2, decide_eq_false h2]; simp
    · rw [decide_eq_false h1]
      by_cases h2 : i < 64 ∧ 8 * f ≤ i
      · rw [decide_eq_true (show i < 64 ∧ 8 * f ≤ i ∧ i < 8 * (f + k) by omega), decide_eq_true (show i < 64 ∧ 8 * f ≤ i ∧ i < 8 * (f + (k + 1)) by omega)]; simp
      · rw [decide_eq_false (show ¬ (i < 64 ∧ 8 * f ≤ i ∧ i < 8 * (f + k)) by omega), decide_eq_false (show ¬ (i < 64 ∧ 8 * f ≤ i ∧ i < 8 * (f + (k + 1))) by omega)]; simp
theorem bmp_enc (c p : Int) (g : Bool) {s : Nat} (hs : s < 18446744073709551616) : bmp (enc c p g s) = s := by
  have hf := fr_le hs
  have ht := tt_le s
  unfold bmp
  rw [off_enc c p g hs, enc_size, show 3 + (tt s + 1 - fr s) - 3 = tt s + 1 - fr s by omega]
  refine Nat.eq_of_testBit_eq fun i => ?_
  rw [bmk_bit (s := s) (n := tt s + 1 - fr s) (fun j hj => byt_encK c p g s hj) _ (Nat.le_refl _)]
  by_cases h : i < 64 ∧ 8 * fr s ≤ i ∧ i < 8 * (fr s + (tt s + 1 - fr s))
  · rw [decide_eq_true h, Bool.true_and]
  · rw [decide_eq_false h, Bool.false_and]
    symm
    by_cases h64 : i < 64
    · have key : oc s (i / 8) = 0 := by
        by_cases h1 : i / 8 < fr s
        · exact out_fr h1
        · exact out_tt (by omega) (by omega)
      have := oc_zero.1 key (i % 8) (by omega)
      rwa [show 8 * (i / 8) + i % 8 = i by omega] at this
    · exact Nat.testBit_lt_two_pow (Nat.lt_of_lt_of_le hs (Nat.pow_le_pow_right (n := 2) (by decide) (show 64 ≤ i by omega)))
/-- A valid map is recovered. -/
theorem dec_enc {c p : Int} {g : Bool} {s : Nat} (hs : s < 18446744073709551616) (h : chk c p s = 0) : dec (enc c p g s) = (⟨c, p, g, (s : Int)⟩, 0) := by
  have hc := (chk_ok.1 h).1
  have hz := enc_sizes c p g hs
  unfold dec
  rw [if_neg (by omega), if_neg (by omega), byt_enc0 hc, byt_enc1 hc, if_pos hc, bmp_enc c p g hs, grp_enc c p g hs, if_pos ⟨h, rfl⟩]
/-- What is accepted is a map's octets. -/
theorem dec_ok {a : ByteArray} (h : (dec a).2 = 0) : ∃ (c p : Int) (g : Bool) (s : Nat), s < 18446744073709551616 ∧ (dec a).1 = ⟨c, p, g, (s : Int)⟩ ∧ chk c p s = 0 ∧ enc c p g s = a := by
  unfold dec at h ⊢
  split at h
  · exact absurd h (by decide)
  · rename_i h1
    split at h
    · exact absurd h (by decide)
    · rename_i h2
      split at h
      · rename_i h3
        split at h
        · rename_i h4
          rw [if_neg h1, if_neg h2, if_pos h3, if_pos h4]
          exact ⟨_, _, _, _, bmp_lt a, rfl, h4.1, h4.2⟩
        · exact absurd h (by decide)
      · exact absurd h (by decide)
theorem dec_bad {a : ByteArray} (h : ¬ (dec a).2 = 0) : (dec a).1 = zt := by
  unfold dec at h ⊢
  split
  · rfl
  · split
    · rfl
    · split
      · split
        · rename_i h1 h2 h3 h4
          rw [if_neg h1, if_neg h2, if_pos h3, if_pos h4] at h
          exact absurd rfl h
        · rfl
      · rfl
/-- Octets that would extend beyond the bitmap are no map's. -/
theorem enc_beyond {a : ByteArray} (h : 8 < off a + (a.size - 3)) (c p : Int) (g : Bool) {s : Nat} (hs : s < 18446744073709551616) : enc c p g s ≠ a := by
  intro e
  rw [← e, off_enc c p g hs, enc_size] at h
  have := fr_le hs; have := tt_le s
  omega

/-! The reference's bits, one after the other. -/
def acc (f : Nat) (a : ByteArray) (i k : Nat) : Nat := bmk f a i ||| byt a (3 + i) % 2 ^ k * 2 ^ (8 * (f + i))
theorem acc_zero (f : Nat) (a : ByteArray) (i : Nat) : acc f a i 0 = bmk f a i := by unfold acc; simp [Nat.mod_one]
theorem pow_split {n : Nat} (h : n < 8) : 2 ^ (8 * n) * 256 ≤ 18446744073709551616 := by
  have : 2 ^ (8 * n) * 256 = 2 ^ (8 * n + 8) := by rw [Nat.pow_add]
  rw [this]
  exact Nat.pow_le_pow_right (n := 2) (by decide) (show 8 * n + 8 ≤ 64 by omega)
theorem acc_full {f : Nat} {a : ByteArray} {i : Nat} (h : f + i < 8) : acc f a i 8 = bmk f a (i + 1) := by
  unfold acc
  rw [bmk]
  have h1 := byt_lt a (3 + i)
  have h2 := pow_split h
  rw [Nat.mod_eq_of_lt (show byt a (3 + i) < 2 ^ 8 from h1), Nat.mod_eq_of_lt]
  exact Nat.lt_of_lt_of_le (Nat.mul_lt_mul_of_pos_right h1 (Nat.two_pow_pos _)) (by rw [Nat.mul_comm]; exact h2)
theorem acc_lt {f : Nat} {a : ByteArray} {i k : Nat} (h : f + i < 8) : acc f a i k < 18446744073709551616 := by
  refine Nat.or_lt_two_pow (n := 64) (bmk_lt f a i) ?_
  have h1 := byt_lt a (3 + i)
  have h2 := pow_split h
  have h3 : byt a (3 + i) % 2 ^ k < 256 := Nat.lt_of_le_of_lt (Nat.mod_le _ _) h1
  exact Nat.lt_of_lt_of_le (Nat.mul_lt_mul_of_pos_right h3 (Nat.two_pow_pos _)) (by rw [Nat.mul_comm]; exact h2)
theorem acc_bit (f : Nat) (a : ByteArray) (i k j : Nat) : (acc f a i k).testBit j = ((bmk f a i).testBit j || (decide (8 * (f + i) ≤ j) && (decide (j - 8 * (f + i) < k) && (byt a (3 + i)).testBit (j - 8 * (f + i))))) := by
  unfold acc
  rw [Nat.testBit_or, Nat.testBit_mul_two_pow, Nat.testBit_mod_two_pow]
theorem acc_no {f : Nat} {a : ByteArray} {i k : Nat} (hk : k < 8) (h : has (byt a (3 + i)) k = false) : acc f a i (k + 1) = acc f a i k := by
  rw [has_in (by omega) (by omega), Int.toNat_natCast] at h
  refine Nat.eq_of_testBit_eq fun j => ?_
  rw [acc_bit, acc_bit]
  by_cases e : j - 8 * (f + i) = k
  · rw [e, h]; simp
  · by_cases l : j - 8 * (f + i) < k
    · rw [decide_eq_true l, decide_eq_true (show j - 8 * (f + i) < k + 1 by omega)]
    · rw [decide_eq_false l, decide_eq_false (show ¬ j - 8 * (f + i) < k + 1 by omega)]
theorem acc_yes {f : Nat} {a : ByteArray} {i k : Nat} (hf : f + i < 8) (hk : k < 8) (h : has (byt a (3 + i)) k = true) : acc f a i (k + 1) = wth (acc f a i k) (8 * ((f : Int) + i) + k) := by
  rw [has_in (by omega) (by omega), Int.toNat_natCast] at h
  refine Nat.eq_of_testBit_eq fun j => ?_
  rw [testBit_wth, acc_bit, acc_bit]
  by_cases e : j = 8 * (f + i) + k
  · subst e
    rw [show 8 * (f + i) + k - 8 * (f + i) = k by omega, h, decide_eq_true (show 8 * (f + i) ≤ 8 * (f + i) + k by omega), decide_eq_true (show k < k + 1 by omega), decide_eq_true (show 0 ≤ 8 * ((f : Int) + i) + k ∧ 8 * ((f : Int) + i) + k < 64 ∧ (8 * ((f : Int) + i) + k).toNat = 8 * (f + i) + k by omega)]
    simp
  · rw [decide_eq_false (show ¬ (0 ≤ 8 * ((f : Int) + i) + k ∧ 8 * ((f : Int) + i) + k < 64 ∧ (8 * ((f : Int) + i) + k).toNat = j) by omega), Bool.or_false]
    by_cases l : 8 * (f + i) ≤ j
    · by_cases l2 : j - 8 * (f + i) < k
      · rw [decide_eq_true l2, decide_eq_true (show j - 8 * (f + i) < k + 1 by omega)]
      · rw [decide_eq_false l2, decide_eq_false (show ¬ j - 8 * (f + i) < k + 1 by omega)]
    · rw [decide_eq_false l]; simp

/-! Next. -/
def nx (c p : Int) : Int := if c = 0 then p - 1 else c - 1
theorem nx_eq {c p : Int} (h : cnt c p = true) : (c + p - 1).tmod p = nx c p := by
  have := cnt_iff.1 h
  unfold nx
  split
  · rename_i e; subst e
    rw [show (0 + p - 1 : Int) = p - 1 by omega]
    exact Int.tmod_eq_of_lt (by omega) (by omega)
  · rw [Int.tmod_eq_emod_of_nonneg (by omega), show c + p - 1 = c - 1 + p by omega, Int.add_emod_right]
    exact Int.emod_eq_of_lt (by omega) (by omega)
/-- The Count after k steps. -/
def cu (c p : Int) (k : Nat) : Int := (c - k) % p
theorem cu_zero {c p : Int} (h : cnt c p = true) : cu c p 0 = c := by
  have := cnt_iff.1 h
  unfold cu
  rw [show c - ((0 : Nat) : Int) = c by omega]
  exact Int.emod_eq_of_lt (by omega) (by omega)
theorem cu_cnt {c p : Int} (h : cnt c p = true) (k : Nat) : cnt (cu c p k) p = true := by
  have := cnt_iff.1 h
  exact cnt_iff.2 ⟨Int.emod_nonneg _ (by omega), Int.emod_lt_of_pos _ (by omega), by omega⟩
theorem cu_succ {c p : Int} (h : cnt c p = true) (k : Nat) : nx (cu c p k) p = cu c p (k + 1) := by
  have hp := cnt_iff.1 h
  have h1 : 0 ≤ (c - k) % p := Int.emod_nonneg _ (by omega)
  have h2 : (c - k) % p < p := Int.emod_lt_of_pos _ (by omega)
  have h3 := Int.emod_add_mul_ediv (c - k) p
  unfold nx cu
  generalize hq : (c - k) % p = q at *
  generalize (c - k) / p = t at *
  split
  · rename_i e
    rw [show c - ((k + 1 : Nat) : Int) = (p - 1) + p * (t - 1) by rw [Int.mul_sub, Int.mul_one]; omega, Int.add_mul_emod_self_left]
    exact (Int.emod_eq_of_lt (by omega) (by omega)).symm
  · rw [show c - ((k + 1 : Nat) : Int) = (q - 1) + p * t by omega, Int.add_mul_emod_self_left]
    exact (Int.emod_eq_of_lt (by omega) (by omega)).symm
theorem cu_end {c p : Int} (h : cnt c p = true) {k : Nat} (hk : (k : Int) = p) : cu c p k = c := by
  have := cnt_iff.1 h
  unfold cu
  rw [hk, show c - p = c + p * (-1) by omega, Int.add_mul_emod_self_left]
  exact Int.emod_eq_of_lt (by omega) (by omega)
end Go.Tm
