/-
  OF NO PROGRAM: sets of integers from 0 to 63 as natural numbers below 2^64: single, has, with, without, and the bridges from the bit operations that the walk leaves.
-/
import Derived.Laws.BitsAllLaws
import Derived.IntWalk
namespace Go.Bs

/-- 2 to the i (a plain name, that the walk does not open). -/
def pw (i : Nat) : Nat := 2 ^ i
/-- The set of i alone; empty if i is not from 0 to 63. -/
def sgl (i : Int) : Nat := if 0 ≤ i ∧ i < 64 then pw i.toNat else 0
/-- i is an element of s. -/
def has (s : Nat) (i : Int) : Bool := decide (0 ≤ i ∧ i < 64) && s.testBit i.toNat
/-- s with i. -/
def wth (s : Nat) (i : Int) : Nat := s ||| sgl i
/-- s without i. -/
def wot (s : Nat) (i : Int) : Nat := s ^^^ (s &&& sgl i)

theorem pw_pos (i : Nat) : 1 ≤ pw i := Nat.one_le_two_pow
theorem pw_lt {i : Nat} (h : i < 64) : pw i < 18446744073709551616 := Nat.pow_lt_pow_right (by decide) h
theorem pw_succ (i : Nat) : pw (i + 1) = pw i * 2 := Nat.pow_succ ..
theorem sgl_lt (i : Int) : sgl i < 18446744073709551616 := by
  unfold sgl; split
  · exact pw_lt (by omega)
  · omega
theorem sgl_out {i : Int} (h : ¬ (0 ≤ i ∧ i < 64)) : sgl i = 0 := if_neg h
theorem sgl_in {i : Int} (h0 : 0 ≤ i) (h1 : i < 64) : sgl i = pw i.toNat := if_pos ⟨h0, h1⟩
theorem testBit_sgl (i : Int) (j : Nat) : (sgl i).testBit j = decide (0 ≤ i ∧ i < 64 ∧ i.toNat = j) := by
  unfold sgl; split
  · rename_i h
    rw [show pw i.toNat = 2 ^ i.toNat from rfl, Nat.testBit_two_pow, Bool.eq_iff_iff]; simp [h.1, h.2]
  · rename_i h
    simp only [Nat.zero_testBit]
    exact (decide_eq_false (fun e => h ⟨e.1, e.2.1⟩)).symm
theorem wth_lt {s : Nat} (h : s < 18446744073709551616) (i : Int) : wth s i < 18446744073709551616 :=
  Nat.or_lt_two_pow (n := 64) h (sgl_lt i)
theorem wot_lt {s : Nat} (h : s < 18446744073709551616) (i : Int) : wot s i < 18446744073709551616 :=
  Nat.xor_lt_two_pow (n := 64) h (Nat.and_lt_two_pow (n := 64) _ (sgl_lt i))
theorem testBit_wth (s : Nat) (i : Int) (j : Nat) : (wth s i).testBit j = (s.testBit j || decide (0 ≤ i ∧ i < 64 ∧ i.toNat = j)) := by
  unfold wth; rw [Nat.testBit_or, testBit_sgl]
theorem testBit_wot (s : Nat) (i : Int) (j : Nat) : (wot s i).testBit j = (s.testBit j && !decide (0 ≤ i ∧ i < 64 ∧ i.toNat = j)) := by
  unfold wot; rw [Nat.testBit_xor, Nat.testBit_and, testBit_sgl]
  cases s.testBit j <;> simp
theorem has_in {s : Nat} {i : Int} (h0 : 0 ≤ i) (h1 : i < 64) : has s i = s.testBit i.toNat := by
  unfold has; rw [decide_eq_true ⟨h0, h1⟩, Bool.true_and]
theorem has_out {s : Nat} {i : Int} (h : ¬ (0 ≤ i ∧ i < 64)) : has s i = false := by
  unfold has; rw [decide_eq_false h, Bool.false_and]

/-! the program's own operations -/
theorem or_eq {s : Nat} (h : s < 18446744073709551616) (i : Int) : bits .or .u64 (s : Int) (sgl i : Int) = (wth s i : Int) := u64_or_nat _ _ h (sgl_lt i)
theorem andNot_eq {s : Nat} (h : s < 18446744073709551616) (i : Int) : bits .andNot .u64 (s : Int) (sgl i : Int) = (wot s i : Int) := by
  rw [u64_andNot_nat _ _ h (sgl_lt i)]
  congr 1
  apply Nat.eq_of_testBit_eq
  intro j
  rw [Nat.testBit_and, testBit_wot, ← testBit_sgl]
  by_cases hj : j < 64
  · rw [show 18446744073709551615 - sgl i = 2 ^ 64 - (sgl i + 1) from by omega, Nat.testBit_two_pow_sub_succ (sgl_lt i)]
    simp [hj]
  · have : s.testBit j = false := Nat.testBit_lt_two_pow (Nat.lt_of_lt_of_le h (show 2 ^ 64 ≤ 2 ^ j from Nat.pow_le_pow_right (by decide) (by omega)))
    rw [this]; simp
theorem and_ne {s : Nat} (h : s < 18446744073709551616) (i : Int) : (bits .and .u64 (s : Int) (sgl i : Int) != 0) = has s i := by
  rw [u64_and_nat _ _ h (sgl_lt i)]
  have e : (s &&& sgl i = 0) ↔ has s i = false := by
    constructor
    · intro h0
      by_cases hi : 0 ≤ i ∧ i < 64
      · have := congrArg (fun x => x.testBit i.toNat) h0
        simp only [Nat.testBit_and, testBit_sgl, Nat.zero_testBit] at this
        rw [has_in hi.1 hi.2]; simpa [hi.1, hi.2] using this
      · exact has_out hi
    · intro h0
      apply Nat.eq_of_testBit_eq
      intro j
      rw [Nat.testBit_and, testBit_sgl, Nat.zero_testBit]
      by_cases hi : 0 ≤ i ∧ i < 64 ∧ i.toNat = j
      · obtain ⟨h1, h2, rfl⟩ := hi
        rw [has_in h1 h2] at h0; rw [h0]; rfl
      · simp [hi]
  cases hh : has s i
  · simp [e.2 hh]
  · have : s &&& sgl i ≠ 0 := fun h0 => by rw [e.1 h0] at hh; cases hh
    simp; omega

/-! the reference's -/
theorem div_mod {s : Nat} {i : Int} (h0 : 0 ≤ i) (h1 : i < 64) : ((s : Int) / (pw i.toNat : Int) % 2 == 1) = has s i := by
  rw [has_in h0 h1, Nat.testBit_eq_decide_div_mod_eq]
  have : ((s : Int) / (pw i.toNat : Int) % 2) = ((s / 2 ^ i.toNat % 2 : Nat) : Int) := rfl
  rw [this]
  generalize s / 2 ^ i.toNat % 2 = n
  rw [Bool.eq_iff_iff, beq_iff_eq, decide_eq_true_iff]; omega
theorem div_mod_wrap {s : Nat} (h : s < 18446744073709551616) {i : Int} (h0 : 0 ≤ i) (h1 : i < 64) : ((IntKind.u64.wrap ((s : Int) / (pw i.toNat : Int))).tmod 2 == 1) = has s i := by
  have h2 : (0 : Int) ≤ (s : Int) / (pw i.toNat : Int) := Int.ediv_nonneg (by omega) (by omega)
  have h3 : (s : Int) / (pw i.toNat : Int) ≤ s := Int.ediv_le_self _ (by omega)
  rw [IntWalk.u64_in _ ⟨h2, by omega⟩, Int.tmod_eq_emod_of_nonneg h2]
  exact div_mod h0 h1
theorem add_eq {s : Nat} {i : Int} (h0 : 0 ≤ i) (h1 : i < 64) (h : has s i = false) : s + pw i.toNat = wth s i := by
  rw [has_in h0 h1] at h
  unfold wth; rw [sgl_in h0 h1]
  unfold pw
  generalize i.toNat = k at h
  have h3 : s / 2 ^ k % 2 = 0 := by
    rw [Nat.testBit_eq_decide_div_mod_eq] at h
    have := of_decide_eq_false h; omega
  have hr : s % 2 ^ k < 2 ^ k := Nat.mod_lt s (Nat.two_pow_pos k)
  have hd : s = 2 ^ k * (s / 2 ^ k) + s % 2 ^ k := (Nat.div_add_mod ..).symm
  have e1 := Nat.two_pow_add_eq_or_of_lt hr (s / 2 ^ k)
  have e2 := Nat.two_pow_add_eq_or_of_lt hr (s / 2 ^ k + 1)
  have e3 : s / 2 ^ k + 1 = s / 2 ^ k ||| 1 := by
    have := Nat.two_pow_add_eq_or_of_lt (i := 1) (show 1 < 2 ^ 1 by decide) (s / 2 ^ k / 2)
    have h4 : 2 ^ 1 * (s / 2 ^ k / 2) = s / 2 ^ k := by omega
    rw [h4] at this; exact this
  have e4 : 2 ^ k * (s / 2 ^ k ||| 1) = 2 ^ k * (s / 2 ^ k) ||| 2 ^ k := by
    apply Nat.eq_of_testBit_eq
    intro j
    rw [Nat.testBit_or, Nat.mul_comm, Nat.testBit_mul_two_pow, Nat.mul_comm, Nat.testBit_mul_two_pow, Nat.testBit_or, Nat.testBit_two_pow]
    by_cases hj : k ≤ j
    · simp only [hj, decide_true, Bool.true_and]
      congr 1
      have := Nat.testBit_two_pow (n := 0) (m := j - k)
      rw [Nat.pow_zero] at this; rw [this, Bool.eq_iff_iff]; simp; omega
    · have : k ≠ j := by omega
      simp [hj, this]
  rw [e3, e4] at e2
  have e5 : s + 2 ^ k = 2 ^ k * (s / 2 ^ k + 1) + s % 2 ^ k := by rw [Nat.mul_add]; omega
  rw [e5, e3, e4, e2, Nat.or_assoc, Nat.or_comm (2 ^ k), ← Nat.or_assoc, ← e1, ← hd]
theorem wot_no {s : Nat} {i : Int} (h : has s i = false) : wot s i = s := by
  apply Nat.eq_of_testBit_eq
  intro j
  rw [testBit_wot]
  by_cases hi : 0 ≤ i ∧ i < 64 ∧ i.toNat = j
  · obtain ⟨h1, h2, rfl⟩ := hi
    rw [has_in h1 h2] at h; rw [h]; rfl
  · simp [hi]
theorem wth_no {s : Nat} {i : Int} (h : ¬ (0 ≤ i ∧ i < 64)) : wth s i = s := by unfold wth; rw [sgl_out h, Nat.or_zero]
theorem wth_yes {s : Nat} {i : Int} (h : has s i = true) : wth s i = s := by
  apply Nat.eq_of_testBit_eq
  intro j
  rw [testBit_wth]
  by_cases hi : 0 ≤ i ∧ i < 64 ∧ i.toNat = j
  · obtain ⟨h1, h2, rfl⟩ := hi
    rw [has_in h1 h2] at h; rw [h]; rfl
  · simp [hi]
theorem has_wot (s : Nat) (i : Int) : has (wot s i) i = false := by
  by_cases hi : 0 ≤ i ∧ i < 64
  · rw [has_in hi.1 hi.2, testBit_wot]; simp [hi.1, hi.2]
  · exact has_out hi
theorem has_wth {s : Nat} {i : Int} (h0 : 0 ≤ i) (h1 : i < 64) : has (wth s i) i = true := by
  rw [has_in h0 h1, testBit_wth]; simp [h0, h1]
theorem wth_wot {s : Nat} {i : Int} (h : has s i = true) : wth (wot s i) i = s := by
  apply Nat.eq_of_testBit_eq
  intro j
  rw [testBit_wth, testBit_wot]
  by_cases hi : 0 ≤ i ∧ i < 64 ∧ i.toNat = j
  · obtain ⟨h1, h2, rfl⟩ := hi
    rw [has_in h1 h2] at h; rw [h]; simp [h1, h2]
  · simp [hi]
theorem sub_eq {s : Nat} {i : Int} (h : has s i = true) : pw i.toNat ≤ s ∧ s - pw i.toNat = wot s i := by
  have hi : 0 ≤ i ∧ i < 64 := by
    by_cases hi : 0 ≤ i ∧ i < 64
    · exact hi
    · rw [has_out hi] at h; cases h
  have e := add_eq (s := wot s i) hi.1 hi.2 (has_wot s i)
  rw [wth_wot h] at e
  omega

/-! Down, below, Range -/
/-- s moved down by n places (a negative n counts as 0). -/
def dwn (s : Nat) (n : Int) : Nat := s / 2 ^ n.toNat
/-- The set of all elements that are less than n. -/
def bel (n : Int) : Nat := 2 ^ (min n 64).toNat - 1
/-- The set of the elements from a to b - 1. -/
def rng (a b : Int) : Nat := bel b &&& (18446744073709551615 - bel a)
theorem bel_lt (n : Int) : bel n < 18446744073709551616 := by
  unfold bel
  have : 2 ^ (min n 64).toNat ≤ 2 ^ 64 := Nat.pow_le_pow_right (by decide) (by omega)
  have := Nat.one_le_two_pow (n := (min n 64).toNat)
  omega
theorem rng_lt (a b : Int) : rng a b < 18446744073709551616 := Nat.lt_of_le_of_lt Nat.and_le_left (bel_lt b)
theorem andNot_bel (a b : Int) : bits .andNot .u64 (bel b : Int) (bel a : Int) = (rng a b : Int) := u64_andNot_nat _ _ (bel_lt b) (bel_lt a)
theorem testBit_bel (n : Int) (j : Nat) : (bel n).testBit j = decide (j < 64 ∧ (j : Int) < n) := by
  unfold bel
  rw [Nat.testBit_two_pow_sub_one, Bool.eq_iff_iff]; simp; omega
theorem testBit_rng (a b : Int) (j : Nat) : (rng a b).testBit j = decide (j < 64 ∧ a ≤ j ∧ (j : Int) < b) := by
  unfold rng
  rw [Nat.testBit_and, testBit_bel, show 18446744073709551615 - bel a = 2 ^ 64 - (bel a + 1) from by omega, Nat.testBit_two_pow_sub_succ (bel_lt a), testBit_bel, Bool.eq_iff_iff]
  simp; omega
theorem bel_eq {n : Int} (h0 : 0 ≤ n) (h1 : n ≤ 64) : IntKind.u64.wrap (IntKind.u64.wrap (2 ^ n.toNat) - 1) = (bel n : Int) := by
  have hb := bel_lt n
  have e : (bel n : Int) = 2 ^ n.toNat - 1 := by
    unfold bel
    rw [show min n 64 = n from by omega]
    have := Nat.one_le_two_pow (n := n.toNat)
    rw [Int.natCast_sub this]; simp
  have hw : ∀ x : Int, IntKind.u64.wrap x = x % 18446744073709551616 := IntKind.wrap_u64
  rw [hw, hw, Int.emod_sub_emod, ← e]
  omega
theorem bel_big {n : Int} (h : 64 < n) : IntKind.u64.wrap (IntKind.u64.wrap 18446744073709551616 - 1) = (bel n : Int) := by
  rw [show bel n = bel 64 from by unfold bel; rw [show min n 64 = 64 from by omega, show min (64 : Int) 64 = 64 from by omega]]
  exact bel_eq (n := 64) (by decide) (by decide)
theorem bel_neg {n : Int} (h : n < 0) : bel n = 0 := by
  unfold bel; rw [show (min n 64).toNat = 0 from by omega]
/-- What the reference's Range holds behind k rounds. -/
def rgk (a b : Int) : Nat → Nat
  | 0 => 0
  | k + 1 => if a ≤ (k : Int) ∧ (k : Int) < b then wth (rgk a b k) k else rgk a b k
theorem testBit_rgk (a b : Int) : ∀ (k : Nat) (_ : k ≤ 64) (j : Nat), (rgk a b k).testBit j = decide (j < k ∧ a ≤ j ∧ (j : Int) < b)
  | 0, _, j => by simp [rgk]
  | k + 1, hk, j => by
    unfold rgk
    split
    · rw [testBit_wth, testBit_rgk a b k (by omega), Bool.eq_iff_iff]
      simp; omega
    · rw [testBit_rgk a b k (by omega), Bool.eq_iff_iff]
      simp; omega
theorem rgk_all (a b : Int) : rgk a b 64 = rng a b := by
  apply Nat.eq_of_testBit_eq
  intro j
  rw [testBit_rgk a b 64 (by omega), testBit_rng]
theorem rgk_lt (a b : Int) : ∀ k, rgk a b k < 18446744073709551616
  | 0 => by unfold rgk; omega
  | k + 1 => by
    unfold rgk
    split
    · exact wth_lt (rgk_lt a b k) _
    · exact rgk_lt a b k
theorem dwn_lt {s : Nat} (h : s < 18446744073709551616) (n : Int) : dwn s n < 18446744073709551616 := Nat.lt_of_le_of_lt (Nat.div_le_self _ _) h
theorem dwn_big {s : Nat} (h : s < 18446744073709551616) {n : Int} (hn : 64 ≤ n) : dwn s n = 0 := by
  unfold dwn
  have h1 : 2 ^ 64 ≤ 2 ^ n.toNat := Nat.pow_le_pow_right (by decide) (by omega)
  exact Nat.div_eq_of_lt (by omega)
theorem dwn_neg {s : Nat} {n : Int} (hn : n ≤ 0) : dwn s n = s := by
  unfold dwn; rw [show n.toNat = 0 from by omega]; simp

/-! the elements in ascending order -/
/-- The elements of s below k. -/
def elk (s : Nat) : Nat → List Int
  | 0 => []
  | k + 1 => if has s k then elk s k ++ [(k : Int)] else elk s k
/-- The elements of s. -/
def els (s : Nat) : List Int := elk s 64
theorem elk_yes {s k : Nat} (h : has s k = true) : elk s (k + 1) = elk s k ++ [(k : Int)] := by rw [elk, if_pos h]
theorem elk_no {s k : Nat} (h : has s k = false) : elk s (k + 1) = elk s k := by rw [elk, h]; rfl
theorem elk_len (s : Nat) : ∀ k, (elk s k).length ≤ k
  | 0 => by simp [elk]
  | k + 1 => by
    have := elk_len s k
    cases h : has s k
    · rw [elk_no h]; omega
    · rw [elk_yes h]; simp; omega
theorem elk_mem (s : Nat) : ∀ (k : Nat) (x : Int), x ∈ elk s k ↔ 0 ≤ x ∧ x < k ∧ has s x = true
  | 0, x => by simp [elk]; omega
  | k + 1, x => by
    have ih := elk_mem s k x
    by_cases hx : x = k
    · subst hx
      cases h : has s k
      · rw [elk_no h, ih, h]; simp
      · rw [elk_yes h]; exact ⟨fun _ => ⟨by omega, by omega, rfl⟩, fun _ => by simp⟩
    · cases h : has s k
      · rw [elk_no h, ih]
        constructor
        · rintro ⟨a, b, c⟩; exact ⟨a, by omega, c⟩
        · rintro ⟨a, b, c⟩; exact ⟨a, by omega, c⟩
      · rw [elk_yes h, List.mem_append, ih]
        constructor
        · rintro (⟨a, b, c⟩ | h2)
          · exact ⟨a, by omega, c⟩
          · exact absurd (by simpa using h2) hx
        · rintro ⟨a, b, c⟩; exact .inl ⟨a, by omega, c⟩

/-! the reference's Down -/
/-- What the reference's Down holds behind the elements zs. -/
def dnl (n : Int) (zs : List Int) : Nat := zs.foldl (fun acc z => if n ≤ z then wth acc (z - n) else acc) 0
theorem dnl_snoc (n : Int) (zs : List Int) (k : Nat) (h : k < zs.length) : dnl n (zs.take (k + 1)) = if n ≤ zs[k] then wth (dnl n (zs.take k)) (zs[k] - n) else dnl n (zs.take k) := by
  rw [List.take_succ_eq_append_getElem h, dnl, List.foldl_append]
  rfl
theorem dnf_lt (n : Int) : ∀ (zs : List Int) (acc : Nat), acc < 18446744073709551616 → zs.foldl (fun acc z => if n ≤ z then wth acc (z - n) else acc) acc < 18446744073709551616
  | [], _, h => h
  | z :: zs, acc, h => dnf_lt n zs _ (by dsimp only; split; exact wth_lt h _; exact h)
theorem dnl_lt (n : Int) (zs : List Int) : dnl n zs < 18446744073709551616 := dnf_lt n zs 0 (by decide)
theorem dnf_testBit (n : Int) (j : Nat) : ∀ (zs : List Int) (acc : Nat), (zs.foldl (fun acc z => if n ≤ z then wth acc (z - n) else acc) acc).testBit j = (acc.testBit j || zs.any fun z => decide (n ≤ z ∧ z - n < 64 ∧ (z - n).toNat = j))
  | [], acc => by simp
  | z :: zs, acc => by
    rw [List.foldl_cons, dnf_testBit n j zs]
    split
    · rename_i h
      rw [testBit_wth, List.any_cons, Bool.or_assoc]
      congr 2
      rw [Bool.eq_iff_iff]; simp [h]
    · rename_i h
      rw [List.any_cons, decide_eq_false (fun e => h e.1), Bool.false_or]
theorem dnl_els {s : Nat} (hs : s < 18446744073709551616) (n : Int) (hn : 0 ≤ n) : dnl n (els s) = dwn s n := by
  apply Nat.eq_of_testBit_eq
  intro j
  unfold dnl dwn
  rw [dnf_testBit, Nat.zero_testBit, Bool.false_or, Nat.testBit_div_two_pow, Bool.eq_iff_iff, List.any_eq_true]
  constructor
  · rintro ⟨z, hz, hd⟩
    obtain ⟨h1, h2, h3⟩ := of_decide_eq_true hd
    obtain ⟨h4, h5, h6⟩ := (elk_mem s 64 z).1 hz
    rw [has_in h4 (by omega)] at h6
    rw [show j + n.toNat = z.toNat from by omega]
    exact h6
  · intro h
    have hlt : j + n.toNat < 64 := by
      apply Nat.lt_of_not_le
      intro hle
      have h2 : s < 2 ^ (j + n.toNat) := Nat.lt_of_lt_of_le hs (show 2 ^ 64 ≤ 2 ^ (j + n.toNat) from Nat.pow_le_pow_right (by decide) hle)
      rw [Nat.testBit_lt_two_pow h2] at h; cases h
    refine ⟨((j + n.toNat : Nat) : Int), (elk_mem s 64 _).2 ⟨by omega, by omega, ?_⟩, decide_eq_true ⟨by omega, by omega, by omega⟩⟩
    rw [has_in (by omega) (by omega), Int.toNat_natCast]; exact h
theorem els_range {s k : Nat} (h : k < (els s).length) : 0 ≤ (els s)[k] ∧ (els s)[k] < 64 := by
  have := (elk_mem s 64 _).1 (List.getElem_mem h); omega
end Go.Bs
