/-
  OF NO PROGRAM: scoreboards: a start, a size and a set of integers; Check, Move, Note, Has.
-/
import Derived.Test.YtjighkagmnoncaaSqMath
import Derived.Test.YtjighkagmnoncaaBsMath
namespace Go.Sc
open Go.Sq Go.Bs

/-- A scoreboard. -/
structure Sc where
  st : Int
  sz : Int
  mp : Int
def zs : Sc := ⟨0, 0, 0⟩
/-- What Check answers. -/
def ck (st sz : Int) (m : Nat) : Int := if vl st = true ∧ 1 ≤ sz ∧ sz ≤ 64 then (if dwn m sz = 0 then 0 else 3) else 4
/-- The scoreboard is valid. -/
structure Gd (st sz : Int) (m : Nat) : Prop where
  vl : vl st = true
  lo : 1 ≤ sz
  hi : sz ≤ 64
  map : dwn m sz = 0
theorem ck_out {st sz : Int} {m : Nat} (h : ¬ (vl st = true ∧ 1 ≤ sz ∧ sz ≤ 64)) : ck st sz m = 4 := if_neg h
theorem ck_in {st sz : Int} {m : Nat} (h1 : vl st = true) (h2 : 1 ≤ sz) (h3 : sz ≤ 64) : ck st sz m = if dwn m sz = 0 then 0 else 3 := if_pos ⟨h1, h2, h3⟩
theorem ck_gd {st sz : Int} {m : Nat} : ck st sz m = 0 ↔ Gd st sz m := by
  unfold ck
  constructor
  · intro h
    split at h
    · rename_i h1
      split at h
      · rename_i h2; exact ⟨h1.1, h1.2.1, h1.2.2, h2⟩
      · omega
    · omega
  · intro h
    rw [if_pos ⟨h.vl, h.lo, h.hi⟩, if_pos h.map]

/-- The start and the map behind Move. -/
def mS (st s : Int) : Int := if inn st 2048 s = true then s else st
def mM (st : Int) (m : Nat) (s : Int) : Nat := if inn st 2048 s = true then dwn m (dist st s) else m
/-- The start and the map behind Note. -/
def nS (st sz n : Int) : Int := if inn st 2048 n = true then (if inn st sz n = true then st else mS st (add n (1 - sz))) else st
def nM (st sz : Int) (m : Nat) (n : Int) : Nat :=
  if inn st 2048 n = true then (if inn st sz n = true then wth m (dist st n) else wth (mM st m (add n (1 - sz))) (dist (mS st (add n (1 - sz))) n)) else m
/-- Has. -/
def hs (st sz : Int) (m : Nat) (n : Int) : Bool := inn st sz n && has m (dist st n)

theorem mM_lt {st s : Int} {m : Nat} (h : m < 18446744073709551616) : mM st m s < 18446744073709551616 := by
  unfold mM; split
  · exact dwn_lt h _
  · exact h
theorem nM_lt {st sz n : Int} {m : Nat} (h : m < 18446744073709551616) : nM st sz m n < 18446744073709551616 := by
  unfold nM; split
  · split
    · exact wth_lt h _
    · exact wth_lt (mM_lt h) _
  · exact h

theorem inn_iff {a s n : Int} : inn a s n = true ↔ (0 ≤ n ∧ n < 4096) ∧ dist a n < s := by
  unfold inn vl; rw [Bool.and_eq_true, decide_eq_true_iff, decide_eq_true_iff]
theorem dist_in (a b : Int) : 0 ≤ dist a b ∧ dist a b < 4096 := md_in _
theorem vl_iff {n : Int} : vl n = true ↔ 0 ≤ n ∧ n < 4096 := decide_eq_true_iff
theorem vl_add (a b : Int) : vl (add a b) = true := vl_iff.2 (md_in _)

/-- The bits of a map shifted down. -/
theorem testBit_dwn (m : Nat) (d : Int) (j : Nat) : (dwn m d).testBit j = m.testBit (j + d.toNat) := by
  unfold dwn; rw [Nat.testBit_div_two_pow]
theorem dwn_zero_bit {m : Nat} {sz : Int} (h : dwn m sz = 0) {j : Nat} (hj : sz.toNat ≤ j) : m.testBit j = false := by
  have e := testBit_dwn m sz (j - sz.toNat)
  rw [h, Nat.zero_testBit, Nat.sub_add_cancel hj] at e
  exact e.symm
theorem dwn_zero_of {m : Nat} {sz : Int} (h : ∀ j, sz.toNat ≤ j → m.testBit j = false) : dwn m sz = 0 := by
  refine Nat.eq_of_testBit_eq fun j => ?_
  rw [testBit_dwn, Nat.zero_testBit]; exact h _ (Nat.le_add_left _ _)
theorem Gd.bit {st sz : Int} {m : Nat} (h : Gd st sz m) {j : Nat} (hj : sz ≤ j) : m.testBit j = false := dwn_zero_bit h.map (by have := h.lo; omega)

/-- What the reference's moving loop has gathered behind k rounds. -/
def mvk (m : Nat) (d : Int) : Nat → Nat
  | 0 => 0
  | k + 1 => if (dwn m d).testBit k = true then wth (mvk m d k) k else mvk m d k
theorem mvk_lt (m : Nat) (d : Int) : ∀ k, mvk m d k < 18446744073709551616
  | 0 => by show (0 : Nat) < 18446744073709551616; decide
  | k + 1 => by
    unfold mvk; split
    · exact wth_lt (mvk_lt m d k) _
    · exact mvk_lt m d k
theorem testBit_mvk (m : Nat) (d : Int) (j : Nat) : ∀ k, k ≤ 64 → (mvk m d k).testBit j = (decide (j < k) && (dwn m d).testBit j)
  | 0, _ => by rw [mvk, Nat.zero_testBit]; simp
  | k + 1, hk => by
    have ih := testBit_mvk m d j k (by omega)
    rw [mvk]
    by_cases h : (dwn m d).testBit k = true
    · rw [if_pos h, testBit_wth, ih]
      by_cases e : j = k
      · subst e
        rw [h]; simp; omega
      · by_cases e1 : j < k
        · rw [decide_eq_true e1, decide_eq_true (show j < k + 1 by omega), decide_eq_false (show ¬ (0 ≤ (k : Int) ∧ (k : Int) < 64 ∧ (k : Int).toNat = j) by omega), Bool.or_false]
        · rw [decide_eq_false e1, decide_eq_false (show ¬ j < k + 1 by omega), decide_eq_false (show ¬ (0 ≤ (k : Int) ∧ (k : Int) < 64 ∧ (k : Int).toNat = j) by omega)]; rfl
    · rw [if_neg h, ih]
      by_cases e : j = k
      · subst e
        rw [Bool.not_eq_true] at h
        rw [h, Bool.and_false, Bool.and_false]
      · by_cases e1 : j < k
        · rw [decide_eq_true e1, decide_eq_true (show j < k + 1 by omega)]
        · rw [decide_eq_false e1, decide_eq_false (show ¬ j < k + 1 by omega)]
theorem mvk_all {st sz : Int} {m : Nat} (h : Gd st sz m) (d : Int) : mvk m d sz.toNat = dwn m d := by
  refine Nat.eq_of_testBit_eq fun j => ?_
  rw [testBit_mvk _ _ _ _ (by have := h.hi; omega)]
  by_cases e : j < sz.toNat
  · rw [decide_eq_true e, Bool.true_and]
  · rw [decide_eq_false e, Bool.false_and, testBit_dwn, h.bit (by omega)]

/-- A number behind a start at distance d, seen from the old start. -/
theorem dist_add {st s : Int} (i : Int) (h0 : 0 ≤ i) (h1 : dist st s + i < 4096) : dist st (add s i) = dist st s + i := by
  unfold dist add md at *; omega
theorem hs_add {st sz s : Int} {m : Nat} (g : Gd st sz m) (i : Nat) (hi : i < 64) (hd : dist st s < 2048) : hs st sz m (add s i) = (dwn m (dist st s)).testBit i := by
  have h0 := dist_in st s
  have e : dist st (add s i) = dist st s + i := dist_add _ (by omega) (by omega)
  have := g.hi
  unfold hs inn
  rw [vl_add, Bool.true_and, e, testBit_dwn]
  by_cases h : dist st s + (i : Int) < sz
  · rw [decide_eq_true h, Bool.true_and, has_in (by omega) (by omega)]
    congr 1; omega
  · rw [decide_eq_false h, Bool.false_and, g.bit (by omega)]
theorem hs_at {st sz : Int} {m : Nat} (g : Gd st sz m) (k : Nat) (hk : (k : Int) < sz) : hs st sz m (add st k) = m.testBit k := by
  have := g.hi
  have hv := vl_iff.1 g.vl
  have e := hs_add (s := st) g k (by omega) (by unfold dist md; omega)
  rw [e, testBit_dwn]
  congr 1; unfold dist md; omega

/-- Move of valid scoreboards. -/
theorem mS_no {st s : Int} (h : inn st 2048 s = false) : mS st s = st := by unfold mS; rw [h]; rfl
theorem mM_no {st s : Int} {m : Nat} (h : inn st 2048 s = false) : mM st m s = m := by unfold mM; rw [h]; rfl
theorem mS_yes {st s : Int} (h : inn st 2048 s = true) : mS st s = s := if_pos h
theorem mM_yes {st s : Int} {m : Nat} (h : inn st 2048 s = true) : mM st m s = dwn m (dist st s) := if_pos h
theorem Gd.move {st sz : Int} {m : Nat} (g : Gd st sz m) (s : Int) : Gd (mS st s) sz (mM st m s) := by
  cases h : inn st 2048 s
  · rw [mS_no h, mM_no h]; exact g
  · rw [mS_yes h, mM_yes h]
    obtain ⟨h1, h2⟩ := inn_iff.1 h
    refine ⟨vl_iff.2 h1, g.lo, g.hi, dwn_zero_of fun j hj => ?_⟩
    rw [testBit_dwn]; exact g.bit (by have := g.lo; omega)
/-- A number beyond the window: where the window moves. -/
theorem out_facts {st sz n : Int} (hl : 1 ≤ sz) (hh : sz ≤ 64) (h1 : inn st 2048 n = true) (h2 : inn st sz n = false) : vl (add n (1 - sz)) = true ∧ dist st (add n (1 - sz)) = dist st n + 1 - sz ∧ inn st 2048 (add n (1 - sz)) = true ∧ dist (add n (1 - sz)) n = sz - 1 ∧ inn (add n (1 - sz)) sz n = true ∧ sz ≤ dist st n ∧ dist st n < 2048 := by
  obtain ⟨hv, hd⟩ := inn_iff.1 h1
  have hs : sz ≤ dist st n := by
    have := mt inn_iff.2 (by rw [h2]; decide)
    omega
  have e1 : dist st (add n (1 - sz)) = dist st n + 1 - sz := by unfold dist add md at *; omega
  have e2 : dist (add n (1 - sz)) n = sz - 1 := by unfold dist add md at *; omega
  exact ⟨vl_add _ _, e1, inn_iff.2 ⟨md_in _, by omega⟩, e2, inn_iff.2 ⟨hv, by omega⟩, hs, hd⟩
theorem nS_no {st sz n : Int} (h : inn st 2048 n = false) : nS st sz n = st := by unfold nS; rw [h]; rfl
theorem nM_no {st sz n : Int} {m : Nat} (h : inn st 2048 n = false) : nM st sz m n = m := by unfold nM; rw [h]; rfl
theorem nS_in {st sz n : Int} (h : inn st 2048 n = true) (h2 : inn st sz n = true) : nS st sz n = st := by unfold nS; rw [if_pos h, if_pos h2]
theorem nM_in {st sz n : Int} {m : Nat} (h : inn st 2048 n = true) (h2 : inn st sz n = true) : nM st sz m n = wth m (dist st n) := by unfold nM; rw [if_pos h, if_pos h2]
theorem nS_out {st sz n : Int} (h : inn st 2048 n = true) (h2 : inn st sz n = false) : nS st sz n = mS st (add n (1 - sz)) := by unfold nS; rw [if_pos h, h2]; rfl
theorem nM_out {st sz n : Int} {m : Nat} (h : inn st 2048 n = true) (h2 : inn st sz n = false) : nM st sz m n = wth (mM st m (add n (1 - sz))) (dist (mS st (add n (1 - sz))) n) := by unfold nM; rw [if_pos h, h2]; rfl
theorem Gd.with {st sz : Int} {m : Nat} (g : Gd st sz m) {d : Int} (hd : d < sz) : Gd st sz (wth m d) := by
  refine ⟨g.vl, g.lo, g.hi, dwn_zero_of fun j hj => ?_⟩
  rw [testBit_wth, g.bit (by have := g.lo; omega), decide_eq_false (by have := g.lo; omega)]; rfl
theorem Gd.note {st sz : Int} {m : Nat} (g : Gd st sz m) (n : Int) : Gd (nS st sz n) sz (nM st sz m n) := by
  cases h : inn st 2048 n
  · rw [nS_no h, nM_no h]; exact g
  · cases h2 : inn st sz n
    · rw [nS_out h h2, nM_out h h2]
      obtain ⟨h3, h4, h5, h6, h7, -⟩ := out_facts g.lo g.hi h h2
      refine (g.move _).with ?_
      rw [mS_yes h5, h6]; omega
    · rw [nS_in h h2, nM_in h h2]; exact g.with (inn_iff.1 h2).2

/-- What is left of the noted numbers: those before the window are taken out. -/
def cl (st sz : Int) (f : Int → Bool) (k : Int) : Bool := if inn st sz k = false ∧ 2048 ≤ dist st k then false else f k
/-- A number of the new window, seen from the old one. -/
theorem hs_move {st sz s : Int} {m : Nat} (g : Gd st sz m) (h : inn st 2048 s = true) (k : Int) (h0 : 0 ≤ k) (h1 : k < 4096) : cl s sz (hs st sz m) k = hs s sz (dwn m (dist st s)) k := by
  obtain ⟨hv, hd⟩ := inn_iff.1 h
  have d0 := dist_in st s
  have e0 := dist_in s k
  have hh := g.hi
  have hl := g.lo
  have vk : vl k = true := vl_iff.2 ⟨h0, h1⟩
  unfold cl
  by_cases hw : dist s k < sz
  · have hi : inn s sz k = true := inn_iff.2 ⟨⟨h0, h1⟩, hw⟩
    rw [if_neg (by rw [hi]; simp)]
    have ek : k = add s ((dist s k).toNat : Int) := by unfold add dist md at *; omega
    have e := hs_add (s := s) g (dist s k).toNat (by omega) hd
    rw [← ek] at e
    rw [e]
    unfold hs
    rw [hi, Bool.true_and, has_in e0.1 (by omega)]
  · have hi : inn s sz k = false := Bool.eq_false_iff.2 fun hh => hw (inn_iff.1 hh).2
    have hr : hs s sz (dwn m (dist st s)) k = false := by unfold hs; rw [hi, Bool.false_and]
    rw [hr]
    by_cases hc : 2048 ≤ dist s k
    · rw [if_pos ⟨hi, hc⟩]
    · rw [if_neg (fun hh => hc hh.2)]
      have hj : inn st sz k = false := Bool.eq_false_iff.2 fun hq => by
        have := (inn_iff.1 hq).2
        unfold dist md at *; omega
      unfold hs; rw [hj, Bool.false_and]
/-- Behind Move. -/
theorem noted_move {st sz : Int} {m : Nat} (g : Gd st sz m) (s k : Int) (h0 : 0 ≤ k) (h1 : k < 4096) : cl (mS st s) sz (hs st sz m) k = hs (mS st s) sz (mM st m s) k := by
  cases h : inn st 2048 s
  · rw [mS_no h, mM_no h]
    unfold cl
    split
    · rename_i hh; unfold hs; rw [hh.1, Bool.false_and]
    · rfl
  · rw [mS_yes h, mM_yes h]; exact hs_move g h k h0 h1
/-- A number added in the window. -/
theorem hs_with {st sz : Int} {m : Nat} {n : Int} (hn : inn st sz n = true) (hh : sz ≤ 64) (k : Int) (h0 : 0 ≤ k) (h1 : k < 4096) : hs st sz (wth m (dist st n)) k = (decide (k = n) || hs st sz m k) := by
  obtain ⟨hv, hd⟩ := inn_iff.1 hn
  have d0 := dist_in st n
  have e0 := dist_in st k
  unfold hs
  cases hk : inn st sz k
  · rw [Bool.false_and, Bool.false_and, Bool.or_false]
    refine (decide_eq_false fun e => ?_).symm
    subst e; rw [hn] at hk; cases hk
  · obtain ⟨-, hd2⟩ := inn_iff.1 hk
    rw [Bool.true_and, Bool.true_and, has_in e0.1 (by omega), has_in e0.1 (by omega), testBit_wth, Bool.or_comm]
    congr 1
    refine decide_eq_decide.2 ⟨fun h => ?_, fun h => ?_⟩
    · unfold dist md at *; omega
    · subst h; omega
/-- Behind Note. -/
theorem noted_note {st sz : Int} {m : Nat} (g : Gd st sz m) (n k : Int) (h : inn st 2048 n = true) (h0 : 0 ≤ k) (h1 : k < 4096) : cl (nS st sz n) sz (fun k => decide (k = n) || hs st sz m k) k = hs (nS st sz n) sz (nM st sz m n) k := by
  cases h2 : inn st sz n
  · rw [nS_out h h2, nM_out h h2]
    obtain ⟨h3, h4, h5, h6, h7, -⟩ := out_facts g.lo g.hi h h2
    rw [mS_yes h5, mM_yes h5]
    rw [hs_with h7 g.hi k h0 h1, ← hs_move g h5 k h0 h1]
    unfold cl
    by_cases hc : inn (add n (1 - sz)) sz k = false ∧ 2048 ≤ dist (add n (1 - sz)) k
    · rw [if_pos hc, if_pos hc, Bool.or_false]
      refine (decide_eq_false fun e => ?_).symm
      subst e; rw [h7] at hc; cases hc.1
    · rw [if_neg hc, if_neg hc]
  · rw [nS_in h h2, nM_in h h2, hs_with h2 g.hi k h0 h1]
    unfold cl
    split
    · rename_i hh
      unfold hs
      rw [hh.1, Bool.false_and, Bool.or_false]
      refine (decide_eq_false fun e => ?_).symm
      subst e; rw [h2] at hh; cases hh.1
    · rfl
theorem noted_same {st sz : Int} {m : Nat} (k : Int) : cl st sz (hs st sz m) k = hs st sz m k := by
  unfold cl; split
  · rename_i hh; unfold hs; rw [hh.1, Bool.false_and]
  · rfl
/-- What is noted is recorded, unless it is before the window. -/
theorem note_has {st sz : Int} {m : Nat} (g : Gd st sz m) (n : Int) (hv : vl n = true) : hs (nS st sz n) sz (nM st sz m n) n = decide (dist st n < 2048) := by
  obtain ⟨h0, h1⟩ := vl_iff.1 hv
  by_cases hd : dist st n < 2048
  · have h : inn st 2048 n = true := inn_iff.2 ⟨⟨h0, h1⟩, hd⟩
    rw [decide_eq_true hd, ← noted_note g n n h h0 h1]
    unfold cl
    rw [if_neg]
    · show (decide (n = n) || _) = true
      rw [decide_eq_true rfl, Bool.true_or]
    rintro ⟨ha, hb⟩
    cases h2 : inn st sz n
    · obtain ⟨h3, h4, h5, h6, h7, -⟩ := out_facts g.lo g.hi h h2
      rw [nS_out h h2, mS_yes h5] at ha
      rw [h7] at ha; cases ha
    · rw [nS_in h h2] at ha
      rw [h2] at ha; cases ha
  · rw [decide_eq_false hd]
    have h : inn st 2048 n = false := Bool.eq_false_iff.2 fun hh => hd (inn_iff.1 hh).2
    rw [nS_no h, nM_no h]
    unfold hs
    have : inn st sz n = false := Bool.eq_false_iff.2 fun hh => by
      have := (inn_iff.1 hh).2
      have := g.hi
      omega
    rw [this, Bool.false_and]
/-- Moving records nothing new. -/
theorem move_has {st sz : Int} {m : Nat} (g : Gd st sz m) (s n : Int) (hv : vl n = true) (h : hs (mS st s) sz (mM st m s) n = true) : hs st sz m n = true := by
  obtain ⟨h0, h1⟩ := vl_iff.1 hv
  rw [← noted_move g s n h0 h1] at h
  unfold cl at h
  split at h
  · cases h
  · exact h
end Go.Sc
