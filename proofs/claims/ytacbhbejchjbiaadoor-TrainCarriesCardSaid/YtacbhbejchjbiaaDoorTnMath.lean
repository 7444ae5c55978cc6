/-
  OF NO PROGRAM: aggregates of frames: delimiters, lengths, the octets of an aggregate, what is found in octets, and that the one is the other back.
-/
import Derived.Test.YtacbhbejchjbiaaDoorCkMath
namespace Go.Tn
open Go.Wr Go.Ck

/-- A frame that was found: its position and its octets. -/
structure Cr where
  p : Int
  s : ByteArray

/-! ### Positions and lengths -/
def up (n : Nat) : Nat := (n + 3) / 4 * 4
theorem up_ge (n : Nat) : n ≤ up n := by unfold up; omega
theorem up_lt (n : Nat) : up n < n + 4 := by unfold up; omega
theorem up_mod (n : Nat) : up n % 4 = 0 := by unfold up; omega
theorem up_of {n : Nat} (h : n % 4 = 0) : up n = n := by unfold up; omega
theorem up_mono {a b : Nat} (h : a ≤ b) : up a ≤ up b := by unfold up; omega
def ln : Nat → List Nat → Nat
  | o, [] => o
  | o, n :: l => ln (up o + 4 + n) l
theorem ln_append (a b : List Nat) : ∀ o, ln o (a ++ b) = ln (ln o a) b := by
  induction a with
  | nil => intro o; rfl
  | cons n a ih => intro o; exact ih _
theorem ln_ge (l : List Nat) : ∀ o, o ≤ ln o l := by
  induction l with
  | nil => intro o; exact Nat.le_refl _
  | cons n l ih => intro o; have := ih (up o + 4 + n); have := up_ge o; rw [ln]; omega
theorem ln_le (l : List Nat) (h : ∀ n ∈ l, n ≤ 2300) : ∀ o, ln o l ≤ o + 2307 * l.length := by
  induction l with
  | nil => intro o; exact Nat.le_refl _
  | cons n l ih =>
    intro o
    have h1 := ih (fun m hm => h m (List.mem_cons_of_mem _ hm)) (up o + 4 + n)
    have h2 := h n List.mem_cons_self
    have h3 := up_lt o
    rw [ln, List.length_cons]; omega
theorem ln_take {l : List Nat} {k : Nat} (h : k < l.length) : ln 0 (l.take (k + 1)) = up (ln 0 (l.take k)) + 4 + l[k] := by
  rw [List.take_succ_eq_append_getElem h, ln_append]; rfl

/-! ### The numbers of frames, measured -/
def pos (n : Int) : Bool := decide (1 ≤ n ∧ n ≤ 2300)
theorem pos_iff {n : Int} : pos n = true ↔ 1 ≤ n ∧ n ≤ 2300 := by unfold pos; exact decide_eq_true_iff
def mL (l : List Int) : Nat := ln 0 (l.map Int.toNat)
def mE (l : List Int) : Int := if l.length = 0 then 7 else if 64 < l.length then 6 else if l.all pos = true then (if 8192 < mL l then 2 else 0) else 4
def msO (l : List Int) : Int := if mE l = 0 then (mL l : Int) else 0
def lnI (l : List Int) : Int := if mE l = 0 then (mL l : Int) else -1
theorem mE_none {l : List Int} (h : l.length = 0) : mE l = 7 := if_pos h
theorem mE_full {l : List Int} (h : 64 < l.length) : mE l = 6 := by unfold mE; rw [if_neg (by omega), if_pos h]
theorem mE_bad {l : List Int} (h0 : ¬ l.length = 0) (h6 : ¬ 64 < l.length) {k : Nat} (hk : k < l.length) (h : pos l[k] = false) : mE l = 4 := by
  unfold mE
  rw [if_neg h0, if_neg h6, if_neg]
  intro ha
  have := List.all_eq_true.1 ha l[k] (List.getElem_mem hk)
  rw [h] at this; cases this
theorem all_pos {l : List Int} (h : ∀ j (hj : j < l.length), pos l[j] = true) : l.all pos = true := by
  rw [List.all_eq_true]
  intro p hp
  obtain ⟨j, hj, rfl⟩ := List.getElem_of_mem hp
  exact h j hj
theorem mE_long {l : List Int} (h0 : ¬ l.length = 0) (h6 : ¬ 64 < l.length) (h : ∀ j (hj : j < l.length), pos l[j] = true) (hl : 8192 < mL l) : mE l = 2 := by
  unfold mE; rw [if_neg h0, if_neg h6, if_pos (all_pos h), if_pos hl]
theorem mE_ok {l : List Int} (h0 : ¬ l.length = 0) (h6 : ¬ 64 < l.length) (h : ∀ j (hj : j < l.length), pos l[j] = true) (hl : ¬ 8192 < mL l) : mE l = 0 := by
  unfold mE; rw [if_neg h0, if_neg h6, if_pos (all_pos h), if_neg hl]
theorem mE_zero {l : List Int} : mE l = 0 ↔ ¬ l.length = 0 ∧ l.length ≤ 64 ∧ l.all pos = true ∧ mL l ≤ 8192 := by
  constructor
  · intro h
    by_cases h0 : l.length = 0
    · rw [mE_none h0] at h; cases h
    by_cases h6 : 64 < l.length
    · rw [mE_full h6] at h; cases h
    unfold mE at h
    rw [if_neg h0, if_neg h6] at h
    by_cases ha : l.all pos = true
    · rw [if_pos ha] at h
      by_cases hl : 8192 < mL l
      · rw [if_pos hl] at h; cases h
      · exact ⟨h0, by omega, ha, by omega⟩
    · rw [if_neg ha] at h; cases h
  · rintro ⟨h0, h6, ha, hl⟩
    unfold mE
    rw [if_neg h0, if_neg (by omega), if_pos ha, if_neg (by omega)]
theorem mE_ne {l : List Int} : mE l = 0 ∨ mE l = 7 ∨ mE l = 6 ∨ mE l = 4 ∨ mE l = 2 := by
  unfold mE
  split
  · simp
  · split
    · simp
    · split
      · split <;> simp
      · simp
theorem mL_take {l : List Int} {k : Nat} (hk : k < l.length) (h : pos l[k] = true) : (mL (l.take (k + 1)) : Int) = up (mL (l.take k)) + 4 + l[k] := by
  have hp := pos_iff.1 h
  unfold mL
  have := ln_take (l := l.map Int.toNat) (k := k) (by simpa using hk)
  rw [← List.map_take, ← List.map_take] at this
  rw [this]
  simp
  omega
theorem mL_le {l : List Int} {k : Nat} (h : ∀ j (hj : j < l.length), j < k → pos l[j] = true) (hl : l.length ≤ 64) : mL (l.take k) ≤ 147648 := by
  have := ln_le ((l.take k).map Int.toNat) (fun n hn => by
    obtain ⟨m, hm, rfl⟩ := List.mem_map.1 hn
    obtain ⟨j, hj, rfl⟩ := List.getElem_of_mem hm
    rw [List.length_take] at hj
    have := pos_iff.1 (h j (by omega) (by omega))
    rw [List.getElem_take]
    omega) 0
  rw [List.length_map, List.length_take] at this
  unfold mL
  omega

/-! ### How many fit -/
def okB (l : List Int) (o : Int) (k : Nat) : Bool := decide (0 ≤ lnI (l.take k) ∧ lnI (l.take k) ≤ o)
theorem okB_iff {l : List Int} {o : Int} {k : Nat} : okB l o k = true ↔ 0 ≤ lnI (l.take k) ∧ lnI (l.take k) ≤ o := by unfold okB; exact decide_eq_true_iff
theorem lnI_nonneg {l : List Int} : 0 ≤ lnI l ↔ mE l = 0 := by
  unfold lnI
  split
  · rename_i h; simp [h]
  · rename_i h; simp [h]
theorem okB_mono {l : List Int} {o : Int} {j k : Nat} (h1 : 1 ≤ j) (hjk : j ≤ k) (h : okB l o k = true) : okB l o j = true := by
  rw [okB_iff] at *
  obtain ⟨h0, ho⟩ := h
  have he := lnI_nonneg.1 h0
  obtain ⟨a0, a6, aa, al⟩ := mE_zero.1 he
  have hsub : l.take j = (l.take k).take j := by rw [List.take_take, Nat.min_eq_left hjk]
  have hle : mL (l.take j) ≤ mL (l.take k) := by
    unfold mL
    have e : (l.take k).map Int.toNat = ((l.take j).map Int.toNat) ++ (((l.take k).drop j).map Int.toNat) := by
      rw [← List.map_append, hsub, List.take_append_drop]
    rw [e, ln_append]
    exact ln_ge _ _
  have hj : mE (l.take j) = 0 := by
    refine mE_zero.2 ⟨?_, ?_, ?_, by omega⟩
    · rw [List.length_take] at *; omega
    · rw [List.length_take] at *; omega
    · rw [List.all_eq_true] at *
      intro x hx
      rw [hsub] at hx
      exact aa x (List.mem_of_mem_take hx)
  refine ⟨lnI_nonneg.2 hj, ?_⟩
  unfold lnI at *
  rw [if_pos he] at ho
  rw [if_pos hj]
  omega
def bst (l : List Int) (o : Int) : Nat → Nat
  | 0 => 0
  | k + 1 => if okB l o (k + 1) = true then k + 1 else bst l o k
def fl (l : List Int) (o : Int) : Nat := bst l o (min l.length 64)
theorem bst_le (l : List Int) (o : Int) : ∀ k, bst l o k ≤ k := by
  intro k
  induction k with
  | zero => exact Nat.le_refl _
  | succ k ih => rw [bst]; split <;> omega
theorem bst_skip {l : List Int} {o : Int} {k : Nat} : ∀ m, k ≤ m → (∀ j, k < j → j ≤ m → okB l o j = false) → bst l o m = bst l o k := by
  intro m
  induction m with
  | zero => intro h _; rw [show k = 0 by omega]
  | succ m ih =>
    intro h hj
    by_cases e : k = m + 1
    · rw [e]
    · rw [bst, if_neg (by rw [hj (m + 1) (by omega) (Nat.le_refl _)]; decide)]
      exact ih (by omega) (fun j h1 h2 => hj j h1 (by omega))
/-- What stops at the first beginning that does not fit. -/
theorem fl_eq {l : List Int} {o : Int} {k : Nat} (hk : k ≤ l.length) (h : ∀ j, 1 ≤ j → j ≤ k → okB l o j = true) (he : k = l.length ∨ okB l o (k + 1) = false) : fl l o = k := by
  have h6 : k ≤ 64 := by
    by_cases h0 : k = 0
    · omega
    · have := mE_zero.1 (lnI_nonneg.1 (okB_iff.1 (h k (by omega) (Nat.le_refl _))).1)
      rw [List.length_take] at this
      omega
  unfold fl
  rw [bst_skip (k := k) _ (by omega) (fun j h1 h2 => ?_)]
  · cases k with
    | zero => rfl
    | succ k => rw [bst, if_pos (h _ (by omega) (Nat.le_refl _))]
  · rcases he with he | he
    · omega
    · refine Bool.eq_false_iff.2 fun hj => ?_
      rw [okB_mono (by omega) (by omega) hj] at he
      cases he
theorem fl_le (l : List Int) (o : Int) : fl l o ≤ l.length := Nat.le_trans (bst_le _ _ _) (Nat.min_le_left _ _)

/-! ### Octets -/
def del (n : Nat) : List UInt8 := le n 2 ++ [UInt8.ofNat (crc8 (le n 2)), 78]
theorem del_len (n : Nat) : (del n).length = 4 := by unfold del; rw [List.length_append, le_len]; rfl
def zs (n : Nat) : List UInt8 := List.replicate n 0
theorem zs_len (n : Nat) : (zs n).length = n := List.length_replicate
def ag : Nat → List (List UInt8) → List UInt8
  | _, [] => []
  | o, x :: L => zs (up o - o) ++ (del x.length ++ (x ++ ag (up o + 4 + x.length) L))
theorem ag_len (L : List (List UInt8)) : ∀ o, (ag o L).length + o = ln o (L.map List.length) := by
  induction L with
  | nil => intro o; simp [ag, ln]
  | cons x L ih =>
    intro o
    have h := ih (up o + 4 + x.length)
    have := up_ge o
    rw [ag, List.length_append, List.length_append, List.length_append, zs_len, del_len, List.map_cons, ln]
    omega
theorem ag_snoc (L : List (List UInt8)) (x : List UInt8) : ∀ o, ag o (L ++ [x]) = ag o L ++ (zs (up (ln o (L.map List.length)) - ln o (L.map List.length)) ++ (del x.length ++ x)) := by
  induction L with
  | nil => intro o; simp [ag, ln]
  | cons y L ih =>
    intro o
    rw [List.cons_append, ag, ag, ih, List.map_cons, ln]
    simp only [List.append_assoc]
/-- The frames' octets. -/
def fs (l : List ByteArray) : List (List UInt8) := l.map fun s => s.data.toList
def sz (l : List ByteArray) : List Int := l.map fun s => (s.size : Int)
theorem sz_len (l : List ByteArray) : (sz l).length = l.length := List.length_map ..
theorem fs_len (l : List ByteArray) : (fs l).length = l.length := List.length_map ..
theorem mL_sz (l : List ByteArray) : mL (sz l) = ln 0 ((fs l).map List.length) := by
  unfold mL sz fs
  rw [List.map_map, List.map_map]
  congr 1
theorem sz_take (l : List ByteArray) (k : Nat) : sz (l.take k) = (sz l).take k := List.map_take ..
theorem ag_take {l : List ByteArray} {k : Nat} (h : k < l.length) :
    ag 0 (fs (l.take (k + 1))) = ag 0 (fs (l.take k)) ++ (zs (up (mL (sz (l.take k))) - mL (sz (l.take k))) ++ (del l[k].size ++ l[k].data.toList)) := by
  rw [List.take_succ_eq_append_getElem h]
  unfold fs
  rw [List.map_append, List.map_cons, List.map_nil, ag_snoc, mL_sz]
  rfl
theorem ag_size (l : List ByteArray) : (ag 0 (fs l)).length = mL (sz l) := by
  have := ag_len (fs l) 0
  rw [mL_sz]; omega
def eE (l : List ByteArray) : Int := mE (sz l)
def eS (l : List ByteArray) : ByteArray := if eE l = 0 then ⟨(ag 0 (fs l)).toArray⟩ else ⟨#[]⟩
theorem eS_ok {l : List ByteArray} (h : eE l = 0) : eS l = ⟨(ag 0 (fs l)).toArray⟩ := if_pos h
theorem eS_bad {l : List ByteArray} (h : ¬ eE l = 0) : eS l = ⟨#[]⟩ := if_neg h
theorem eS_size {l : List ByteArray} (h : eE l = 0) : (eS l).size = mL (sz l) := by
  rw [eS_ok h, ← ag_size]; simp [ByteArray.size]
theorem eS_le (l : List ByteArray) : (eS l).size ≤ 8192 := by
  by_cases h : eE l = 0
  · rw [eS_size h]; exact (mE_zero.1 h).2.2.2
  · rw [eS_bad h]; exact Nat.zero_le _

/-! ### What is found -/
def fN (u : List UInt8) : Nat := if 1 ≤ val (u.take 2) ∧ val (u.take 2) ≤ 2300 ∧ u.take 4 = del (val (u.take 2)) ∧ 4 + val (u.take 2) ≤ u.length then val (u.take 2) else 0
theorem fN_pos {u : List UInt8} (h : ¬ fN u = 0) : fN u = val (u.take 2) ∧ 1 ≤ fN u ∧ fN u ≤ 2300 ∧ u.take 4 = del (fN u) ∧ 4 + fN u ≤ u.length := by
  unfold fN at *
  split at h
  · rename_i hc
    rw [if_pos hc]
    exact ⟨rfl, hc⟩
  · exact absurd rfl h
def dF : Nat → List UInt8 → Nat → Nat → List Cr
  | 0, _, _, _ => []
  | f + 1, s, p, c =>
    if s.length < p + 4 ∨ c = 0 then [] else
    if fN (s.drop p) = 0 then dF f s (p + 4) c
    else ⟨((p + 4 : Nat) : Int), ⟨((s.drop (p + 4)).take (fN (s.drop p))).toArray⟩⟩ :: dF f s (up (p + 4 + fN (s.drop p))) (c - 1)
def dec (s : List UInt8) : List Cr := dF (s.length + 1) s 0 64
def Inv (s : List UInt8) (L : List Cr) (p : Nat) : Prop := L.length ≤ 64 ∧ ∃ f, s.length < p + f ∧ dec s = L ++ dF f s p (64 - L.length)
theorem inv_start (s : List UInt8) : Inv s [] 0 := ⟨by simp, s.length + 1, by omega, rfl⟩
theorem inv_skip {s : List UInt8} {L : List Cr} {p : Nat} (h : Inv s L p) (hp : p + 4 ≤ s.length) (hl : ¬ L.length = 64) (h0 : fN (s.drop p) = 0) : Inv s L (p + 4) := by
  obtain ⟨h6, f, hf, hd⟩ := h
  obtain ⟨g, rfl⟩ : ∃ g, f = g + 1 := ⟨f - 1, by omega⟩
  refine ⟨h6, g, by omega, ?_⟩
  rw [hd, dF, if_neg (by omega), if_pos h0]
theorem inv_found {s : List UInt8} {L : List Cr} {p : Nat} (h : Inv s L p) (hp : p + 4 ≤ s.length) (hl : ¬ L.length = 64) (h0 : ¬ fN (s.drop p) = 0) :
    Inv s (L ++ [⟨((p + 4 : Nat) : Int), ⟨((s.drop (p + 4)).take (fN (s.drop p))).toArray⟩⟩]) (up (p + 4 + fN (s.drop p))) := by
  obtain ⟨h6, f, hf, hd⟩ := h
  obtain ⟨g, rfl⟩ : ∃ g, f = g + 1 := ⟨f - 1, by omega⟩
  have := up_ge (p + 4 + fN (s.drop p))
  refine ⟨by rw [List.length_append]; simp; omega, g, by omega, ?_⟩
  rw [hd, dF, if_neg (by omega), if_neg h0, List.append_assoc, List.length_append]
  rfl
theorem inv_end {s : List UInt8} {L : List Cr} {p : Nat} (h : Inv s L p) (he : s.length < p + 4 ∨ L.length = 64) : dec s = L := by
  obtain ⟨h6, f, hf, hd⟩ := h
  rw [hd]
  cases f with
  | zero => rw [dF, List.append_nil]
  | succ f => rw [dF, if_pos (by omega), List.append_nil]
theorem le_val {a : List UInt8} (h : a.length = 2) : le (val a) 2 = a := by
  refine val_inj (by rw [le_len, h]) ?_
  have := val_lt a
  rw [h] at this
  exact val_le_of_lt this
theorem val_one (x : UInt8) : val [x] = x.toNat := by simp [val]
/-- Four octets are a delimiter exactly if the third is the checksum of the first two and the fourth is the mark. -/
theorem del_iff {u : List UInt8} (h : 4 ≤ u.length) : u.take 4 = del (val (u.take 2)) ↔ val ((u.drop 2).take 1) = crc8 (u.take 2) ∧ val ((u.drop 3).take 1) = 78 := by
  match u, h with
  | a :: b :: c :: d :: u, _ =>
    have e : le (val [a, b]) 2 = [a, b] := le_val rfl
    have hl : crc8 [a, b] < 256 := by unfold crc8; have := reg8_lt (show 255 < 256 by decide) [a, b]; omega
    show [a, b, c, d] = del (val [a, b]) ↔ val [c] = crc8 [a, b] ∧ val [d] = 78
    unfold del
    rw [e, val_one, val_one]
    constructor
    · intro h
      simp at h
      obtain ⟨rfl, rfl⟩ := h
      exact ⟨by rw [UInt8.toNat_ofNat', Nat.mod_eq_of_lt hl], rfl⟩
    · rintro ⟨h1, h2⟩
      have h3 : c = UInt8.ofNat (crc8 [a, b]) := by rw [← h1, UInt8.ofNat_toNat]
      have h4 : d = 78 := UInt8.toNat_inj.1 h2
      rw [h3, h4]; rfl

/-! ### Back -/
def cars : Nat → List (List UInt8) → List Cr
  | _, [] => []
  | o, x :: L => ⟨((up o + 4 : Nat) : Int), ⟨x.toArray⟩⟩ :: cars (up o + 4 + x.length) L
def ps (o : Nat) (L : List (List UInt8)) (i : Nat) : Nat := up (ln o ((L.take i).map List.length)) + 4
theorem cars_len (L : List (List UInt8)) : ∀ o, (cars o L).length = L.length := by
  induction L with
  | nil => intro o; rfl
  | cons x L ih => intro o; rw [cars, List.length_cons, ih, List.length_cons]
theorem cars_get (L : List (List UInt8)) : ∀ (o i : Nat) (h : i < L.length), (cars o L)[i]? = some ⟨((ps o L i : Nat) : Int), ⟨L[i].toArray⟩⟩ := by
  induction L with
  | nil => intro o i h; cases h
  | cons x L ih =>
    intro o i h
    cases i with
    | zero => rfl
    | succ i =>
      rw [cars, List.getElem?_cons_succ, ih _ i (by simpa using h)]
      rfl
theorem fN_del {x : List UInt8} (rest : List UInt8) (h1 : 1 ≤ x.length) (h2 : x.length ≤ 2300) : fN (del x.length ++ (x ++ rest)) = x.length := by
  have e2 : (del x.length ++ (x ++ rest)).take 2 = le x.length 2 := by
    unfold del
    rw [List.append_assoc, List.take_append_of_le_length (by rw [le_len]; exact Nat.le_refl _), List.take_of_length_le (by rw [le_len]; exact Nat.le_refl _)]
  have e4 : (del x.length ++ (x ++ rest)).take 4 = del x.length := by
    rw [List.take_append_of_le_length (by rw [del_len]; exact Nat.le_refl _), List.take_of_length_le (by rw [del_len]; exact Nat.le_refl _)]
  have ev : val (le x.length 2) = x.length := val_le_of_lt (by rw [show pow 2 = 65536 from by decide]; omega)
  unfold fN
  rw [e2, e4, ev, if_pos ⟨h1, h2, rfl, by rw [List.length_append, List.length_append, del_len]; omega⟩]
theorem dF_ag (s : List UInt8) : ∀ (L : List (List UInt8)) (o f c : Nat), (∀ x ∈ L, 1 ≤ x.length ∧ x.length ≤ 2300) → o ≤ s.length → s.drop o = ag o L → s.length < up o + f → L.length ≤ c → dF f s (up o) c = cars o L := by
  intro L
  induction L with
  | nil =>
    intro o f c _ ho hd _ _
    have hl : (s.drop o).length = 0 := by rw [hd]; rfl
    rw [List.length_drop] at hl
    have := up_ge o
    cases f with
    | zero => rfl
    | succ f => rw [dF, if_pos (by omega)]; rfl
  | cons x L ih =>
    intro o f c hx ho hd hf hc
    obtain ⟨h1, h2⟩ := hx x List.mem_cons_self
    have hu := up_ge o
    have hd2 : s.drop (up o) = del x.length ++ (x ++ ag (up o + 4 + x.length) L) := by
      have e : s.drop (up o) = (s.drop o).drop (up o - o) := by rw [List.drop_drop]; congr 1; omega
      rw [e, hd, ag, List.drop_append_of_le_length (by rw [zs_len]; exact Nat.le_refl _), List.drop_of_length_le (by rw [zs_len]; exact Nat.le_refl _), List.nil_append]
    have hlen : s.length - up o = 4 + (x.length + (ag (up o + 4 + x.length) L).length) := by
      have := congrArg List.length hd2
      rw [List.length_drop, List.length_append, List.length_append, del_len] at this
      exact this
    have hd3 : s.drop (up o + 4) = x ++ ag (up o + 4 + x.length) L := by
      rw [← List.drop_drop, hd2, List.drop_append_of_le_length (by rw [del_len]; exact Nat.le_refl _), List.drop_of_length_le (by rw [del_len]; exact Nat.le_refl _), List.nil_append]
    have hd4 : s.drop (up o + 4 + x.length) = ag (up o + 4 + x.length) L := by
      rw [← List.drop_drop, hd3, List.drop_left]
    have hfn : fN (s.drop (up o)) = x.length := by rw [hd2]; exact fN_del _ h1 h2
    rw [List.length_cons] at hc
    cases f with
    | zero => omega
    | succ f =>
      have hup := up_ge (up o + 4 + x.length)
      rw [dF, if_neg (by omega), hfn, if_neg (by omega), hd3, List.take_left, cars, ih (up o + 4 + x.length) f (c - 1) (fun y hy => hx y (List.mem_cons_of_mem _ hy)) (by omega) hd4 (by omega) (by omega)]
theorem dec_ag {L : List (List UInt8)} (hx : ∀ x ∈ L, 1 ≤ x.length ∧ x.length ≤ 2300) (hl : L.length ≤ 64) : dec (ag 0 L) = cars 0 L :=
  dF_ag (ag 0 L) L 0 _ 64 hx (Nat.zero_le _) (by rw [List.drop_zero]) (by rw [show up 0 = 0 from rfl]; omega) hl
theorem fs_pos {l : List ByteArray} (h : eE l = 0) : (∀ x ∈ fs l, 1 ≤ x.length ∧ x.length ≤ 2300) ∧ (fs l).length ≤ 64 := by
  obtain ⟨-, h6, ha, -⟩ := mE_zero.1 h
  rw [sz_len] at h6
  refine ⟨fun x hx => ?_, by rw [fs_len]; exact h6⟩
  obtain ⟨s, hs, rfl⟩ := List.mem_map.1 hx
  have := pos_iff.1 (List.all_eq_true.1 ha (s.size : Int) (List.mem_map.2 ⟨s, hs, rfl⟩))
  have e : s.data.toList.length = s.size := Array.length_toList
  omega

/-! ### Frames changed in their places -/
theorem ps_ge (L : List (List UInt8)) (o i : Nat) : o + 4 ≤ ps o L i := by
  unfold ps
  have := ln_ge ((L.take i).map List.length) o
  have := up_ge (ln o ((L.take i).map List.length))
  omega
theorem ag_set (v : UInt8) : ∀ (L : List (List UInt8)) (o i k : Nat) (h : i < L.length), k < L[i].length → (ag o L).set (ps o L i - o + k) v = ag o (L.set i (L[i].set k v)) := by
  intro L
  induction L with
  | nil => intro o i k h; cases h
  | cons x L ih =>
    intro o i k h hk
    have hu := up_ge o
    cases i with
    | zero =>
      have e : ps o (x :: L) 0 = up o + 4 := rfl
      simp only [List.getElem_cons_zero] at hk
      rw [e, List.set_cons_zero, List.getElem_cons_zero, ag, ag, List.length_set]
      rw [List.set_append_right _ _ (by rw [zs_len]; omega), List.set_append_right _ _ (by rw [zs_len, del_len]; omega), List.set_append_left _ _ (by rw [zs_len, del_len]; omega), zs_len, del_len]
      rw [show up o + 4 - o + k - (up o - o) - 4 = k by omega]
    | succ i =>
      have e : ps o (x :: L) (i + 1) = ps (up o + 4 + x.length) L i := rfl
      have hg := ps_ge L (up o + 4 + x.length) i
      simp only [List.getElem_cons_succ] at hk
      rw [e, List.set_cons_succ, List.getElem_cons_succ, ag, ag]
      rw [List.set_append_right _ _ (by rw [zs_len]; omega), List.set_append_right _ _ (by rw [zs_len, del_len]; omega), List.set_append_right _ _ (by rw [zs_len, del_len]; omega), zs_len, del_len]
      rw [show ps (up o + 4 + x.length) L i - o + k - (up o - o) - 4 - x.length = ps (up o + 4 + x.length) L i - (up o + 4 + x.length) + k by omega]
      rw [ih _ i k (by simpa using h) hk]
/-- Frames of which some have changed octets, in the place of others of the same lengths. -/
structure Mx (L : List (List UInt8)) (b : Nat) (M : List (List UInt8)) : Prop where
  len : M.map List.length = L.map List.length
  same : ∀ j, b.testBit j = false → M[j]? = L[j]?
theorem Mx.refl (L : List (List UInt8)) (b : Nat) : Mx L b L := ⟨rfl, fun _ _ => rfl⟩
theorem Mx.n {L M : List (List UInt8)} {b : Nat} (h : Mx L b M) : M.length = L.length := by have := congrArg List.length h.len; simpa using this
theorem Mx.at_len {L M : List (List UInt8)} {b : Nat} (h : Mx L b M) {i : Nat} (h1 : i < M.length) (h2 : i < L.length) : M[i].length = L[i].length := by
  have := congrArg (fun l : List Nat => l[i]?) h.len
  simp [h1, h2] at this
  exact this
theorem Mx.set {L M : List (List UInt8)} {b i : Nat} (h : Mx L b M) (hi : i < M.length) (hb : b.testBit i = true) (k : Nat) (v : UInt8) : Mx L b (M.set i (M[i].set k v)) := by
  refine ⟨?_, fun j hj => ?_⟩
  · rw [List.map_set, List.length_set, ← h.len]
    apply List.ext_getElem (by simp)
    intro n h1 h2
    rw [List.getElem_set]
    split
    · rename_i e; subst e; simp
    · rfl
  · rw [List.getElem?_set_ne (fun e => by rw [e, hj] at hb; cases hb)]
    exact h.same j hj
theorem Mx.ps {L M : List (List UInt8)} {b : Nat} (h : Mx L b M) (o i : Nat) : ps o M i = Tn.ps o L i := by
  unfold Tn.ps
  rw [List.map_take, List.map_take, h.len]
theorem Mx.pos {L M : List (List UInt8)} {b : Nat} (h : Mx L b M) (hx : ∀ x ∈ L, 1 ≤ x.length ∧ x.length ≤ 2300) : ∀ x ∈ M, 1 ≤ x.length ∧ x.length ≤ 2300 := by
  intro x hm
  have : x.length ∈ L.map List.length := h.len ▸ List.mem_map.2 ⟨x, hm, rfl⟩
  obtain ⟨y, hy, e⟩ := List.mem_map.1 this
  rw [← e]; exact hx y hy

/-! ### What is found stands behind its delimiter -/
def Fnd (s : List UInt8) (e : Nat) (x : Cr) : Prop := ∃ p : Nat, x.p = (p : Int) ∧ e + 4 ≤ p ∧ p % 4 = 0 ∧ 1 ≤ x.s.size ∧ p + x.s.size ≤ s.length ∧ (s.drop p).take x.s.size = x.s.data.toList ∧ (s.drop (p - 4)).take 4 = del x.s.size
def Gd (s : List UInt8) : Nat → List Cr → Prop
  | _, [] => True
  | e, x :: L => Fnd s e x ∧ Gd s (x.p.toNat + x.s.size) L
theorem gd_dF (s : List UInt8) : ∀ (f p c e : Nat), e ≤ p → p % 4 = 0 → Gd s e (dF f s p c) := by
  intro f
  induction f with
  | zero => intro p c e _ _; trivial
  | succ f ih =>
    intro p c e he hp
    rw [dF]
    split
    · trivial
    · rename_i hc
      split
      · exact ih (p + 4) c e (by omega) (by omega)
      · rename_i h0
        obtain ⟨-, h1, h2, h3, h4⟩ := fN_pos h0
        rw [List.length_drop] at h4
        generalize fN (s.drop p) = n at *
        have hsz : (⟨((s.drop (p + 4)).take n).toArray⟩ : ByteArray).size = n := by
          show ((s.drop (p + 4)).take n).toArray.size = n
          rw [List.size_toArray, List.length_take, List.length_drop]; omega
        refine ⟨⟨p + 4, rfl, by omega, by omega, by rw [hsz]; exact h1, by rw [hsz]; omega, by rw [hsz], ?_⟩, ?_⟩
        · rw [hsz, show p + 4 - 4 = p by omega]; exact h3
        · rw [hsz]
          refine ih _ _ _ ?_ (up_mod _)
          have := up_ge (p + 4 + n)
          show (((p + 4 : Nat) : Int)).toNat + n ≤ _
          rw [Int.toNat_natCast]; exact this
theorem gd_dec (s : List UInt8) : Gd s 0 (dec s) := gd_dF s _ 0 64 0 (Nat.le_refl _) rfl
/-- Where the frame before ends. -/
def en (L : List Cr) (k : Nat) : Nat := match k with | 0 => 0 | k + 1 => match L[k]? with | some x => x.p.toNat + x.s.size | none => 0
theorem gd_at (s : List UInt8) : ∀ (L : List Cr) (e k : Nat) (h : k < L.length), Gd s e L → Fnd s (if k = 0 then e else en L k) L[k] := by
  intro L
  induction L with
  | nil => intro e k h; cases h
  | cons x L ih =>
    intro e k h hg
    cases k with
    | zero => exact hg.1
    | succ k =>
      have := ih _ k (by simpa using h) hg.2
      rw [if_neg (by omega), List.getElem_cons_succ]
      cases k with
      | zero => exact this
      | succ k => exact this
theorem dec_at (s : List UInt8) {k : Nat} (h : k < (dec s).length) : Fnd s (en (dec s) k) (dec s)[k] := by
  have := gd_at s (dec s) 0 k h (gd_dec s)
  by_cases h0 : k = 0
  · subst h0; exact this
  · rw [if_neg h0] at this; exact this
theorem en_succ {L : List Cr} {k : Nat} (h : k < L.length) : en L (k + 1) = L[k].p.toNat + L[k].s.size := by
  unfold en
  simp [h]
theorem dF_len (s : List UInt8) : ∀ (f p c : Nat), (dF f s p c).length ≤ c := by
  intro f
  induction f with
  | zero => intro p c; exact Nat.zero_le _
  | succ f ih =>
    intro p c
    rw [dF]
    split
    · exact Nat.zero_le _
    · split
      · exact ih _ _
      · have := ih (up (p + 4 + fN (s.drop p))) (c - 1)
        rw [List.length_cons]; omega
theorem dec_len (s : List UInt8) : (dec s).length ≤ 64 := dF_len s _ 0 64
end Go.Tn
