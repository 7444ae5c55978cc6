/-
  SPANS AS SETS OF SLOTS. Of no program.
-/
import Derived.WalkKit
namespace Go.Sp

structure Sp where
  f : Int
  t : Int
deriving DecidableEq

def has (s : Sp) (t : Int) : Prop := s.f ≤ t ∧ t < s.t
instance (s : Sp) (t : Int) : Decidable (has s t) := by unfold has; infer_instance
/-- A span of the list contains t. -/
def InL (l : List Sp) (t : Int) : Prop := ∃ s ∈ l, has s t
instance (l : List Sp) (t : Int) : Decidable (InL l t) := by unfold InL; infer_instance
def len (s : Sp) : Int := if s.t ≤ s.f then 0 else s.t - s.f
def sum (l : List Sp) : Int := (l.map len).foldl (· + ·) 0
/-- Not empty, ascending, neither overlapping nor adjacent. -/
def Tidy (l : List Sp) : Prop := (∀ s ∈ l, s.f < s.t) ∧ l.Pairwise (fun a b => a.t < b.f)

theorem InL.nil (t : Int) : ¬ InL [] t := by rintro ⟨s, h, _⟩; cases h
theorem InL.cons (s : Sp) (l : List Sp) (t : Int) : InL (s :: l) t ↔ has s t ∨ InL l t := by
  constructor
  · rintro ⟨x, hx, ht⟩
    rcases List.mem_cons.1 hx with rfl | hx
    · exact .inl ht
    · exact .inr ⟨x, hx, ht⟩
  · rintro (h | ⟨x, hx, ht⟩)
    · exact ⟨s, List.mem_cons_self .., h⟩
    · exact ⟨x, List.mem_cons_of_mem _ hx, ht⟩
theorem InL.append (l m : List Sp) (t : Int) : InL (l ++ m) t ↔ InL l t ∨ InL m t := by
  induction l with
  | nil => simp [InL.nil]
  | cons s l ih => rw [List.cons_append, InL.cons, ih, InL.cons, or_assoc]
theorem InL.perm {l m : List Sp} (h : l.Perm m) (t : Int) : InL l t ↔ InL m t :=
  ⟨fun ⟨s, hs, ht⟩ => ⟨s, h.mem_iff.1 hs, ht⟩, fun ⟨s, hs, ht⟩ => ⟨s, h.mem_iff.2 hs, ht⟩⟩

theorem Tidy.tail {a : Sp} {l : List Sp} (h : Tidy (a :: l)) : Tidy l := ⟨fun s hs => h.1 s (List.mem_cons_of_mem _ hs), (List.pairwise_cons.1 h.2).2⟩
/-- What comes behind the first span begins behind its end. -/
theorem Tidy.after {a : Sp} {l : List Sp} (h : Tidy (a :: l)) {t : Int} (ht : InL l t) : a.t < t := by
  obtain ⟨s, hs, h1, _⟩ := ht
  have := (List.pairwise_cons.1 h.2).1 s hs
  omega
theorem Tidy.least {a : Sp} {l : List Sp} (h : Tidy (a :: l)) {t : Int} (ht : InL (a :: l) t) : a.f ≤ t := by
  have := h.1 a (List.mem_cons_self ..)
  rcases (InL.cons a l t).1 ht with h1 | h1
  · exact h1.1
  · have := h.after h1; omega
theorem Tidy.first {a : Sp} {l : List Sp} (h : Tidy (a :: l)) : InL (a :: l) a.f := (InL.cons ..).2 (.inl ⟨Int.le_refl _, h.1 a (List.mem_cons_self ..)⟩)
theorem Tidy.stop {a : Sp} {l : List Sp} (h : Tidy (a :: l)) : ¬ InL (a :: l) a.t := by
  intro hh
  rcases (InL.cons ..).1 hh with h1 | h1
  · have := h1.2; omega
  · have := h.after h1; omega
/-- TIDY LISTS OF THE SAME SLOTS ARE THE SAME LIST. -/
theorem Tidy.unique : ∀ {l m : List Sp}, Tidy l → Tidy m → (∀ t, InL l t ↔ InL m t) → l = m
  | [], [], _, _, _ => rfl
  | [], b :: m, _, hm, h => absurd ((h b.f).2 hm.first) (InL.nil _)
  | a :: l, [], hl, _, h => absurd ((h a.f).1 hl.first) (InL.nil _)
  | a :: l, b :: m, hl, hm, h => by
    have h1 := hm.least ((h a.f).1 hl.first)
    have h2 := hl.least ((h b.f).2 hm.first)
    have ha := hl.1 a (List.mem_cons_self ..)
    have hb := hm.1 b (List.mem_cons_self ..)
    have h3 : ¬ a.t < b.t := fun hlt => hl.stop ((h a.t).2 ((InL.cons ..).2 (.inl ⟨by omega, hlt⟩)))
    have h4 : ¬ b.t < a.t := fun hlt => hm.stop ((h b.t).1 ((InL.cons ..).2 (.inl ⟨by omega, hlt⟩)))
    have hab : a = b := by
      cases a; cases b
      simp only [Sp.mk.injEq]
      simp only at h1 h2 h3 h4
      omega
    subst hab
    have ht : ∀ t, InL l t ↔ InL m t := fun t => by
      constructor
      · intro hi
        have := hl.after hi
        rcases (InL.cons ..).1 ((h t).1 ((InL.cons ..).2 (.inr hi))) with h5 | h5
        · have := h5.2; omega
        · exact h5
      · intro hi
        have := hm.after hi
        rcases (InL.cons ..).1 ((h t).2 ((InL.cons ..).2 (.inr hi))) with h5 | h5
        · have := h5.2; omega
        · exact h5
    rw [Tidy.unique hl.tail hm.tail ht]

/-- How many spans contain t. -/
def cnt (l : List Sp) (t : Int) : Nat := l.countP (fun s => decide (has s t))
theorem cnt_pos (l : List Sp) (t : Int) : 0 < cnt l t ↔ InL l t := by
  unfold cnt InL
  rw [List.countP_pos_iff]
  simp
theorem cnt_tidy {l : List Sp} (h : Tidy l) (t : Int) : cnt l t = if InL l t then 1 else 0 := by
  induction l with
  | nil => rw [if_neg (InL.nil t)]; rfl
  | cons a l ih =>
    have ih := ih h.tail
    unfold cnt at *
    rw [List.countP_cons, ih]
    by_cases h1 : has a t
    · have h2 : ¬ InL l t := fun hi => by have := h.after hi; have := h1.2; omega
      rw [if_neg h2, if_pos ((InL.cons ..).2 (.inl h1))]
      simp [h1]
    · by_cases h2 : InL l t
      · rw [if_pos h2, if_pos ((InL.cons ..).2 (.inr h2))]; simp [h1]
      · have h3 : ¬ InL (a :: l) t := fun hi => by
          rcases (InL.cons ..).1 hi with h3 | h3
          · exact h1 h3
          · exact h2 h3
        rw [if_neg h2, if_neg h3]; simp [h1]

/-- What Union hands back. -/
def IsUnion (l u : List Sp) : Prop := Tidy u ∧ ∀ t, InL u t ↔ InL l t
/-- What Gaps hands back. -/
def IsGaps (w : Sp) (l g : List Sp) : Prop := Tidy g ∧ ∀ t, InL g t ↔ has w t ∧ ¬ InL l t
theorem IsUnion.unique {l u v : List Sp} (h : IsUnion l u) (k : IsUnion l v) : u = v := Tidy.unique h.1 k.1 fun t => (h.2 t).trans (k.2 t).symm
theorem IsGaps.unique {w : Sp} {l u v : List Sp} (h : IsGaps w l u) (k : IsGaps w l v) : u = v := Tidy.unique h.1 k.1 fun t => (h.2 t).trans (k.2 t).symm
theorem IsUnion.again {l u v : List Sp} (h : IsUnion l u) (k : IsUnion u v) : v = u := Tidy.unique k.1 h.1 fun t => k.2 t
theorem IsUnion.perm {l m u v : List Sp} (p : m.Perm l) (h : IsUnion l u) (k : IsUnion m v) : v = u := Tidy.unique k.1 h.1 fun t => ((k.2 t).trans (InL.perm p t)).trans (h.2 t).symm
theorem tile {w : Sp} {l u g : List Sp} (h : IsUnion l u) (k : IsGaps w l g) (t : Int) :
    cnt u t = (if InL l t then 1 else 0) ∧ cnt g t = (if has w t ∧ ¬ InL l t then 1 else 0) := by
  refine ⟨?_, ?_⟩
  · rw [cnt_tidy h.1]
    by_cases hi : InL l t
    · rw [if_pos hi, if_pos ((h.2 t).2 hi)]
    · rw [if_neg hi, if_neg (fun hu => hi ((h.2 t).1 hu))]
  · rw [cnt_tidy k.1]
    by_cases hi : has w t ∧ ¬ InL l t
    · rw [if_pos hi, if_pos ((k.2 t).2 hi)]
    · rw [if_neg hi, if_neg (fun hu => hi ((k.2 t).1 hu))]

/-! ### The reference's way: marks from -201 to 201 -/
/-- The spans of what has been marked before place i; the last one lies open where the place before is marked. -/
theorem Tidy.snoc {l : List Sp} {s : Sp} (h : Tidy l) (hs : s.f < s.t) (hl : ∀ x ∈ l, x.t < s.f) : Tidy (l ++ [s]) := by
  refine ⟨fun x hx => ?_, List.pairwise_append.2 ⟨h.2, List.pairwise_singleton .., fun a ha b hb => ?_⟩⟩
  · rcases List.mem_append.1 hx with hx | hx
    · exact h.1 x hx
    · rw [List.mem_singleton.1 hx]; exact hs
  · rw [List.mem_singleton.1 hb]; exact hl a ha

/-- The spans that are closed before place k, where the open one begins, and whether one is open. -/
def rs (mk : Nat → Bool) : Nat → List Sp × Int × Bool
  | 0 => ([], 0, false)
  | k + 1 =>
    (if mk k = false ∧ (rs mk k).2.2 = true then (rs mk k).1 ++ [⟨(rs mk k).2.1, (k : Int) - 201⟩] else (rs mk k).1,
     if mk k = true ∧ (rs mk k).2.2 = false then (k : Int) - 201 else (rs mk k).2.1,
     mk k)

structure Inv (mk : Nat → Bool) (k : Nat) (out : List Sp) (fr : Int) (ins : Bool) : Prop where
  tidy : Tidy out
  ends : ∀ x ∈ out, x.t < (k : Int) - 201
  opn : ins = true → fr < (k : Int) - 201 ∧ ∀ x ∈ out, x.t < fr
  mem : ∀ t, (InL out t ∨ (ins = true ∧ fr ≤ t ∧ t < (k : Int) - 201)) ↔ ∃ j : Nat, j < k ∧ t = (j : Int) - 201 ∧ mk j = true

theorem inv_rs (mk : Nat → Bool) : ∀ k, Inv mk k (rs mk k).1 (rs mk k).2.1 (rs mk k).2.2
  | 0 => by
    refine ⟨⟨fun s h => (by cases h), List.Pairwise.nil⟩, fun s h => (by cases h), fun h => (by cases h), fun t => ⟨fun h => ?_, fun ⟨j, h, _⟩ => (by omega)⟩⟩
    rcases h with ⟨s, h, _⟩ | ⟨h, _⟩
    · cases h
    · cases h
  | k + 1 => by
    have ih := inv_rs mk k
    rw [rs]
    generalize (rs mk k).1 = out at *
    generalize (rs mk k).2.1 = fr at *
    generalize (rs mk k).2.2 = ins at *
    have hst : ∀ t, (∃ j : Nat, j < k + 1 ∧ t = (j : Int) - 201 ∧ mk j = true) ↔ (∃ j : Nat, j < k ∧ t = (j : Int) - 201 ∧ mk j = true) ∨ (t = (k : Int) - 201 ∧ mk k = true) := fun t => by
      constructor
      · rintro ⟨j, hj, ht, hm⟩
        by_cases e : j = k
        · subst e; exact .inr ⟨ht, hm⟩
        · exact .inl ⟨j, by omega, ht, hm⟩
      · rintro (⟨j, hj, ht, hm⟩ | ⟨ht, hm⟩)
        · exact ⟨j, by omega, ht, hm⟩
        · exact ⟨k, by omega, ht, hm⟩
    cases hm : mk k <;> cases ins
    · -- not marked, none open
      rw [if_neg (by simp), if_neg (by simp)]
      refine ⟨ih.tidy, fun x hx => by have := ih.ends x hx; push_cast; omega, fun h => (by cases h), fun t => ?_⟩
      rw [hst, hm, ← ih.mem t]
      simp
    · -- not marked, one open: it ends
      rw [if_pos ⟨rfl, rfl⟩, if_neg (by simp)]
      obtain ⟨h1, h2⟩ := ih.opn rfl
      refine ⟨ih.tidy.snoc h1 h2, fun x hx => ?_, fun h => (by cases h), fun t => ?_⟩
      · rcases List.mem_append.1 hx with hx | hx
        · have := ih.ends x hx; push_cast; omega
        · rw [List.mem_singleton.1 hx]; push_cast; show (k : Int) - 201 < _; omega
      · rw [hst, hm, ← ih.mem t, InL.append]
        have e : InL [(⟨fr, (k : Int) - 201⟩ : Sp)] t ↔ fr ≤ t ∧ t < (k : Int) - 201 := ⟨fun ⟨s, hs, ht⟩ => by rw [List.mem_singleton.1 hs] at ht; exact ht, fun ht => ⟨_, List.mem_singleton.2 rfl, ht⟩⟩
        rw [e]
        simp
    · -- marked, none open: one begins
      rw [if_neg (by simp), if_pos ⟨rfl, rfl⟩]
      refine ⟨ih.tidy, fun x hx => by have := ih.ends x hx; push_cast; omega, fun _ => ⟨by push_cast; omega, ih.ends⟩, fun t => ?_⟩
      rw [hst, hm, ← ih.mem t]
      have e : ((k : Int) - 201 ≤ t ∧ t < ((k + 1 : Nat) : Int) - 201) ↔ t = (k : Int) - 201 := by push_cast; omega
      simp only [true_and, and_true, e]
      simp
    · -- marked, one open
      rw [if_neg (by simp), if_neg (by simp)]
      obtain ⟨h1, h2⟩ := ih.opn rfl
      refine ⟨ih.tidy, fun x hx => by have := ih.ends x hx; push_cast; omega, fun _ => ⟨by push_cast; omega, h2⟩, fun t => ?_⟩
      rw [hst, hm, ← ih.mem t]
      have e : (fr ≤ t ∧ t < ((k + 1 : Nat) : Int) - 201) ↔ (fr ≤ t ∧ t < (k : Int) - 201) ∨ t = (k : Int) - 201 := by push_cast; omega
      simp only [true_and, and_true, e, or_assoc]

/-- All places marked, the last one not: what has been closed is the whole. -/
theorem rs_whole (mk : Nat → Bool) (h : mk 402 = false) : Tidy (rs mk 403).1 ∧ ∀ t, InL (rs mk 403).1 t ↔ ∃ j : Nat, j < 403 ∧ t = (j : Int) - 201 ∧ mk j = true := by
  have hi := inv_rs mk 403
  have hins : (rs mk 403).2.2 = false := h
  refine ⟨hi.tidy, fun t => ?_⟩
  rw [← hi.mem t, hins]
  simp
end Go.Sp
