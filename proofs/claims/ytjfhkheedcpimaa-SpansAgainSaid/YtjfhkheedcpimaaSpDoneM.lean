/-
  OF NO PROGRAM: a union grows at its end, span by span in the order of their beginnings; the gaps between the spans of a union.
-/
import Derived.Test.YtjfhkheedcpimaaSpMath
namespace Go.Sp

theorem tidy_last {i : List Sp} {x : Sp} (h : Tidy (i ++ [x])) {z : Int} (hz : x.t < z) : ∀ y ∈ i ++ [x], y.t < z := by
  intro y hy
  rcases List.mem_append.1 hy with h1 | h1
  · have h2 := (List.pairwise_append.1 h.2).2.2 y h1 x (by simp)
    have h3 := h.1 x (by simp)
    omega
  · simp at h1; subst h1; exact hz

theorem un_snoc {p u : List Sp} {s : Sp} (h : IsUnion p u) (hs : s.f < s.t) (hl : ∀ x ∈ u, x.t < s.f) : IsUnion (p ++ [s]) (u ++ [s]) :=
  ⟨h.1.snoc hs hl, fun t => by rw [InL.append, InL.append, h.2 t]⟩

theorem un_merge {p i : List Sp} {x s : Sp} (h : IsUnion p (i ++ [x])) (h1 : x.f ≤ s.f) (h2 : s.f ≤ x.t) : IsUnion (p ++ [s]) (i ++ [⟨x.f, if x.t < s.t then s.t else x.t⟩]) := by
  obtain ⟨m, hm⟩ : ∃ m, m = if x.t < s.t then s.t else x.t := ⟨_, rfl⟩
  rw [← hm]
  have hx := h.1.1 x (by simp)
  have e1 : x.t ≤ m ∧ s.t ≤ m ∧ (m = x.t ∨ m = s.t) := by rw [hm]; split <;> omega
  have hp := List.pairwise_append.1 h.1.2
  refine ⟨⟨fun y hy => ?_, ?_⟩, fun t => ?_⟩
  · rcases List.mem_append.1 hy with hy | hy
    · exact h.1.1 y (List.mem_append_left _ hy)
    · simp at hy; subst hy; show x.f < m; omega
  · refine List.pairwise_append.2 ⟨hp.1, by simp, fun a ha b hb => ?_⟩
    simp at hb; subst hb
    exact hp.2.2 a ha x (by simp)
  · have h3 := h.2 t
    rw [InL.append] at h3 ⊢
    rw [InL.append, ← h3]
    simp only [InL.cons, InL.nil, or_false, has]
    constructor
    · rintro (h4 | h4)
      · exact .inl (.inl h4)
      · by_cases h5 : t < x.t
        · exact .inl (.inr ⟨h4.1, h5⟩)
        · exact .inr ⟨by omega, by omega⟩
    · rintro ((h4 | h4) | h4)
      · exact .inl h4
      · exact .inr ⟨h4.1, by omega⟩
      · exact .inr ⟨by omega, by omega⟩

/-- What has been found when the first k spans of the union have been looked at. -/
structure GapI (w : Sp) (u : List Sp) (k : Nat) (g : List Sp) (fr : Int) : Prop where
  tidy : Tidy g
  mem : ∀ t, InL g t ↔ has w t ∧ ¬ InL (u.take k) t ∧ t < fr
  lo : ∀ x ∈ u.take k, x.t ≤ fr
  hi : ∀ x ∈ g, x.t < fr
  beg : k = 0 → fr = w.f
  nxt : ∀ (h : k < u.length), k ≠ 0 → fr < u[k].f
  len : g.length ≤ k

theorem gapI_start (w : Sp) (u : List Sp) : GapI w u 0 [] w.f :=
  ⟨⟨by simp, by simp⟩, fun t => by simp only [InL.nil, List.take_zero, has, false_iff]; omega, by simp, by simp, fun _ => rfl, fun _ h => absurd rfl h, Nat.le_refl _⟩

theorem cross_has {w : Sp} {a b : Int} (t : Int) :
    has ⟨if w.f < a then a else w.f, if b < w.t then b else w.t⟩ t ↔ has w t ∧ a ≤ t ∧ t < b := by
  unfold has
  simp only
  split <;> split <;> omega
theorem cross_none {w : Sp} {a b : Int} (h : (if b < w.t then b else w.t) ≤ (if w.f < a then a else w.f)) (t : Int) : ¬ (has w t ∧ a ≤ t ∧ t < b) := by
  unfold has
  split at h <;> split at h <;> omega

theorem GapI.step {w : Sp} {u g : List Sp} {k : Nat} {fr : Int} (h : GapI w u k g fr) (hu : Tidy u) (hk : k < u.length) (g' : List Sp)
    (hg : (¬ (if u[k].f < w.t then u[k].f else w.t) ≤ (if w.f < fr then fr else w.f) ∧ g' = g ++ [⟨if w.f < fr then fr else w.f, if u[k].f < w.t then u[k].f else w.t⟩]) ∨ ((if u[k].f < w.t then u[k].f else w.t) ≤ (if w.f < fr then fr else w.f) ∧ g' = g)) :
    GapI w u (k + 1) g' u[k].t := by
  have hs := hu.1 u[k] (List.getElem_mem hk)
  have e : u.take (k + 1) = u.take k ++ [u[k]] := List.take_succ_eq_append_getElem hk
  have hm : ∀ t, InL g' t ↔ InL g t ∨ (has w t ∧ fr ≤ t ∧ t < u[k].f) := by
    intro t
    rcases hg with ⟨-, rfl⟩ | ⟨h1, rfl⟩
    · rw [InL.append, InL.cons, cross_has t]; simp [InL.nil]
    · exact ⟨.inl, fun h2 => h2.resolve_right (cross_none h1 t)⟩
  have hfr : fr < u[k].t ∨ k = 0 := by
    by_cases h0 : k = 0
    · exact .inr h0
    · have := h.nxt hk h0; exact .inl (by omega)
  refine ⟨?_, fun t => ?_, fun x hx => ?_, fun x hx => ?_, fun h => by omega, fun h1 _ => ?_, ?_⟩
  · rcases hg with ⟨h1, rfl⟩ | ⟨h1, rfl⟩
    · refine h.tidy.snoc (by simp only; omega) fun x hx => ?_
      have := h.hi x hx
      show x.t < if w.f < fr then fr else w.f
      split <;> omega
    · exact h.tidy
  · rw [hm, h.mem, e, InL.append, InL.cons]
    simp only [InL.nil, or_false]
    have hlo : InL (u.take k) t → t < fr := by
      rintro ⟨x, hx, h2⟩
      have := h.lo x hx
      unfold has at h2
      omega
    have hnx : k ≠ 0 → fr < u[k].f := h.nxt hk
    have hb := h.beg
    constructor
    · rintro (⟨h2, h3, h4⟩ | ⟨h2, h3, h4⟩)
      · have h8 : t < u[k].f := by
          by_cases h0 : k = 0
          · have := hb h0; unfold has at h2; omega
          · have := hnx h0; omega
        exact ⟨h2, fun h5 => h5.elim h3 fun h6 => by unfold has at h6; omega, by omega⟩
      · refine ⟨h2, fun h5 => ?_, by omega⟩
        rcases h5 with h5 | h5
        · have := hlo h5; omega
        · unfold has at h5; omega
    · rintro ⟨h2, h3, h4⟩
      have h5 : ¬ has u[k] t := fun h => h3 (.inr h)
      have h6 : t < u[k].f := by unfold has at h5; omega
      by_cases h7 : t < fr
      · exact .inl ⟨h2, fun h => h3 (.inl h), h7⟩
      · exact .inr ⟨h2, by omega, h6⟩
  · rw [e] at hx
    rcases List.mem_append.1 hx with hx | hx
    · have := h.lo x hx
      rcases hfr with h2 | h2
      · omega
      · subst h2; simp at hx
    · simp at hx; subst hx; exact Int.le_refl _
  · rcases hg with ⟨h1, rfl⟩ | ⟨h1, rfl⟩
    · rcases List.mem_append.1 hx with hx | hx
      · have := h.hi x hx
        rcases hfr with h2 | h2
        · omega
        · exact absurd (List.length_pos_of_mem hx) (by have := h.len; omega)
      · simp at hx; subst hx
        show (if u[k].f < w.t then u[k].f else w.t) < u[k].t
        split <;> omega
    · have := h.hi x hx
      rcases hfr with h2 | h2
      · omega
      · exact absurd (List.length_pos_of_mem hx) (by have := h.len; omega)
  · exact List.pairwise_iff_getElem.1 hu.2 k (k + 1) hk h1 (by omega)
  · rcases hg with ⟨h1, rfl⟩ | ⟨h1, rfl⟩
    · have := h.len; simp; omega
    · have := h.len; omega

theorem GapI.last {w : Sp} {u g : List Sp} {fr : Int} (h : GapI w u u.length g fr) (g' : List Sp)
    (hg : (¬ (if w.t < w.t then w.t else w.t) ≤ (if w.f < fr then fr else w.f) ∧ g' = g ++ [⟨if w.f < fr then fr else w.f, if w.t < w.t then w.t else w.t⟩]) ∨ ((if w.t < w.t then w.t else w.t) ≤ (if w.f < fr then fr else w.f) ∧ g' = g)) :
    IsGaps w u g' ∧ g'.length ≤ u.length + 1 := by
  have hm : ∀ t, InL g' t ↔ InL g t ∨ (has w t ∧ fr ≤ t ∧ t < w.t) := by
    intro t
    rcases hg with ⟨-, rfl⟩ | ⟨h1, rfl⟩
    · rw [InL.append, InL.cons, cross_has t]; simp [InL.nil]
    · exact ⟨.inl, fun h2 => h2.resolve_right (cross_none h1 t)⟩
  have hlo : ∀ t, InL u t → t < fr := by
    rintro t ⟨x, hx, h2⟩
    have := h.lo x (by rwa [List.take_length])
    unfold has at h2
    omega
  refine ⟨⟨?_, fun t => ?_⟩, ?_⟩
  · rcases hg with ⟨h1, rfl⟩ | ⟨h1, rfl⟩
    · refine h.tidy.snoc (by simp only; omega) fun x hx => ?_
      have := h.hi x hx
      show x.t < if w.f < fr then fr else w.f
      split <;> omega
    · exact h.tidy
  · rw [hm, h.mem, List.take_length]
    constructor
    · rintro (⟨h2, h3, h4⟩ | ⟨h2, h3, h4⟩)
      · exact ⟨h2, h3⟩
      · exact ⟨h2, fun h5 => by have := hlo t h5; omega⟩
    · rintro ⟨h2, h3⟩
      by_cases h4 : t < fr
      · exact .inl ⟨h2, h3, h4⟩
      · exact .inr ⟨h2, by omega, h2.2⟩
  · rcases hg with ⟨h1, rfl⟩ | ⟨h1, rfl⟩
    · have := h.len; simp; omega
    · have := h.len; omega
end Go.Sp
