/-
  A BLOCK OF int's, told as a list; the exchange of two of them.
-/
import Derived.Test.YtlifnaofppofmaaDwBelow
namespace Go.Proofs.Ytlifnaofppofmaa
open Go.RowKit Go.Dw

/-- Block g begins with these numbers, none of them frozen. -/
def Ints (W : World) (g : Nat) (l : List Int) : Prop := ∀ j, j < l.length → W.cell? ⟨g, j, none⟩ = some (.int .i64 (l.getD j 0)) ∧ W.frozen? ⟨g, j, none⟩ = false
theorem Ints.set {W : World} {g : Nat} {l : List Int} (h : Ints W g l) (i : Nat) (z : Int) : Ints (W.setCell ⟨g, i, none⟩ (.int .i64 z)) g (l.set i z) := by
  intro j hj
  rw [List.length_set] at hj
  obtain ⟨h1, h2⟩ := h j hj
  refine ⟨?_, (World.frozen?_setCell _ _ _ _).trans h2⟩
  by_cases e : i = j
  · subst e
    rw [World.cell?_setCell_same _ _ _ h1]
    simp [List.getD, hj]
  · rw [World.cell?_setCell_other _ _ _ _ (fun h => e (congrArg Addr.off h)), h1]
    simp [List.getD, e]
theorem Ints.drew {W : World} {g : Nat} {l : List Int} (h : Ints W g l) : Ints W.drew g l := h
theorem Ints.swap {W : World} {g : Nat} {l : List Int} (h : Ints W g l) (i j : Nat) : Ints ((W.setCell ⟨g, i, none⟩ (.int .i64 (l.getD j 0))).setCell ⟨g, j, none⟩ (.int .i64 (l.getD i 0))) g (swp l i j) := (h.set i _).set j _
theorem Ints.below {W W' : World} {g b : Nat} {l : List Int} (h : Ints W g l) (hg : g < b) (hb : Below b W W') : ∀ j, j < l.length → W'.cell? ⟨g, j, none⟩ = some (.int .i64 (l.getD j 0)) := fun j hj => (hb.cell (p := ⟨g, j, none⟩) hg).trans (h j hj).1

theorem getD_set_self (l : List Int) (i j : Nat) : (l.set i (l.getD j 0)).getD j 0 = l.getD j 0 := by
  by_cases e : i = j
  · subst e
    by_cases h : i < l.length
    · simp [List.getD, h]
    · simp [List.getD, h]
  · simp [List.getD, e]

/-- What Order hands back: a slice in new memory that holds the list, and the state. -/
def OrdPost (x m : Nat) (w : World) (e : Ending) (w' : World) : Prop :=
  ∃ g cap, e = .returned (.tuple #[.slice (some ⟨g, 0, none⟩) m cap, .int .u64 ((ord x m).2 : Nat)]) ∧ (∀ j, j < m → w'.cell? ⟨g, j, none⟩ = some (.int .i64 ((ord x m).1.getD j 0))) ∧ w.heap.size ≤ g ∧ g < w'.heap.size ∧ Below w.heap.size w w'

theorem ids_succ (k : Nat) : ids (k + 1) = ids k ++ [(k : Int)] := by unfold ids; rw [List.range_succ, List.map_append]; rfl
theorem ids_getD {k j : Nat} (h : j < k) : (ids k).getD j 0 = (j : Int) := by unfold ids; simp [List.getD, h]

/-- The number of elements, as Order counts it. -/
def cnt (n : Int) : Nat := (min (max n 0) 64).toNat
theorem cnt_le (n : Int) : cnt n ≤ 64 := by unfold cnt; omega
theorem cnt_cast (n : Int) : ∃ mx : Int, (if n < 0 then 0 else n) = mx ∧ (if (64 : Int) < mx then 64 else mx) = ((cnt n : Nat) : Int) := ⟨_, rfl, by unfold cnt; split <;> split <;> omega⟩

theorem infoInt : (Try.prog.info? 3).map (fun i => (i.zero, i.size, i.bytes)) = some (some (.int .i64 0), 1, 8) := by kernel_rfl
theorem owns_ints {l : List Int} {base : Nat} {v : Value} {wr : World} (h : wr.ownsRow base 3 1 v l.length (l.map (Value.int .i64))) (hne : v ≠ .slice none 0 0) :
    ∃ g cap, v = .slice (some ⟨g, 0, none⟩) l.length cap ∧ base ≤ g ∧ g < wr.heap.size ∧ Ints wr g l := by
  have h0 := h
  obtain ⟨_, ⟨h1, _⟩ | ⟨g, cap, cur, rfl, hb, hh, hn, hc, hs, ht⟩⟩ := h
  · exact absurd h1 hne
  · refine ⟨g, cap, rfl, hb, (Array.getElem?_eq_some_iff.1 hh).1, fun j hj => ?_⟩
    have := h0.cells (g := g) rfl j (.int .i64 l[j]) (by simp [hj])
    simp only [Addr.add] at this
    have e : l.getD j 0 = l[j] := by simp [List.getD, hj]
    rw [e]
    refine ⟨?_, by simp [World.frozen?, hh]⟩
    by_cases h0 : j = 0
    · subst h0; simpa using this
    · simpa [h0] using this
/-- The list while it is being filled. -/
def part (m k : Nat) : List Int := ids k ++ List.replicate (m - k) 0
theorem part_len {m k : Nat} (h : k ≤ m) : (part m k).length = m := by unfold part; rw [List.length_append, ids_len, List.length_replicate]; omega
theorem part_set {m k : Nat} (h : k < m) : (part m k).set k (k : Int) = part m (k + 1) := by
  unfold part
  obtain ⟨d, rfl⟩ : ∃ d, m = k + d + 1 := ⟨m - k - 1, by omega⟩
  rw [show k + d + 1 - k = d + 1 by omega, show k + d + 1 - (k + 1) = d by omega, List.replicate_succ, ids_succ, List.set_append_right _ _ (by rw [ids_len]; exact Nat.le_refl _), ids_len, Nat.sub_self, List.set_cons_zero, List.append_assoc]
  rfl
theorem part_zero (m : Nat) : part m 0 = List.replicate m 0 := by unfold part; simp [ids]
theorem part_full (m : Nat) : part m m = ids m := by unfold part; simp
theorem ints_made (w : World) (m : Nat) (t : TypeId) : Ints (w.alloc (.cells (madeCells #[.int .i64 0] m) t)) w.heap.size (part m 0) := by
  intro j hj
  rw [part_zero, List.length_replicate] at hj
  refine ⟨?_, by simp⟩
  rw [World.cell?_alloc_at _ _ _ j rfl, part_zero]
  simp [madeCells, hj, List.getD, Nat.mod_one]
end Go.Proofs.Ytlifnaofppofmaa
