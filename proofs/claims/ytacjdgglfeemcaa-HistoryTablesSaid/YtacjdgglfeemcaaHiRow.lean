/-
  A ROW OF ADDRESSES in a block of its own, that is sorted in place: its cells, a store, an exchange.
-/
import Derived.Test.YtacjdgglfeemcaaHiUs
import Derived.Sort.LotA
import Derived.Sort.Row
import Derived.Deep.Draws
import Derived.Maps.AppendAt
namespace Go.Proofs.Ytacjdgglfeemcaa
open Go.RowKit Go.Sort

/-- Block g is a row of c cells behind o others; the first of them hold d. -/
def Rw (W : World) (g o : Nat) (d : Array Int) (c : Nat) : Prop :=
  ∃ cur, W.heap[g]? = some (.cells cur 33 (0, 0)) ∧ cur.size = o + c ∧ d.size ≤ c ∧ ∀ i, i < d.size → cur[o + i]? = some (.int .u64 d[i]!)
theorem Rw.lt {W : World} {g o c : Nat} {d : Array Int} (h : Rw W g o d c) : g < W.heap.size := by
  obtain ⟨cur, h1, _⟩ := h
  exact (Array.getElem?_eq_some_iff.1 h1).1
theorem Rw.le {W : World} {g o c : Nat} {d : Array Int} (h : Rw W g o d c) : d.size ≤ c := by obtain ⟨_, _, _, h3, _⟩ := h; exact h3
theorem Rw.cell {W : World} {g o c : Nat} {d : Array Int} (h : Rw W g o d c) {i : Nat} (hi : i < d.size) : W.cell? ⟨g, o + i, none⟩ = some (.int .u64 d[i]!) := by
  obtain ⟨cur, h1, _, _, h4⟩ := h
  simp only [World.cell?, h1, Option.isSome_none, Bool.false_eq_true, if_false]
  exact h4 i hi
theorem Rw.frozen {W : World} {g o c : Nat} {d : Array Int} (h : Rw W g o d c) (i : Nat) : W.frozen? ⟨g, i, none⟩ = false := by
  obtain ⟨cur, h1, _⟩ := h
  simp [World.frozen?, h1]
theorem Rw.kept {W W' : World} {g o c : Nat} {d : Array Int} (h : Rw W g o d c) (hb : W'.heap[g]? = W.heap[g]?) : Rw W' g o d c := by
  obtain ⟨cur, h1, h2⟩ := h
  exact ⟨cur, hb.trans h1, h2⟩
theorem Rw.below {W W' : World} {g o c : Nat} {d : Array Int} (h : Rw W g o d c) (hb : Below W.heap.size W W') : Rw W' g o d c := h.kept (hb.block g h.lt)
theorem Rw.drew {W : World} {g o c : Nat} {d : Array Int} (h : Rw W g o d c) : Rw W.drew g o d c := h
theorem Rw.set {W : World} {g o c : Nat} {d : Array Int} (h : Rw W g o d c) {i : Nat} (hi : i < d.size) (x : Int) : Rw (W.setCell ⟨g, o + i, none⟩ (.int .u64 x)) g o (d.setIfInBounds i x) c := by
  obtain ⟨cur, h1, h2, h3, h4⟩ := h
  refine ⟨cur.setIfInBounds (o + i) (.int .u64 x), ?_, by simpa using h2, by simpa using h3, fun j hj => ?_⟩
  · simp [World.setCell, Array.getElem?_modify, h1]
  · have hj' : j < d.size := by simpa using hj
    have hc := h4 j hj'
    by_cases e : j = i
    · subst e
      rw [getElem!_set_same _ _ _ hi]
      have : o + j < cur.size := by omega
      simp [this]
    · rw [getElem!_set_other _ _ _ _ e]
      rw [Array.getElem?_setIfInBounds_ne (fun h => e (by omega))]
      exact hc
theorem Rw.swap {W : World} {g o c : Nat} {d : Array Int} (h : Rw W g o d c) {i j : Nat} (hi : i < d.size) (hj : j < d.size) : Rw ((W.setCell ⟨g, o + i, none⟩ (.int .u64 d[j]!)).setCell ⟨g, o + j, none⟩ (.int .u64 d[i]!)) g o (swp d i j) c :=
  (h.set hi d[j]!).set (by simpa using hj) d[i]!
theorem grownBy_drew (W : World) (r : Option Nat) : W.grownBy W.drew r := ⟨rfl, rfl, rfl, Nat.le_refl _, fun _ _ _ => rfl⟩
theorem grownBy_set {W W' : World} {g : Nat} (h : W.grownBy W' (some g)) (i : Nat) (x : Value) : W.grownBy (W'.setCell ⟨g, i, none⟩ x) (some g) :=
  ⟨h.os, h.tape, h.output, by have := h.size; simpa [World.setCell] using this, fun k hk hr => (Below.heap_setCell W' _ _ k (fun e => hr (by rw [e]))).trans (h.block k hk hr)⟩
theorem grownBy_refl (W : World) (r : Option Nat) : W.grownBy W r := ⟨rfl, rfl, rfl, Nat.le_refl _, fun _ _ _ => rfl⟩
theorem grownBy_drewN {W W' : World} {r : Option Nat} (h : W.grownBy W' r) (n : Nat) : W.grownBy (W'.drewN n) r := ⟨h.os, h.tape, h.output, h.size, h.block⟩

/-- The row sorted. -/
def Srt (W : World) (g : Nat) (d : Array Int) (c : Nat) (w' : World) : Prop :=
  ∃ d' : Array Int, Rw w' g 0 d' c ∧ d'.toList.Perm d.toList ∧ d'.toList.Pairwise (· ≤ ·) ∧ W.grownBy w' (some g)
/-- slices.Sort of rows of at most N. -/
def SortOk (N : Nat) : Prop := ∀ (g c : Nat) (d : Array Int) (W : World), Rw W g 0 d c → d.toList.Nodup → d.size ≤ N →
  Calls Try.prog 23 #[.slice (some ⟨g, 0, none⟩) d.size c] W fun e w' => e = .returned (.tuple #[]) ∧ Srt W g d c w'
def SortNil : Prop := ∀ (W : World),
  Calls Try.prog 23 #[.slice none 0 0] W fun e w' => e = .returned (.tuple #[]) ∧ W = w'

theorem rw_owns {W : World} {base g len c : Nat} {ss : List Int} (h : W.ownsRow base 33 1 (.slice (some ⟨g, 0, none⟩) len c) ss.length (ss.map (Value.int .u64))) : Rw W g 0 ss.toArray c ∧ base ≤ g ∧ len = ss.length ∧ ss.length ≤ c ∧ c ≤ maxLen := by
  obtain ⟨_, ⟨h1, _⟩ | ⟨g', cap', cur, h1, hb, hh, hn, hc, hs, ht⟩⟩ := h
  · cases h1
  · injection h1 with e1 e2 e3
    have e4 : g = g' := by cases e1; rfl
    subst e4; subst e2; subst e3
    refine ⟨⟨cur, hh, by omega, by simpa using hn, fun i hi => ?_⟩, hb, rfl, hn, hc⟩
    have hi' : i < ss.length := by simpa using hi
    have h2 : (cur.toList.take (ss.length * 1))[i]? = (ss.map (Value.int .u64))[i]? := by rw [ht]
    rw [List.getElem?_take_of_lt (by omega), Array.getElem?_toList] at h2
    rw [Nat.zero_add, h2]
    simp [hi']
theorem owns_rw {W : World} {base g c : Nat} {d : Array Int} (h : Rw W g 0 d c) (hb : base ≤ g) (hc : c ≤ maxLen) : W.ownsRow base 33 1 (.slice (some ⟨g, 0, none⟩) d.toList.length c) d.toList.length (d.toList.map (Value.int .u64)) := by
  obtain ⟨cur, h1, h2, h3, h4⟩ := h
  refine ⟨by simp, .inr ⟨g, c, cur, rfl, hb, h1, by simpa using h3, hc, by omega, ?_⟩⟩
  apply List.ext_getElem?
  intro j
  by_cases hj : j < d.size
  · have h5 := h4 j hj
    rw [Nat.zero_add] at h5
    rw [List.getElem?_take_of_lt (by simpa using hj), Array.getElem?_toList, h5]
    simp [hj]
  · rw [List.getElem?_take_eq_none (by simp; omega), List.getElem?_eq_none (by simp; omega)]
end Go.Proofs.Ytacjdgglfeemcaa
