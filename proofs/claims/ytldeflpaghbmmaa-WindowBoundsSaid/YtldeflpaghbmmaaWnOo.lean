/-
  A SLICE OF CALLS: how it lies; how one that came in is opened.
-/
import Derived.Test.YtldeflpaghbmmaaWnOw
import Derived.Test.YtldeflpaghbmmaaWnAo
namespace Go.Proofs.Ytldeflpaghbmmaa.Oo_
open Go.ChangeShapes Go.WideShapes Go.RowKit Go.Deep Go.Wn

/-- A call and its numbers. -/
abbrev Ot := Oq × List Int
instance : Inhabited Oq := ⟨⟨0, 0, 0, 0, none, 0, 0, 0⟩⟩
/-- They lie behind the address. -/
def At (W : World) (sa : Option Addr) (l : List Ot) : Prop :=
  ∀ i (h : i < l.length), ∃ b off, sa = some ⟨b, off, none⟩ ∧ b < W.heap.size ∧ (∀ j, j < 6 → W.cell? ⟨b, off + i * 6 + j, none⟩ = (Ow_.C l[i].1)[j]?) ∧ Wa_.Ao W l[i].1.a l[i].2
theorem At.below {W W' : World} {sa : Option Addr} {l : List Ot} (h : At W sa l) (hb : Below W.heap.size W W') : At W' sa l := by
  intro i hi
  obtain ⟨b, off, e, hl, h0, h1⟩ := h i hi
  exact ⟨b, off, e, Nat.lt_of_lt_of_le hl hb.size, fun j hj => (hb.cell hl).trans (h0 j hj), h1.below hb⟩

section opening
variable {H : Type} {enc : TypeId × Value → H} {W : World} {b0 : Nat} {sp : Nat → Bool} {held : Bool}
theorem fields : ∃ f0 f1 f2 : Field, Try.prog.underlying 68 = some (.struct #[f0, f1, f2]) ∧ f0.type = 3 ∧ f1.type = 3 ∧ f2.type = 50 ∧
    f0.offset = 0 ∧ f1.offset = 1 ∧ f2.offset = 2 := ⟨_, _, _, Try.underlying68, rfl, rfl, rfl, rfl, rfl, rfl⟩
theorem cellsAll : Try.prog.cellsOf 68 = 6 := by kernel_rfl

set_option maxRecDepth 100000 in
set_option maxHeartbeats 1000000 in
/-- The cells of a call. -/
theorem op_cells {fuel : Nat} {cl : List Value} {y : DataW H × List MemPlace} (hf : DataW.trod enc Try.prog W 0 sp held fuel 68 cl = some y) :
    ∃ (x : Ot), cl = (Ow_.C x.1).toList ∧ Wa_.Ao W x.1.a x.2 := by
  obtain ⟨f0, f1, f2, hu, t0, t1, t2, o0, o1, o2⟩ := fields
  obtain ⟨xs, m, _, _, hl, hn, hf⟩ := DataW.trod_struct hu hf
  rw [cellsAll] at hl
  have ex : ∀ i, i < 3 → ∃ y, xs[i]? = some y := fun i hi => ⟨_, List.getElem?_eq_getElem (by rw [hn]; exact hi)⟩
  obtain ⟨y0, e0⟩ := ex 0 (by omega)
  obtain ⟨y1, e1⟩ := ex 1 (by omega)
  obtain ⟨y2, e2⟩ := ex 2 (by omega)
  have g0 := hf 0 f0 rfl
  have g1 := hf 1 f1 rfl
  have g2 := hf 2 f2 rfl
  rw [e0, t0, o0, Wa_.cellsOf0] at g0
  rw [e1, t1, o1, Wa_.cellsOf0] at g1
  rw [e2, t2, o2, Wa_.cellsAll] at g2
  obtain ⟨a0, c0, -, w0⟩ := DataW.trod_int Try.underlying3 g0
  obtain ⟨a1, c1, -, w1⟩ := DataW.trod_int Try.underlying3 g1
  obtain ⟨x, Q, c2, hA⟩ := Wa_.ans_cells g2
  match cl, hl with
  | [z0, z1, z2, z3, z4, z5], _ =>
    simp [Aw_.C] at c0 c1 c2
    obtain ⟨q2, q3, q4, q5⟩ := c2
    subst c0 c1 q2 q3 q4 q5
    exact ⟨(⟨a0, a1, x.st, x.m, x.sa, x.n, x.c, x.lim⟩, Q), rfl, hA⟩

set_option maxRecDepth 100000 in
/-- A slice of calls. -/
theorem open_all {u : Value} {d : DataW H} {ps : List MemPlace} (hv : Value.okWide Try.prog W .any b0 65 u) (hd : DataW.Trod enc Try.prog W 0 sp held 65 u d ps) :
    ∃ (sa : Option Addr) (l : List Ot) (c : Nat), u = .slice sa l.length c ∧ At W sa l ∧ l.length ≤ c := by
  obtain ⟨sa, len, c, rfl⟩ := okWide_slice Try.underlying65 hv
  obtain ⟨fuel, hf⟩ := hd
  rcases open_slice Try.underlying65 hf with ⟨hcs, -⟩ | ⟨a, len', cap, m, n, D, Pl, hcs, -, hl, hml, hm, -, hel⟩
  · simp [Value.cells] at hcs
    obtain ⟨rfl, rfl, rfl⟩ := hcs
    exact ⟨none, [], 0, rfl, fun i hi => absurd hi (Nat.not_lt_zero i), Nat.le_refl _⟩
  · simp [Value.cells] at hcs
    obtain ⟨rfl, rfl, rfl⟩ := hcs
    have hle : len ≤ m := by rw [hm]; split <;> omega
    have key : ∀ i, i < len → ∃ x : Ot, ∃ b off, a = ⟨b, off, none⟩ ∧ b < W.heap.size ∧ (∀ j, j < 6 → W.cell? ⟨b, off + i * 6 + j, none⟩ = (Ow_.C x.1)[j]?) ∧ Wa_.Ao W x.1.a x.2 := by
      intro i hi
      obtain ⟨cs', h1, h2⟩ := hel i (by omega)
      obtain ⟨cs0, h10, h20⟩ := hel 0 (by omega)
      obtain ⟨x0, rfl, -⟩ := op_cells h20
      obtain ⟨x, rfl, hA⟩ := op_cells h2
      obtain ⟨-, -, hc⟩ := World.cells?_some h1
      obtain ⟨-, -, hc0⟩ := World.cells?_some h10
      rw [cellsAll] at hc hc0
      obtain ⟨b, off, spot⟩ := a
      have hspot : spot = none := by
        have := hc0 0 (by omega)
        exact World.cell?_spot (a := ⟨b, off, spot⟩) (v := .int .i64 x0.1.kd) (by simpa [Addr.add, Ow_.C] using this)
      subst hspot
      have ad : ∀ j, ((⟨b, off, none⟩ : Addr).add (i * 6)).add j = ⟨b, off + i * 6 + j, none⟩ := fun j => by
        unfold Addr.add; split <;> split <;> simp_all
      have g : ∀ j, j < 6 → W.cell? ⟨b, off + i * 6 + j, none⟩ = (Ow_.C x.1)[j]? := fun j hj => by rw [← ad, hc j hj]; simp
      exact ⟨x, b, off, rfl, World.block_lt_of_cell? _ _ ((g 0 (by omega)).trans rfl), g, hA⟩
    obtain ⟨O, hO⟩ := choose_lt (α := Ot) (n := len) (p := fun i x => ∃ b off, a = ⟨b, off, none⟩ ∧ b < W.heap.size ∧ (∀ j, j < 6 → W.cell? ⟨b, off + i * 6 + j, none⟩ = (Ow_.C x.1)[j]?) ∧ Wa_.Ao W x.1.a x.2) key
    refine ⟨some a, (List.range len).map O, c, by simp, fun i hi => ?_, by rw [List.length_map, List.length_range]; omega⟩
    have hi' : i < len := by simpa using hi
    obtain ⟨b, off, ha, hlt, q0, q1⟩ := hO i hi'
    refine ⟨b, off, by rw [ha], hlt, ?_, ?_⟩
    · simpa using q0
    · simpa using q1
end opening
end Go.Proofs.Ytldeflpaghbmmaa.Oo_
