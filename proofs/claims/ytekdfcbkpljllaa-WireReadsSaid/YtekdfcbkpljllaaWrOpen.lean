/-
  WHAT COMES IN, opened: a call by value, a slice of calls.
-/
import Derived.Test.YtekdfcbkpljllaaWrOps
import Derived.OpenShut
import Derived.ProofKit
import Derived.Deep.Slices
namespace Go.Proofs.Ytekdfcbkpljllaa
open Go.ChangeShapes Go.WideShapes Go.RowKit Go.Deep

instance : Inhabited Opr := ⟨⟨0, 0, 0, ⟨#[]⟩, 0⟩⟩

theorem opFields : ∃ f0 f1 f2 f3 f4 : Field, Try.prog.underlying 32 = some (.struct #[f0, f1, f2, f3, f4]) ∧ f0.type = 3 ∧ f1.type = 3 ∧ f2.type = 3 ∧ f3.type = 9 ∧ f4.type = 25 ∧
    f0.offset = 0 ∧ f1.offset = 1 ∧ f2.offset = 2 ∧ f3.offset = 3 ∧ f4.offset = 4 := ⟨_, _, _, _, _, Try.underlying32, rfl, rfl, rfl, rfl, rfl, rfl, rfl, rfl, rfl, rfl⟩
theorem cellsOp : Try.prog.cellsOf 32 = 5 := by kernel_rfl
theorem cellsInt : Try.prog.cellsOf 3 = 1 := by kernel_rfl
theorem cellsStr : Try.prog.cellsOf 9 = 1 := by kernel_rfl
theorem cellsErr : Try.prog.cellsOf 25 = 1 := by kernel_rfl

section
variable {H : Type} {enc : TypeId × Value → H} {W : World} {base b0 : Nat} {sp : Nat → Bool} {held : Bool}

/-- A call's five cells. -/
theorem op_cells {fuel : Nat} {cs : List Value} {x : DataW H × List MemPlace} (h : DataW.trod enc Try.prog W base sp held fuel 32 cs = some x) :
    ∃ o : Opr, cs = [.int .i64 o.k, .int .i64 o.n, .int .i64 o.z, .string o.t, .int .i64 o.e] := by
  obtain ⟨f0, f1, f2, f3, f4, hu, t0, t1, t2, t3, t4, o0, o1, o2, o3, o4⟩ := opFields
  obtain ⟨xs, n, _, _, hl, hn, hf⟩ := DataW.trod_struct hu h
  rw [cellsOp] at hl
  have ex : ∀ i, i < 5 → ∃ y, xs[i]? = some y := fun i hi => ⟨_, List.getElem?_eq_getElem (by rw [hn]; exact hi)⟩
  have g0 := hf 0 f0 rfl
  have g1 := hf 1 f1 rfl
  have g2 := hf 2 f2 rfl
  have g3 := hf 3 f3 rfl
  have g4 := hf 4 f4 rfl
  obtain ⟨y0, e0⟩ := ex 0 (by omega)
  obtain ⟨y1, e1⟩ := ex 1 (by omega)
  obtain ⟨y2, e2⟩ := ex 2 (by omega)
  obtain ⟨y3, e3⟩ := ex 3 (by omega)
  obtain ⟨y4, e4⟩ := ex 4 (by omega)
  rw [e0, t0, o0, cellsInt] at g0
  rw [e1, t1, o1, cellsInt] at g1
  rw [e2, t2, o2, cellsInt] at g2
  rw [e3, t3, o3, cellsStr] at g3
  rw [e4, t4, o4, cellsErr] at g4
  obtain ⟨k, c0, -⟩ := DataW.trod_int Try.underlying3 g0
  obtain ⟨m, c1, -⟩ := DataW.trod_int Try.underlying3 g1
  obtain ⟨z, c2, -⟩ := DataW.trod_int Try.underlying3 g2
  obtain ⟨s, c3, -⟩ := DataW.trod_string Try.underlying9 g3
  obtain ⟨e, c4, -⟩ := DataW.trod_int Try.underlying25 g4
  match cs, hl with
  | [a, b, c, d, f], _ =>
    simp at c0 c1 c2 c3 c4
    exact ⟨⟨k, m, z, s, e⟩, by simp [c0, c1, c2, c3, c4]⟩

/-- A call by value. -/
theorem open_op {v : Value} {d : DataW H} {ps : List MemPlace} (hv : Value.okWide Try.prog W .any b0 32 v) (hd : DataW.Trod enc Try.prog W base sp held 32 v d ps) :
    ∃ o : Opr, v = .agg #[.int .i64 o.k, .int .i64 o.n, .int .i64 o.z, .string o.t, .int .i64 o.e] := by
  obtain ⟨f0, f1, f2, f3, f4, hu, _⟩ := opFields
  obtain ⟨cs, rfl, hsz⟩ := okWide_struct hu hv
  obtain ⟨fuel, hf⟩ := hd
  obtain ⟨o, ho⟩ := op_cells hf
  refine ⟨o, ?_⟩
  simp only [Value.cells] at ho
  congr 1
  rw [← ho]

/-- A slice of calls. -/
theorem open_ops {v : Value} {d : DataW H} {ps : List MemPlace} (hv : Value.okWide Try.prog W .any b0 22 v) (hd : DataW.Trod enc Try.prog W 0 sp held 22 v d ps) :
    ∃ (sa : Option Addr) (ops : List Opr) (c : Nat), v = .slice sa ops.length c ∧ OpsAt W sa ops := by
  obtain ⟨sa, len, c, rfl⟩ := okWide_slice Try.underlying22 hv
  obtain ⟨fuel, hf⟩ := hd
  rcases open_slice Try.underlying22 hf with ⟨hcs, -⟩ | ⟨a, len', cap, m, n, D, Pl, hcs, -, hl, -, hm, -, hel⟩
  · simp [Value.cells] at hcs
    obtain ⟨rfl, rfl, rfl⟩ := hcs
    exact ⟨none, [], 0, rfl, fun i hi => absurd hi (by simp)⟩
  · simp [Value.cells] at hcs
    obtain ⟨rfl, rfl, rfl⟩ := hcs
    have hle : len ≤ m := by rw [hm]; split <;> omega
    have key : ∀ i, i < len → ∃ o : Opr, ∃ b off, a = ⟨b, off, none⟩ ∧ b < W.heap.size ∧ W.cell? ⟨b, off + i * 5, none⟩ = some (.int .i64 o.k) ∧ W.cell? ⟨b, off + i * 5 + 1, none⟩ = some (.int .i64 o.n) ∧
        W.cell? ⟨b, off + i * 5 + 2, none⟩ = some (.int .i64 o.z) ∧ W.cell? ⟨b, off + i * 5 + 3, none⟩ = some (.string o.t) ∧ W.cell? ⟨b, off + i * 5 + 4, none⟩ = some (.int .i64 o.e) := by
      intro i hi
      obtain ⟨cs', h1, h2⟩ := hel i (by omega)
      obtain ⟨cs0, h10, h20⟩ := hel 0 (by omega)
      obtain ⟨o0, rfl⟩ := op_cells h20
      obtain ⟨o, rfl⟩ := op_cells h2
      obtain ⟨-, -, hc⟩ := World.cells?_some h1
      obtain ⟨-, -, hc0⟩ := World.cells?_some h10
      rw [cellsOp] at hc hc0
      obtain ⟨b, off, spot⟩ := a
      have hspot : spot = none := by
        have := hc0 0 (by omega)
        exact World.cell?_spot (a := ⟨b, off, spot⟩) (v := .int .i64 o0.k) (by simpa [Addr.add] using this)
      subst hspot
      have ad : ∀ j, ((⟨b, off, none⟩ : Addr).add (i * 5)).add j = ⟨b, off + i * 5 + j, none⟩ := fun j => by
        unfold Addr.add; split <;> split <;> simp_all
      have g : ∀ j, j < 5 → W.cell? ⟨b, off + i * 5 + j, none⟩ = [Value.int .i64 o.k, .int .i64 o.n, .int .i64 o.z, .string o.t, .int .i64 o.e][j]? := fun j hj => by rw [← ad]; exact hc j hj
      have g0 := g 0 (by omega)
      exact ⟨o, b, off, rfl, World.block_lt_of_cell? _ _ g0, g0, g 1 (by omega), g 2 (by omega), g 3 (by omega), g 4 (by omega)⟩
    obtain ⟨O, hO⟩ := choose_lt (α := Opr) (n := len) (p := fun i o => ∃ b off, a = ⟨b, off, none⟩ ∧ b < W.heap.size ∧ W.cell? ⟨b, off + i * 5, none⟩ = some (.int .i64 o.k) ∧ W.cell? ⟨b, off + i * 5 + 1, none⟩ = some (.int .i64 o.n) ∧
        W.cell? ⟨b, off + i * 5 + 2, none⟩ = some (.int .i64 o.z) ∧ W.cell? ⟨b, off + i * 5 + 3, none⟩ = some (.string o.t) ∧ W.cell? ⟨b, off + i * 5 + 4, none⟩ = some (.int .i64 o.e)) key
    refine ⟨some a, (List.range len).map O, c, by simp, fun i hi => ?_⟩
    have hi' : i < len := by simpa using hi
    obtain ⟨b, off, ha, hr⟩ := hO i hi'
    refine ⟨b, off, by rw [ha], ?_⟩
    simpa using hr
end
end Go.Proofs.Ytekdfcbkpljllaa
