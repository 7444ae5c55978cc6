/-
  HOW A STATE AND AN ANSWER THAT CAME IN ARE OPENED.
-/
import Derived.Test.YtldeflpaghbmmaaWnLives
import Derived.OpenShut
import Derived.ProofKit
namespace Go.Proofs.Ytldeflpaghbmmaa.Wo_
open Go.ChangeShapes Go.WideShapes Go.RowKit Go.Deep Go.Wn

section opening
variable {H : Type} {enc : TypeId × Value → H} {W : World} {b0 : Nat} {sp : Nat → Bool} {held : Bool}

set_option maxRecDepth 100000 in
/-- The cells of a slice of packets. -/
theorem slice_cells {fuel : Nat} {cl : List Value} {y : DataW H × List MemPlace} (hf : DataW.trod enc Try.prog W 0 sp held fuel 22 cl = some y) :
    ∃ (sa : Option Addr) (l : List Sn) (c : Nat), cl = [.slice sa l.length c] ∧ Sn_.Sl W sa l c ∧ l.length ≤ maxLen := by
  rcases open_slice Try.underlying22 hf with ⟨hcs, -⟩ | ⟨a, len, cap, m, n, D, Pl, hcs, -, hl, hml, hm, -, hel⟩
  · exact ⟨none, [], 0, hcs, Sn_.Sl.none _, Nat.zero_le _⟩
  · have hle : len ≤ m := by rw [hm]; split <;> omega
    have key : ∀ i, i < len → ∃ x : Sn, ∃ b off, a = ⟨b, off, none⟩ ∧ b < W.heap.size ∧ W.cell? ⟨b, off + i * 5, none⟩ = some (.int .i64 x.id) ∧ W.cell? ⟨b, off + i * 5 + 1, none⟩ = some (.int .i64 x.q) ∧ W.cell? ⟨b, off + i * 5 + 2, none⟩ = some (.int .i64 x.tr) ∧ W.cell? ⟨b, off + i * 5 + 3, none⟩ = some (.bool x.dn) ∧ W.cell? ⟨b, off + i * 5 + 4, none⟩ = some (.string x.da) := by
      intro i hi
      obtain ⟨cs', h1, h2⟩ := hel i (by omega)
      obtain ⟨cs0, h10, h20⟩ := hel 0 (by omega)
      obtain ⟨x0, rfl, -⟩ := Sn_.cells h20
      obtain ⟨x, rfl, hw⟩ := Sn_.cells h2
      obtain ⟨-, -, hc⟩ := World.cells?_some h1
      obtain ⟨-, -, hc0⟩ := World.cells?_some h10
      rw [Sn_.cellsAll] at hc hc0
      obtain ⟨b, off, spot⟩ := a
      have hspot : spot = none := by
        have := hc0 0 (by omega)
        exact World.cell?_spot (a := ⟨b, off, spot⟩) (v := .int .i64 x0.id) (by simpa [Addr.add, Sn_.cs] using this)
      subst hspot
      have ad : ∀ j, ((⟨b, off, none⟩ : Addr).add (i * 5)).add j = ⟨b, off + i * 5 + j, none⟩ := fun j => by
        unfold Addr.add; split <;> split <;> simp_all
      have g : ∀ j, j < 5 → W.cell? ⟨b, off + i * 5 + j, none⟩ = (Sn_.cs x)[j]? := fun j hj => by rw [← ad]; exact hc j hj
      have g0 := g 0 (by omega)
      exact ⟨x, b, off, rfl, World.block_lt_of_cell? _ _ g0, g0, g 1 (by omega), g 2 (by omega), g 3 (by omega), g 4 (by omega)⟩
    obtain ⟨O, hO⟩ := choose_lt (α := Sn) (n := len) (p := fun i x => ∃ b off, a = ⟨b, off, none⟩ ∧ b < W.heap.size ∧ W.cell? ⟨b, off + i * 5, none⟩ = some (.int .i64 x.id) ∧ W.cell? ⟨b, off + i * 5 + 1, none⟩ = some (.int .i64 x.q) ∧ W.cell? ⟨b, off + i * 5 + 2, none⟩ = some (.int .i64 x.tr) ∧ W.cell? ⟨b, off + i * 5 + 3, none⟩ = some (.bool x.dn) ∧ W.cell? ⟨b, off + i * 5 + 4, none⟩ = some (.string x.da)) key
    refine ⟨some a, (List.range len).map O, cap, by simpa using hcs, ⟨fun i hi => ?_, by rw [List.length_map, List.length_range]; omega, fun h => absurd h (by simp)⟩, by rw [List.length_map, List.length_range]; omega⟩
    have hi' : i < len := by simpa using hi
    obtain ⟨b, off, ha, hlt, q0, q1, q2, q3, q4⟩ := hO i hi'
    refine ⟨b, off, by rw [ha], ?_⟩
    simpa using And.intro hlt ⟨q0, q1, q2, q3, q4⟩

theorem fields : ∃ f0 f1 f2 f3 : Field, Try.prog.underlying 24 = some (.struct #[f0, f1, f2, f3]) ∧ f0.type = 3 ∧ f1.type = 3 ∧ f2.type = 22 ∧ f3.type = 4 ∧
    f0.offset = 0 ∧ f1.offset = 1 ∧ f2.offset = 2 ∧ f3.offset = 3 := ⟨_, _, _, _, Try.underlying24, rfl, rfl, rfl, rfl, rfl, rfl, rfl, rfl⟩
theorem cellsAll : Try.prog.cellsOf 24 = 4 := by kernel_rfl
theorem cellsOf0 : Try.prog.cellsOf 3 = 1 := by kernel_rfl
theorem cellsOf2 : Try.prog.cellsOf 22 = 1 := by kernel_rfl
theorem cellsOf3 : Try.prog.cellsOf 4 = 1 := by kernel_rfl

set_option maxRecDepth 100000 in
set_option maxHeartbeats 1000000 in
/-- A state by value. -/
theorem open_one {u : Value} {d : DataW H} {ps : List MemPlace} (hv : Value.okWide Try.prog W .any b0 24 u) (hd : DataW.Trod enc Try.prog W 0 sp held 24 u d ps) :
    ∃ (x : Wn) (s : St), u = Wv_.v x ∧ Lies W x s := by
  obtain ⟨f0, f1, f2, f3, hu, t0, t1, t2, t3, o0, o1, o2, o3⟩ := fields
  obtain ⟨cl, rfl, hsz⟩ := okWide_struct hu hv
  obtain ⟨fuel, hd'⟩ := hd
  obtain ⟨xs, m, _, _, hl, hn, hf⟩ := DataW.trod_struct hu hd'
  rw [cellsAll] at hl
  simp only [Value.cells] at hl hf
  have ex : ∀ i, i < 4 → ∃ y, xs[i]? = some y := fun i hi => ⟨_, List.getElem?_eq_getElem (by rw [hn]; exact hi)⟩
  obtain ⟨y0, e0⟩ := ex 0 (by omega)
  obtain ⟨y1, e1⟩ := ex 1 (by omega)
  obtain ⟨y2, e2⟩ := ex 2 (by omega)
  obtain ⟨y3, e3⟩ := ex 3 (by omega)
  have g0 := hf 0 f0 rfl
  have g1 := hf 1 f1 rfl
  have g2 := hf 2 f2 rfl
  have g3 := hf 3 f3 rfl
  rw [e0, t0, o0, cellsOf0] at g0
  rw [e1, t1, o1, cellsOf0] at g1
  rw [e2, t2, o2, cellsOf2] at g2
  rw [e3, t3, o3, cellsOf3] at g3
  obtain ⟨a0, c0, -, w0⟩ := DataW.trod_int Try.underlying3 g0
  obtain ⟨a1, c1, -, w1⟩ := DataW.trod_int Try.underlying3 g1
  obtain ⟨sa, l, c, c2, hs, -⟩ := slice_cells g2
  obtain ⟨a3, c3, -⟩ := DataW.trod_bool Try.underlying4 g3
  obtain ⟨cl'⟩ := cl
  simp only at hl c0 c1 c2 c3
  match cl', hl with
  | [z0, z1, z2, z3], _ =>
    simp at c0 c1 c2 c3
    subst c0 c1 c2 c3
    exact ⟨⟨a0, a1, sa, l.length, c, a3⟩, ⟨a0, a1, l, a3⟩, rfl, ⟨rfl, rfl, rfl, rfl, hs⟩⟩
end opening
end Go.Proofs.Ytldeflpaghbmmaa.Wo_
