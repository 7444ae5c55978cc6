/-
  HOW A BEACON THAT CAME IN IS OPENED; the table of the known IDs as the row lays it.
-/
import Derived.Test.YtojiffpmmgjpjaaDoorBnKn
import Derived.Test.YtojiffpmmgjpjaaDoorTmAt
import Derived.OpenShut
import Derived.LaidMore
import Derived.Lib.LaidTab
namespace Go.Proofs.YtojiffpmmgjpjaaDoor.Bn_
open Go.ChangeShapes Go.WideShapes Go.RowKit Go.Deep Go.Bn

theorem prFields : ∃ f0 f1 f2 f3 : Field, Tryd.prog.underlying 28 = some (.struct #[f0, f1, f2, f3]) ∧ f0.type = 3 ∧ f1.type = 3 ∧ f2.type = 3 ∧ f3.type = 3 ∧
    f0.offset = 0 ∧ f1.offset = 1 ∧ f2.offset = 2 ∧ f3.offset = 3 := ⟨_, _, _, _, Tryd.underlying28, rfl, rfl, rfl, rfl, rfl, rfl, rfl, rfl⟩
theorem prCellsAll : Tryd.prog.cellsOf 28 = 4 := by kernel_rfl
theorem prCellsOf0 : Tryd.prog.cellsOf 3 = 1 := by kernel_rfl
theorem swFields : ∃ f0 f1 : Field, Tryd.prog.underlying 26 = some (.struct #[f0, f1]) ∧ f0.type = 3 ∧ f1.type = 3 ∧
    f0.offset = 0 ∧ f1.offset = 1 := ⟨_, _, Tryd.underlying26, rfl, rfl, rfl, rfl⟩
theorem swCellsAll : Tryd.prog.cellsOf 26 = 2 := by kernel_rfl
theorem swCellsOf0 : Tryd.prog.cellsOf 3 = 1 := by kernel_rfl

section opening
variable {H : Type} {enc : TypeId × Value → H} {W : World} {base b0 : Nat} {sp : Nat → Bool} {held : Bool}

set_option maxRecDepth 100000 in
/-- The prCells of one that came in. -/
theorem prCells {fuel : Nat} {cl : List Value} {x : DataW H × List MemPlace} (h : DataW.trod enc Tryd.prog W base sp held fuel 28 cl = some x) :
    ∃ x : Pr, cl = (PC x).toList := by
  obtain ⟨f0, f1, f2, f3, hu, t0, t1, t2, t3, o0, o1, o2, o3⟩ := prFields
  obtain ⟨xs, m, _, _, hl, hn, hf⟩ := DataW.trod_struct hu h
  rw [prCellsAll] at hl
  have ex : ∀ i, i < 4 → ∃ y, xs[i]? = some y := fun i hi => ⟨_, List.getElem?_eq_getElem (by rw [hn]; exact hi)⟩
  have g0 := hf 0 f0 rfl
  have g1 := hf 1 f1 rfl
  have g2 := hf 2 f2 rfl
  have g3 := hf 3 f3 rfl
  obtain ⟨y0, e0⟩ := ex 0 (by omega)
  obtain ⟨y1, e1⟩ := ex 1 (by omega)
  obtain ⟨y2, e2⟩ := ex 2 (by omega)
  obtain ⟨y3, e3⟩ := ex 3 (by omega)
  rw [e0, t0, o0, prCellsOf0] at g0
  rw [e1, t1, o1, prCellsOf0] at g1
  rw [e2, t2, o2, prCellsOf0] at g2
  rw [e3, t3, o3, prCellsOf0] at g3
  obtain ⟨a0, c0, -, -⟩ := DataW.trod_int Tryd.underlying3 g0
  obtain ⟨a1, c1, -, -⟩ := DataW.trod_int Tryd.underlying3 g1
  obtain ⟨a2, c2, -, -⟩ := DataW.trod_int Tryd.underlying3 g2
  obtain ⟨a3, c3, -, -⟩ := DataW.trod_int Tryd.underlying3 g3
  match cl, hl with
  | [z0, z1, z2, z3], _ =>
    simp at c0 c1 c2 c3
    exact ⟨⟨a0, a1, a2, a3⟩, by simp [PC, c0, c1, c2, c3]⟩
set_option maxRecDepth 100000 in
/-- The swCells of one that came in. -/
theorem swCells {fuel : Nat} {cl : List Value} {x : DataW H × List MemPlace} (h : DataW.trod enc Tryd.prog W base sp held fuel 26 cl = some x) :
    ∃ c n : Int, cl = (SC c n).toList := by
  obtain ⟨f0, f1, hu, t0, t1, o0, o1⟩ := swFields
  obtain ⟨xs, m, _, _, hl, hn, hf⟩ := DataW.trod_struct hu h
  rw [swCellsAll] at hl
  have ex : ∀ i, i < 2 → ∃ y, xs[i]? = some y := fun i hi => ⟨_, List.getElem?_eq_getElem (by rw [hn]; exact hi)⟩
  have g0 := hf 0 f0 rfl
  have g1 := hf 1 f1 rfl
  obtain ⟨y0, e0⟩ := ex 0 (by omega)
  obtain ⟨y1, e1⟩ := ex 1 (by omega)
  rw [e0, t0, o0, swCellsOf0] at g0
  rw [e1, t1, o1, swCellsOf0] at g1
  obtain ⟨a0, c0, -, -⟩ := DataW.trod_int Tryd.underlying3 g0
  obtain ⟨a1, c1, -, -⟩ := DataW.trod_int Tryd.underlying3 g1
  match cl, hl with
  | [z0, z1], _ =>
    simp at c0 c1
    exact ⟨a0, a1, by simp [SC, c0, c1]⟩

theorem qCellsAll : Tryd.prog.cellsOf 29 = 16 := by kernel_rfl
theorem take_list {cl l : List Value} {a m : Nat} (h : (cl.drop a).take m = l) : ∀ j, j < l.length → cl[a + j]? = l[j]? := by
  intro j hj
  subst h
  rw [List.length_take] at hj
  rw [List.getElem?_take, if_pos (by omega), List.getElem?_drop]
set_option maxRecDepth 100000 in
/-- The cells of four parameters that came in. -/
theorem qCells {fuel : Nat} {cl : List Value} {x : DataW H × List MemPlace} (h : DataW.trod enc Tryd.prog W base sp held fuel 29 cl = some x) :
    ∃ p0 p1 p2 p3 : Pr, cl.length = 16 ∧ ∀ j, j < 16 → cl[j]? = (QC p0 p1 p2 p3)[j]? := by
  obtain ⟨xs, m, _, _, hl, hn, hf⟩ := DataW.trod_array Tryd.underlying29 h
  rw [qCellsAll] at hl
  have ex : ∀ i, i < 4 → ∃ y, xs[i]? = some y := fun i hi => ⟨_, List.getElem?_eq_getElem (by rw [hn]; exact hi)⟩
  have g : ∀ i, i < 4 → ∃ p : Pr, ∀ j, j < 4 → cl[i * 4 + j]? = (PC p).toList[j]? := fun i hi => by
    obtain ⟨y, hy⟩ := ex i hi
    have hi' := hf i hi
    rw [hy, prCellsAll] at hi'
    obtain ⟨p, hp⟩ := prCells hi'
    exact ⟨p, fun j hj => take_list hp j hj⟩
  obtain ⟨p0, h0⟩ := g 0 (by decide)
  obtain ⟨p1, h1⟩ := g 1 (by decide)
  obtain ⟨p2, h2⟩ := g 2 (by decide)
  obtain ⟨p3, h3⟩ := g 3 (by decide)
  refine ⟨p0, p1, p2, p3, hl, fun j hj => ?_⟩
  rcases (show j = 0 ∨ j = 1 ∨ j = 2 ∨ j = 3 ∨ j = 4 ∨ j = 5 ∨ j = 6 ∨ j = 7 ∨ j = 8 ∨ j = 9 ∨ j = 10 ∨ j = 11 ∨ j = 12 ∨ j = 13 ∨ j = 14 ∨ j = 15 by omega) with rfl | rfl | rfl | rfl | rfl | rfl | rfl | rfl | rfl | rfl | rfl | rfl | rfl | rfl | rfl | rfl
  · exact h0 0 (by decide)
  · exact h0 1 (by decide)
  · exact h0 2 (by decide)
  · exact h0 3 (by decide)
  · exact h1 0 (by decide)
  · exact h1 1 (by decide)
  · exact h1 2 (by decide)
  · exact h1 3 (by decide)
  · exact h2 0 (by decide)
  · exact h2 1 (by decide)
  · exact h2 2 (by decide)
  · exact h2 3 (by decide)
  · exact h3 0 (by decide)
  · exact h3 1 (by decide)
  · exact h3 2 (by decide)
  · exact h3 3 (by decide)

theorem bnFields : ∃ f0 f1 f2 f3 f4 f5 f6 f7 : Field, Tryd.prog.underlying 31 = some (.struct #[f0, f1, f2, f3, f4, f5, f6, f7]) ∧
    (f0.type = 3 ∧ f1.type = 3 ∧ f2.type = 9 ∧ f3.type = 3 ∧ f4.type = 3 ∧ f5.type = 24 ∧ f6.type = 26 ∧ f7.type = 29) ∧
    (f0.offset = 0 ∧ f1.offset = 1 ∧ f2.offset = 2 ∧ f3.offset = 3 ∧ f4.offset = 4 ∧ f5.offset = 5 ∧ f6.offset = 9 ∧ f7.offset = 11) :=
  ⟨_, _, _, _, _, _, _, _, Tryd.underlying31, ⟨rfl, rfl, rfl, rfl, rfl, rfl, rfl, rfl⟩, ⟨rfl, rfl, rfl, rfl, rfl, rfl, rfl, rfl⟩⟩
theorem bnCellsAll : Tryd.prog.cellsOf 31 = 27 := by kernel_rfl
theorem intCells : Tryd.prog.cellsOf 3 = 1 := by kernel_rfl
theorem strCells : Tryd.prog.cellsOf 9 = 1 := by kernel_rfl
theorem one_at {cl : List Value} {a : Nat} {v : Value} (h : (cl.drop a).take 1 = [v]) : cl[a]? = some v := by
  have := take_list h 0 (by simp)
  rwa [Nat.add_zero] at this
set_option maxRecDepth 100000 in
set_option maxHeartbeats 2000000 in
/-- A beacon by value. -/
theorem open_one {u : Value} {d : DataW H} {ps : List MemPlace} (hv : Value.okWide Tryd.prog W .any b0 31 u) (hd : DataW.Trod enc Tryd.prog W base sp held 31 u d ps) :
    ∃ x : Bn, u = v x ∧ TmW x.tm := by
  obtain ⟨f0, f1, f2, f3, f4, f5, f6, f7, hu, ⟨t0, t1, t2, t3, t4, t5, t6, t7⟩, ⟨o0, o1, o2, o3, o4, o5, o6, o7⟩⟩ := bnFields
  obtain ⟨cl, rfl, hsz⟩ := okWide_struct hu hv
  obtain ⟨fuel, hd'⟩ := hd
  obtain ⟨xs, m, _, _, hl, hn, hf⟩ := DataW.trod_struct hu hd'
  rw [bnCellsAll] at hl
  simp only [Value.cells] at hl hf
  have ex : ∀ i, i < 8 → ∃ y, xs[i]? = some y := fun i hi => ⟨_, List.getElem?_eq_getElem (by rw [hn]; exact hi)⟩
  obtain ⟨y0, e0⟩ := ex 0 (by omega)
  obtain ⟨y1, e1⟩ := ex 1 (by omega)
  obtain ⟨y2, e2⟩ := ex 2 (by omega)
  obtain ⟨y3, e3⟩ := ex 3 (by omega)
  obtain ⟨y4, e4⟩ := ex 4 (by omega)
  obtain ⟨y5, e5⟩ := ex 5 (by omega)
  obtain ⟨y6, e6⟩ := ex 6 (by omega)
  obtain ⟨y7, e7⟩ := ex 7 (by omega)
  have g0 := hf 0 f0 rfl
  have g1 := hf 1 f1 rfl
  have g2 := hf 2 f2 rfl
  have g3 := hf 3 f3 rfl
  have g4 := hf 4 f4 rfl
  have g5 := hf 5 f5 rfl
  have g6 := hf 6 f6 rfl
  have g7 := hf 7 f7 rfl
  rw [e0, t0, o0, intCells] at g0
  rw [e1, t1, o1, intCells] at g1
  rw [e2, t2, o2, strCells] at g2
  rw [e3, t3, o3, intCells] at g3
  rw [e4, t4, o4, intCells] at g4
  rw [e5, t5, o5, Tm_.cellsAll] at g5
  rw [e6, t6, o6, swCellsAll] at g6
  rw [e7, t7, o7, qCellsAll] at g7
  obtain ⟨a0, c0, -, -⟩ := DataW.trod_int Tryd.underlying3 g0
  obtain ⟨a1, c1, -, -⟩ := DataW.trod_int Tryd.underlying3 g1
  obtain ⟨a2, c2, -⟩ := DataW.trod_string Tryd.underlying9 g2
  obtain ⟨a3, c3, -, -⟩ := DataW.trod_int Tryd.underlying3 g3
  obtain ⟨a4, c4, -, -⟩ := DataW.trod_int Tryd.underlying3 g4
  obtain ⟨t, c5, -, -, hm⟩ := Tm_.cells g5
  obtain ⟨c, n, c6⟩ := swCells g6
  obtain ⟨p0, p1, p2, p3, -, c7⟩ := qCells g7
  have r5 := take_list c5
  have r6 := take_list c6
  have r7 : ∀ j, j < 16 → cl.toList[11 + j]? = (QC p0 p1 p2 p3)[j]? := fun j hj => by
    have := c7 j hj
    rwa [List.getElem?_take, if_pos hj, List.getElem?_drop] at this
  refine ⟨⟨a0, a1, a2, a3, a4, t, c, n, p0, p1, p2, p3⟩, ?_, ?_⟩
  · rw [v_agg]
    congr 1
    refine Array.ext' (List.ext_getElem? fun j => ?_)
    by_cases hj : j < 27
    · rcases (show j = 0 ∨ j = 1 ∨ j = 2 ∨ j = 3 ∨ j = 4 ∨ (5 ≤ j ∧ j < 9) ∨ (9 ≤ j ∧ j < 11) ∨ (11 ≤ j ∧ j < 27) by omega) with rfl | rfl | rfl | rfl | rfl | h | h | h
      · exact one_at c0
      · exact one_at c1
      · exact one_at c2
      · exact one_at c3
      · exact one_at c4
      · obtain ⟨k, rfl⟩ : ∃ k, j = 5 + k := ⟨j - 5, by omega⟩
        rw [r5 k (by show k < 4; omega)]
        rcases (show k = 0 ∨ k = 1 ∨ k = 2 ∨ k = 3 by omega) with rfl | rfl | rfl | rfl <;> rfl
      · obtain ⟨k, rfl⟩ : ∃ k, j = 9 + k := ⟨j - 9, by omega⟩
        rw [r6 k (by show k < 2; omega)]
        rcases (show k = 0 ∨ k = 1 by omega) with rfl | rfl <;> rfl
      · obtain ⟨k, rfl⟩ : ∃ k, j = 11 + k := ⟨j - 11, by omega⟩
        rw [r7 k (by omega)]
        rcases (show k = 0 ∨ k = 1 ∨ k = 2 ∨ k = 3 ∨ k = 4 ∨ k = 5 ∨ k = 6 ∨ k = 7 ∨ k = 8 ∨ k = 9 ∨ k = 10 ∨ k = 11 ∨ k = 12 ∨ k = 13 ∨ k = 14 ∨ k = 15 by omega) with rfl | rfl | rfl | rfl | rfl | rfl | rfl | rfl | rfl | rfl | rfl | rfl | rfl | rfl | rfl | rfl <;> rfl
    · rw [List.getElem?_eq_none (by omega), List.getElem?_eq_none (by show 27 ≤ j; omega)]
  · simp [Lit.wf, IntKind.min, IntKind.max, IntKind.signed, IntKind.bits] at hm
    exact ⟨by show 0 ≤ t.m; omega, by show t.m < _; omega⟩
end opening
end Go.Proofs.YtojiffpmmgjpjaaDoor.Bn_

namespace Go.Proofs.YtojiffpmmgjpjaaDoor
open Go.RowKit Go.Bn
abbrev LaidFacts (W : World) : Prop := KnTab W
theorem gKnown : Tryd.prog.globalNamed "airtime/beacon.known" = some 0 := by kernel_rfl
theorem gKnownType : (Tryd.prog.globals[0]?).map (·.type) = some 113 := by kernel_rfl
theorem laidFacts {W : World} (h : laidMetH Tryd.prog Rows.beaconReadsRow.laid W) : LaidFacts W := by
  rw [MakeChecks.laidMetH_plain _ _ _ (by kernel_rfl)] at h
  have t := Lib.tabIs_of_head (k := .i64) (zs := [0, 3, 5, 11, 12, 37]) gKnown gKnownType Tryd.underlying113 Tryd.underlying3 (by kernel_rfl) (by kernel_rfl) h
  have c : ∀ j : Nat, j < 6 → W.cell? ⟨0, j, none⟩ = some (.int .i64 (ids.getD j 0)) := fun j hj => t.cell gKnown j hj
  exact ⟨c, World.block_lt_of_cell? _ _ (c 0 (by decide))⟩
end Go.Proofs.YtojiffpmmgjpjaaDoor
