/-
  HOW A BODY THAT CAME IN IS OPENED.
-/
import Derived.Test.YtcpfkikifhcdmaaMgW2
import Derived.OpenShut
import Derived.LaidMore
namespace Go.Proofs.Ytcpfkikifhcdmaa.Bd_
open Go.ChangeShapes Go.WideShapes Go.RowKit Go.Deep Go.Mg

theorem plFields : ∃ f0 f1 f2 : Field, Try.prog.underlying 25 = some (.struct #[f0, f1, f2]) ∧ f0.type = 3 ∧ f1.type = 3 ∧ f2.type = 3 ∧
    f0.offset = 0 ∧ f1.offset = 1 ∧ f2.offset = 2 := ⟨_, _, _, Try.underlying25, rfl, rfl, rfl, rfl, rfl, rfl⟩
theorem plCellsAll : Try.prog.cellsOf 25 = 3 := by kernel_rfl
theorem intCells : Try.prog.cellsOf 3 = 1 := by kernel_rfl
theorem strCells : Try.prog.cellsOf 9 = 1 := by kernel_rfl
theorem adrCells : Try.prog.cellsOf 23 = 1 := by kernel_rfl

section opening
variable {H : Type} {enc : TypeId × Value → H} {W : World} {base b0 : Nat} {sp : Nat → Bool} {held : Bool}

theorem take_list {cl l : List Value} {a m : Nat} (h : (cl.drop a).take m = l) : ∀ j, j < l.length → cl[a + j]? = l[j]? := by
  intro j hj
  subst h
  rw [List.length_take] at hj
  rw [List.getElem?_take, if_pos (by omega), List.getElem?_drop]
theorem one_at {cl : List Value} {a : Nat} {v : Value} (h : (cl.drop a).take 1 = [v]) : cl[a]? = some v := by
  have := take_list h 0 (by simp)
  rwa [Nat.add_zero] at this
set_option maxRecDepth 100000 in
/-- The cells of a plan that came in. -/
theorem plCells {fuel : Nat} {cl : List Value} {x : DataW H × List MemPlace} (h : DataW.trod enc Try.prog W base sp held fuel 25 cl = some x) :
    ∃ a p l : Int, cl = (PC a p l).toList := by
  obtain ⟨f0, f1, f2, hu, t0, t1, t2, o0, o1, o2⟩ := plFields
  obtain ⟨xs, m, _, _, hl, hn, hf⟩ := DataW.trod_struct hu h
  rw [plCellsAll] at hl
  have ex : ∀ i, i < 3 → ∃ y, xs[i]? = some y := fun i hi => ⟨_, List.getElem?_eq_getElem (by rw [hn]; exact hi)⟩
  have g0 := hf 0 f0 rfl
  have g1 := hf 1 f1 rfl
  have g2 := hf 2 f2 rfl
  obtain ⟨y0, e0⟩ := ex 0 (by omega)
  obtain ⟨y1, e1⟩ := ex 1 (by omega)
  obtain ⟨y2, e2⟩ := ex 2 (by omega)
  rw [e0, t0, o0, intCells] at g0
  rw [e1, t1, o1, intCells] at g1
  rw [e2, t2, o2, intCells] at g2
  obtain ⟨a0, c0, -, -⟩ := DataW.trod_int Try.underlying3 g0
  obtain ⟨a1, c1, -, -⟩ := DataW.trod_int Try.underlying3 g1
  obtain ⟨a2, c2, -, -⟩ := DataW.trod_int Try.underlying3 g2
  match cl, hl with
  | [z0, z1, z2], _ =>
    simp at c0 c1 c2
    exact ⟨a0, a1, a2, by simp [PC, c0, c1, c2]⟩

theorem bdFields : ∃ f0 f1 f2 f3 f4 f5 f6 f7 f8 f9 f10 f11 f12 f13 f14 : Field, Try.prog.underlying 27 = some (.struct #[f0, f1, f2, f3, f4, f5, f6, f7, f8, f9, f10, f11, f12, f13, f14]) ∧
    (f0.type = 3 ∧ f1.type = 3 ∧ f2.type = 3 ∧ f3.type = 3 ∧ f4.type = 9 ∧ f5.type = 3 ∧ f6.type = 3 ∧ f7.type = 23 ∧ f8.type = 3 ∧ f9.type = 3 ∧ f10.type = 3 ∧ f11.type = 3 ∧ f12.type = 3 ∧ f13.type = 3 ∧ f14.type = 25) ∧
    (f0.offset = 0 ∧ f1.offset = 1 ∧ f2.offset = 2 ∧ f3.offset = 3 ∧ f4.offset = 4 ∧ f5.offset = 5 ∧ f6.offset = 6 ∧ f7.offset = 7 ∧ f8.offset = 8 ∧ f9.offset = 9 ∧ f10.offset = 10 ∧ f11.offset = 11 ∧ f12.offset = 12 ∧ f13.offset = 13 ∧ f14.offset = 14) :=
  ⟨_, _, _, _, _, _, _, _, _, _, _, _, _, _, _, Try.underlying27, ⟨rfl, rfl, rfl, rfl, rfl, rfl, rfl, rfl, rfl, rfl, rfl, rfl, rfl, rfl, rfl⟩, ⟨rfl, rfl, rfl, rfl, rfl, rfl, rfl, rfl, rfl, rfl, rfl, rfl, rfl, rfl, rfl⟩⟩
theorem bdCellsAll : Try.prog.cellsOf 27 = 17 := by kernel_rfl
set_option maxRecDepth 100000 in
set_option maxHeartbeats 2000000 in
/-- A body by value. -/
theorem open_one {u : Value} {d : DataW H} {ps : List MemPlace} (hv : Value.okWide Try.prog W .any b0 27 u) (hd : DataW.Trod enc Try.prog W base sp held 27 u d ps) :
    ∃ x : Bd, u = v x ∧ BdW x := by
  obtain ⟨f0, f1, f2, f3, f4, f5, f6, f7, f8, f9, f10, f11, f12, f13, f14, hu, ⟨t0, t1, t2, t3, t4, t5, t6, t7, t8, t9, t10, t11, t12, t13, t14⟩, ⟨o0, o1, o2, o3, o4, o5, o6, o7, o8, o9, o10, o11, o12, o13, o14⟩⟩ := bdFields
  obtain ⟨cl, rfl, hsz⟩ := okWide_struct hu hv
  obtain ⟨fuel, hd'⟩ := hd
  obtain ⟨xs, m, _, _, hl, hn, hf⟩ := DataW.trod_struct hu hd'
  rw [bdCellsAll] at hl
  simp only [Value.cells] at hl hf
  have ex : ∀ i, i < 15 → ∃ y, xs[i]? = some y := fun i hi => ⟨_, List.getElem?_eq_getElem (by rw [hn]; exact hi)⟩
  obtain ⟨y0, e0⟩ := ex 0 (by omega)
  obtain ⟨y1, e1⟩ := ex 1 (by omega)
  obtain ⟨y2, e2⟩ := ex 2 (by omega)
  obtain ⟨y3, e3⟩ := ex 3 (by omega)
  obtain ⟨y4, e4⟩ := ex 4 (by omega)
  obtain ⟨y5, e5⟩ := ex 5 (by omega)
  obtain ⟨y6, e6⟩ := ex 6 (by omega)
  obtain ⟨y7, e7⟩ := ex 7 (by omega)
  obtain ⟨y8, e8⟩ := ex 8 (by omega)
  obtain ⟨y9, e9⟩ := ex 9 (by omega)
  obtain ⟨y10, e10⟩ := ex 10 (by omega)
  obtain ⟨y11, e11⟩ := ex 11 (by omega)
  obtain ⟨y12, e12⟩ := ex 12 (by omega)
  obtain ⟨y13, e13⟩ := ex 13 (by omega)
  obtain ⟨y14, e14⟩ := ex 14 (by omega)
  have g0 := hf 0 f0 rfl
  have g1 := hf 1 f1 rfl
  have g2 := hf 2 f2 rfl
  have g3 := hf 3 f3 rfl
  have g4 := hf 4 f4 rfl
  have g5 := hf 5 f5 rfl
  have g6 := hf 6 f6 rfl
  have g7 := hf 7 f7 rfl
  have g8 := hf 8 f8 rfl
  have g9 := hf 9 f9 rfl
  have g10 := hf 10 f10 rfl
  have g11 := hf 11 f11 rfl
  have g12 := hf 12 f12 rfl
  have g13 := hf 13 f13 rfl
  have g14 := hf 14 f14 rfl
  rw [e0, t0, o0, intCells] at g0
  rw [e1, t1, o1, intCells] at g1
  rw [e2, t2, o2, intCells] at g2
  rw [e3, t3, o3, intCells] at g3
  rw [e4, t4, o4, strCells] at g4
  rw [e5, t5, o5, intCells] at g5
  rw [e6, t6, o6, intCells] at g6
  rw [e7, t7, o7, adrCells] at g7
  rw [e8, t8, o8, intCells] at g8
  rw [e9, t9, o9, intCells] at g9
  rw [e10, t10, o10, intCells] at g10
  rw [e11, t11, o11, intCells] at g11
  rw [e12, t12, o12, intCells] at g12
  rw [e13, t13, o13, intCells] at g13
  rw [e14, t14, o14, plCellsAll] at g14
  obtain ⟨a0, c0, -, -⟩ := DataW.trod_int Try.underlying3 g0
  obtain ⟨a1, c1, -, -⟩ := DataW.trod_int Try.underlying3 g1
  obtain ⟨a2, c2, -, -⟩ := DataW.trod_int Try.underlying3 g2
  obtain ⟨a3, c3, -, -⟩ := DataW.trod_int Try.underlying3 g3
  obtain ⟨a4, c4, -⟩ := DataW.trod_string Try.underlying9 g4
  obtain ⟨a5, c5, -, -⟩ := DataW.trod_int Try.underlying3 g5
  obtain ⟨a6, c6, -, -⟩ := DataW.trod_int Try.underlying3 g6
  obtain ⟨a7, c7, -, hm⟩ := DataW.trod_int Try.underlying23 g7
  obtain ⟨a8, c8, -, -⟩ := DataW.trod_int Try.underlying3 g8
  obtain ⟨a9, c9, -, -⟩ := DataW.trod_int Try.underlying3 g9
  obtain ⟨a10, c10, -, -⟩ := DataW.trod_int Try.underlying3 g10
  obtain ⟨a11, c11, -, -⟩ := DataW.trod_int Try.underlying3 g11
  obtain ⟨a12, c12, -, -⟩ := DataW.trod_int Try.underlying3 g12
  obtain ⟨a13, c13, -, -⟩ := DataW.trod_int Try.underlying3 g13
  obtain ⟨pa, pp, pl, c14⟩ := plCells g14
  have r14 := take_list c14
  refine ⟨⟨a0, a1, a2, a3, a4, a5, a6, a7, a8, a9, a10, a11, a12, a13, pa, pp, pl⟩, ?_, ?_⟩
  · rw [v_agg]
    congr 1
    refine Array.ext' (List.ext_getElem? fun j => ?_)
    by_cases hj : j < 17
    · rcases (show j = 0 ∨ j = 1 ∨ j = 2 ∨ j = 3 ∨ j = 4 ∨ j = 5 ∨ j = 6 ∨ j = 7 ∨ j = 8 ∨ j = 9 ∨ j = 10 ∨ j = 11 ∨ j = 12 ∨ j = 13 ∨ (14 ≤ j ∧ j < 17) by omega) with rfl | rfl | rfl | rfl | rfl | rfl | rfl | rfl | rfl | rfl | rfl | rfl | rfl | rfl | h
      · exact one_at c0
      · exact one_at c1
      · exact one_at c2
      · exact one_at c3
      · exact one_at c4
      · exact one_at c5
      · exact one_at c6
      · exact one_at c7
      · exact one_at c8
      · exact one_at c9
      · exact one_at c10
      · exact one_at c11
      · exact one_at c12
      · exact one_at c13
      · obtain ⟨k, rfl⟩ : ∃ k, j = 14 + k := ⟨j - 14, by omega⟩
        rw [r14 k (by show k < 3; omega)]
        rcases (show k = 0 ∨ k = 1 ∨ k = 2 by omega) with rfl | rfl | rfl <;> rfl
    · rw [List.getElem?_eq_none (by omega), List.getElem?_eq_none (by show 17 ≤ j; omega)]
  · simp [Lit.wf, IntKind.min, IntKind.max, IntKind.signed, IntKind.bits] at hm
    exact ⟨by show 0 ≤ a7; omega, by show a7 < _; omega⟩
end opening
end Go.Proofs.Ytcpfkikifhcdmaa.Bd_
