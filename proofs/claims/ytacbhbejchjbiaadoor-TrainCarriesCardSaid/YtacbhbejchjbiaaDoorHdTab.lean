/-
  THE LANDED PACKAGE header (8c902e7): its table of kinds lies in its variable; known, traitsOf, Class, Name, Response, ByName, has, when.
-/
import Derived.Test.YtacbhbejchjbiaaDoorRows
import Derived.Test.YtacbhbejchjbiaaDoorHdMath
import Derived.Test.YtacbhbejchjbiaaDoorQuietOf
import Derived.WalkKit
import Derived.WalkSpells
import Derived.WalkLawsBesides
import Derived.Deep.QuietTactic
import Derived.BigQuiet
import Derived.Lib.Hide
import Derived.Handy
import Derived.Below
import Derived.MakeChecks
namespace Go.Hd
/-- The fields that a kind uses, as the landed code numbers them. -/
def us (k : Int) : Int := if mg k then 18181 else if k = 12 ∨ k = 17 then 256 else if k = 15 ∨ k = 16 then 16640 else if k = 18 then 32767 else if k = 19 then 6109 else 0
def ln0 (k : Int) : Int := if mg k then 24 else if k = 12 ∨ k = 17 ∨ k = 15 ∨ k = 16 then 16 else if k = 13 ∨ k = 14 then 10 else if k = 18 then 27 else if k = 19 then 25 else 0
theorem us_no {k : Int} (h : ¬ isK k) : us k = 0 := by
  unfold isK at h
  unfold us
  rw [if_neg (by unfold mg; omega), if_neg (by omega), if_neg (by omega), if_neg (by omega), if_neg (by omega)]
theorem ln0_no {k : Int} (h : ¬ isK k) : ln0 k = 0 := by
  unfold isK at h
  unfold ln0
  rw [if_neg (by unfold mg; omega), if_neg (by omega), if_neg (by omega), if_neg (by omega), if_neg (by omega)]
theorem us_in (k : Int) : 0 ≤ us k ∧ us k < 32768 := by
  unfold us
  split
  · decide
  · split
    · decide
    · split
      · decide
      · split
        · decide
        · split <;> decide
end Go.Hd
namespace Go.Proofs.YtacbhbejchjbiaaDoor
open Go.ChangeShapes Go.WideShapes Go.RowKit Go.Hd

/-- The cells of a kind's row. -/
def rowC (k : Int) : List Value := [.string (nm k), .int .i64 (cls k), .int .i64 (rsp k), .int .i64 (ln0 k), .int .i64 (us k)]
def rowD (k : Int) : DataW Unit := .agg [.lit (.string (nm k).data.toList), .lit (.int .i64 (cls k)), .lit (.int .i64 (rsp k)), .lit (.int .i64 (ln0 k)), .lit (.int .i64 (us k))]
/-- The table lies in its variable. -/
structure HdTab (w : World) : Prop where
  cell : ∀ i : Nat, i < 20 → ∀ j v, (rowC i)[j]? = some v → w.cell? ⟨0, i * 5 + j, none⟩ = some v
  lt : 0 < w.heap.size
theorem HdTab.below {w w' : World} (h : HdTab w) {B : Nat} (hb : Below B w w') (hB : w.heap.size ≤ B) : HdTab w' :=
  ⟨fun i hi j v hv => ((hb.mono hB).cell (p := ⟨0, i * 5 + j, none⟩) h.lt).trans (h.cell i hi j v hv), Nat.lt_of_lt_of_le h.lt hb.size⟩

theorem gKinds : Tryd.prog.globalNamed "airtime/header.kinds" = some 0 := by kernel_rfl
theorem gKindsType : (Tryd.prog.globals[0]?).map (·.type) = some 86 := by kernel_rfl
theorem trCells : Tryd.prog.cellsOf 69 = 5 := by kernel_rfl
theorem trFields : ∃ f0 f1 f2 f3 f4 : Field, Tryd.prog.underlying 69 = some (.struct #[f0, f1, f2, f3, f4]) ∧ f0.type = 9 ∧ f1.type = 3 ∧ f2.type = 3 ∧ f3.type = 3 ∧ f4.type = 67 ∧ f0.offset = 0 ∧ f1.offset = 1 ∧ f2.offset = 2 ∧ f3.offset = 3 ∧ f4.offset = 4 := ⟨_, _, _, _, _, Tryd.underlying69, rfl, rfl, rfl, rfl, rfl, rfl, rfl, rfl, rfl, rfl⟩
theorem cellsStr : Tryd.prog.cellsOf 9 = 1 := by kernel_rfl
theorem cellsInt : Tryd.prog.cellsOf 3 = 1 := by kernel_rfl
theorem cellsFld : Tryd.prog.cellsOf 67 = 1 := by kernel_rfl

set_option maxRecDepth 100000 in
theorem tr_cells {W : World} {fuel : Nat} {cl : List Value} {x : DataW Unit × List MemPlace} (h : DataW.trod (fun _ => ()) Tryd.prog W 0 (fun _ => true) false fuel 69 cl = some x) :
    ∃ (s : ByteArray) (a b c d : Int), cl = [.string s, .int .i64 a, .int .i64 b, .int .i64 c, .int .i64 d] ∧ x.1 = .agg [.lit (.string s.data.toList), .lit (.int .i64 a), .lit (.int .i64 b), .lit (.int .i64 c), .lit (.int .i64 d)] := by
  obtain ⟨f0, f1, f2, f3, f4, hu, t0, t1, t2, t3, t4, o0, o1, o2, o3, o4⟩ := trFields
  obtain ⟨xs, m, _, rfl, hl, hn, hf⟩ := DataW.trod_struct hu h
  rw [trCells] at hl
  have g0 := hf 0 f0 rfl
  have g1 := hf 1 f1 rfl
  have g2 := hf 2 f2 rfl
  have g3 := hf 3 f3 rfl
  have g4 := hf 4 f4 rfl
  match xs, hn with
  | [y0, y1, y2, y3, y4], _ =>
    rw [t0, o0, cellsStr] at g0
    rw [t1, o1, cellsInt] at g1
    rw [t2, o2, cellsInt] at g2
    rw [t3, o3, cellsInt] at g3
    rw [t4, o4, cellsFld] at g4
    obtain ⟨a0, c0, d0, -⟩ := DataW.trod_string Tryd.underlying9 g0
    obtain ⟨a1, c1, d1, -⟩ := DataW.trod_int Tryd.underlying3 g1
    obtain ⟨a2, c2, d2, -⟩ := DataW.trod_int Tryd.underlying3 g2
    obtain ⟨a3, c3, d3, -⟩ := DataW.trod_int Tryd.underlying3 g3
    obtain ⟨a4, c4, d4, -⟩ := DataW.trod_int Tryd.underlying67 g4
    match cl, hl with
    | [z0, z1, z2, z3, z4], _ =>
      simp at c0 c1 c2 c3 c4
      exact ⟨a0, a1, a2, a3, a4, by simp [c0, c1, c2, c3, c4], by simp [d0, d1, d2, d3, d4]⟩

theorem rows_are : ∀ i : Nat, i < 20 → ∃ ds, (Rows.laid_airtime_header_kinds : DataW Unit) = .agg ds ∧ ds[i]? = some (rowD i) := by
  intro i hi
  refine ⟨_, rfl, ?_⟩
  match i, hi with
  | 0, _ => rfl
  | 1, _ => rfl
  | 2, _ => rfl
  | 3, _ => rfl
  | 4, _ => rfl
  | 5, _ => rfl
  | 6, _ => rfl
  | 7, _ => rfl
  | 8, _ => rfl
  | 9, _ => rfl
  | 10, _ => rfl
  | 11, _ => rfl
  | 12, _ => rfl
  | 13, _ => rfl
  | 14, _ => rfl
  | 15, _ => rfl
  | 16, _ => rfl
  | 17, _ => rfl
  | 18, _ => rfl
  | 19, _ => rfl
  | _ + 20, h => exact absurd h (by omega)

theorem tab_of_laid {W : World} (h : laidMet Tryd.prog [("airtime/header.kinds", Rows.laid_airtime_header_kinds)] W) : HdTab W := by
  obtain ⟨ds, hds, -⟩ := rows_are 0 (by decide)
  rw [hds] at h
  obtain ⟨cs, hc, he⟩ := Lib.laid_arr gKinds gKindsType Tryd.underlying86 trCells h
  have key : ∀ i : Nat, i < 20 → ∀ j v, (rowC i)[j]? = some v → W.cell? ⟨0, i * 5 + j, none⟩ = some v := by
    intro i hi j v hv
    obtain ⟨f, y, hy, hd⟩ := he i hi
    obtain ⟨s, a, b, c, d, hcl, hx⟩ := tr_cells hy
    obtain ⟨ds', hds', hr⟩ := rows_are i hi
    obtain rfl : ds = ds' := by rw [hds] at hds'; injection hds'
    rw [hr] at hd
    injection hd with hd
    rw [← hd] at hx
    unfold rowD at hx
    injection hx with hx
    simp at hx
    obtain ⟨e0, e1, e2, e3, e4⟩ := hx
    have es : nm (i : Int) = s := by
      obtain ⟨⟨x⟩⟩ := s
      generalize nm (i : Int) = u at e0
      obtain ⟨⟨y⟩⟩ := u
      simp at e0
      rw [e0]
    have hrow : ((cs.toList.drop (i * 5)).take 5) = rowC i := by rw [hcl]; unfold rowC; rw [es, e1, e2, e3, e4]
    rw [hc, ← Array.getElem?_toList]
    exact Lib.take_drop_cell hrow j v hv
  exact ⟨key, World.block_lt_of_cell? _ _ (key 0 (by decide) 0 _ rfl)⟩
end Go.Proofs.YtacbhbejchjbiaaDoor
