/-
  HOW AN ANSWER THAT CAME IN IS OPENED.
-/
import Derived.Test.YtldeflpaghbmmaaWnAw
import Derived.Test.YtldeflpaghbmmaaWnIs
namespace Go.Proofs.Ytldeflpaghbmmaa.Wa_
open Go.ChangeShapes Go.WideShapes Go.RowKit Go.Deep Go.Wn

section opening
variable {H : Type} {enc : TypeId × Value → H} {W : World} {b0 : Nat} {sp : Nat → Bool} {held : Bool}

set_option maxRecDepth 100000 in
/-- The cells of a slice of numbers. -/
theorem ints_cells {fuel : Nat} {cl : List Value} {y : DataW H × List MemPlace} (hf : DataW.trod enc Try.prog W 0 sp held fuel 48 cl = some y) :
    ∃ (sa : Option Addr) (l : List Int) (c : Nat), cl = [.slice sa l.length c] ∧ Is_.Sl W sa l c ∧ l.length ≤ maxLen := by
  rcases open_slice1 Try.underlying48 Is_.cellsOf1 hf with ⟨hcs, -⟩ | ⟨a, len, cap, m, n, V, D, Pl, hcs, -, hl, hml, hm, hdx, hel⟩
  · exact ⟨none, [], 0, hcs, Is_.Sl.none _, Nat.zero_le _⟩
  · have hle : len ≤ m := by rw [hm]; split <;> omega
    have key : ∀ i, i < len → ∃ x : Int, ∃ b off, a = ⟨b, off, none⟩ ∧ b < W.heap.size ∧ W.cell? ⟨b, off + i, none⟩ = some (.int .i64 x) := by
      intro i hi
      obtain ⟨g0, t0⟩ := hel i (by omega)
      obtain ⟨gz, tz⟩ := hel 0 (by omega)
      obtain ⟨x, hx, -, hw⟩ := DataW.trod_int Try.underlying3 t0
      obtain ⟨x0, hx0, -, -⟩ := DataW.trod_int Try.underlying3 tz
      simp at hx hx0
      rw [hx] at g0
      rw [hx0] at gz
      obtain ⟨b, off, spot⟩ := a
      have hspot : spot = none := World.cell?_spot (a := ⟨b, off, spot⟩) (v := .int .i64 x0) (by simpa [Addr.add] using gz)
      subst hspot
      rw [Addr.add_lit] at g0
      exact ⟨x, b, off, rfl, World.block_lt_of_cell? _ _ g0, g0⟩
    obtain ⟨O, hO⟩ := choose_lt (α := Int) (n := len) (p := fun i x => ∃ b off, a = ⟨b, off, none⟩ ∧ b < W.heap.size ∧ W.cell? ⟨b, off + i, none⟩ = some (.int .i64 x)) key
    refine ⟨some a, (List.range len).map O, cap, by simpa using hcs, ⟨fun i hi => ?_, by rw [List.length_map, List.length_range]; omega, fun h => absurd h (by simp)⟩, by rw [List.length_map, List.length_range]; omega⟩
    have hi' : i < len := by simpa using hi
    obtain ⟨b, off, ha, hlt, q0⟩ := hO i hi'
    refine ⟨b, off, by rw [ha], ?_⟩
    simpa using And.intro hlt q0

theorem fields : ∃ f0 f1 f2 f3 : Field, Try.prog.underlying 50 = some (.struct #[f0, f1, f2, f3]) ∧ f0.type = 3 ∧ f1.type = 47 ∧ f2.type = 48 ∧ f3.type = 3 ∧
    f0.offset = 0 ∧ f1.offset = 1 ∧ f2.offset = 2 ∧ f3.offset = 3 := ⟨_, _, _, _, Try.underlying50, rfl, rfl, rfl, rfl, rfl, rfl, rfl, rfl⟩
theorem cellsAll : Try.prog.cellsOf 50 = 4 := by kernel_rfl
theorem cellsOf0 : Try.prog.cellsOf 3 = 1 := by kernel_rfl
theorem cellsOf1 : Try.prog.cellsOf 47 = 1 := by kernel_rfl
theorem cellsOf2 : Try.prog.cellsOf 48 = 1 := by kernel_rfl

/-- What is known of an answer that came in. -/
structure Ao (W : World) (y : An) (Q : List Int) : Prop where
  n : y.n = Q.length
  sl : Is_.Sl W y.sa Q y.c
  m : ∃ k : Nat, y.m = k ∧ k < 18446744073709551616
theorem Ao.below {W W' : World} {y : An} {Q : List Int} (h : Ao W y Q) (hb : Below W.heap.size W W') : Ao W' y Q := ⟨h.n, h.sl.below hb, h.m⟩

set_option maxRecDepth 100000 in
set_option maxHeartbeats 1000000 in
/-- The cells of an answer. -/
theorem ans_cells {fuel : Nat} {cl : List Value} {y : DataW H × List MemPlace} (hf : DataW.trod enc Try.prog W 0 sp held fuel 50 cl = some y) :
    ∃ (x : An) (Q : List Int), cl = (Aw_.C x).toList ∧ Ao W x Q := by
  obtain ⟨f0, f1, f2, f3, hu, t0, t1, t2, t3, o0, o1, o2, o3⟩ := fields
  obtain ⟨xs, m, _, _, hl, hn, hf⟩ := DataW.trod_struct hu hf
  rw [cellsAll] at hl
  have ex : ∀ i, i < 4 → ∃ y, xs[i]? = some y := fun i hi => ⟨_, List.getElem?_eq_getElem (by rw [hn]; exact hi)⟩
  obtain ⟨y0, e0⟩ := ex 0 (by omega)
  obtain ⟨y1, e1⟩ := ex 1 (by omega)
  obtain ⟨y2, e2⟩ := ex 2 (by omega)
  obtain ⟨y3, e3⟩ := ex 3 (by omega)
  have g0 := hf 0 f0 rfl
  have g1 := hf 1 f1 rfl
  have g2 := hf 2 f2 rfl
  have g3 := hf 3 f3 rfl
  rw [e0, t0, o0, cellsOf0] at g0
  rw [e1, t1, o1, cellsOf1] at g1
  rw [e2, t2, o2, cellsOf2] at g2
  rw [e3, t3, o3, cellsOf0] at g3
  obtain ⟨a0, c0, -, w0⟩ := DataW.trod_int Try.underlying3 g0
  obtain ⟨a1, c1, -, w1⟩ := DataW.trod_int Try.underlying47 g1
  obtain ⟨sa, l, c, c2, hs, -⟩ := ints_cells g2
  obtain ⟨a3, c3, -, w3⟩ := DataW.trod_int Try.underlying3 g3
  have hm : ∃ k : Nat, a1 = k ∧ k < 18446744073709551616 := by
    simp [Lit.wf, IntKind.min, IntKind.max, IntKind.signed, IntKind.bits] at w1
    exact ⟨a1.toNat, by omega, by omega⟩
  match cl, hl with
  | [z0, z1, z2, z3], _ =>
    simp at c0 c1 c2 c3
    subst c0 c1 c2 c3
    exact ⟨⟨a0, a1, sa, l.length, c, a3⟩, l, rfl, ⟨rfl, hs, hm⟩⟩

/-- An answer by value. -/
theorem open_one {u : Value} {d : DataW H} {ps : List MemPlace} (hv : Value.okWide Try.prog W .any b0 50 u) (hd : DataW.Trod enc Try.prog W 0 sp held 50 u d ps) :
    ∃ (x : An) (Q : List Int), u = Aw_.v x ∧ Ao W x Q := by
  obtain ⟨f0, f1, f2, f3, hu, -⟩ := fields
  obtain ⟨cl, rfl, hsz⟩ := okWide_struct hu hv
  obtain ⟨fuel, hd'⟩ := hd
  simp only [Value.cells] at hd'
  obtain ⟨x, Q, hc, hA⟩ := ans_cells hd'
  refine ⟨x, Q, ?_, hA⟩
  rw [Aw_.v_agg]
  obtain ⟨cl'⟩ := cl
  simp only at hc
  rw [hc]
end opening
end Go.Proofs.Ytldeflpaghbmmaa.Wa_
