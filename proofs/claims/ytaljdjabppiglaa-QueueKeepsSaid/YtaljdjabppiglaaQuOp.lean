/-
  A SLICE OF CALLS of law 23: how it lies; how one that came in is opened.
-/
import Derived.Test.YtaljdjabppiglaaQuLaws1
import Derived.Test.YtaljdjabppiglaaQuInv
namespace Go.Proofs.Ytaljdjabppiglaa.Oc_
open Go.ChangeShapes Go.WideShapes Go.RowKit Go.Deep Go.Qu

/-- A call: its kind, a number, an item. -/
structure Oc where
  kd : Int
  mo : Int
  it : It
instance : Inhabited Oc := ⟨⟨0, 0, zit⟩⟩
/-- What is known of one that lies at an offset. -/
structure One (W : World) (b o : Nat) (x : Oc) : Prop where
  k : W.cell? ⟨b, o, none⟩ = some (.int .i64 x.kd)
  m : W.cell? ⟨b, o + 1, none⟩ = some (.int .i64 x.mo)
  i : ∀ j, j < 7 → W.cell? ⟨b, o + 2 + j, none⟩ = (Ix_.C x.it)[j]?
  wf : Wf x.it
  m0 : -9223372036854775808 ≤ x.mo
  m1 : x.mo ≤ 9223372036854775807
theorem One.below {W W' : World} {b o : Nat} {x : Oc} (h : One W b o x) (hb : Below W.heap.size W W') (hl : b < W.heap.size) : One W' b o x :=
  ⟨(hb.cell hl).trans h.k, (hb.cell hl).trans h.m, fun j hj => (hb.cell hl).trans (h.i j hj), h.wf, h.m0, h.m1⟩
theorem One.load {W : World} {b o : Nat} {x : Oc} (h : One W b o x) : (Ix_.LoadF ⟨b, o + 2, none⟩).run Try.prog W = .ok (Ix_.v x.it) W := by
  refine run_loadVar_mid W b (o + 2) 28 (Ix_.C x.it).toList _ (fun j v hj => ?_) Try.underlying28 rfl Ix_.sz
  have hj7 : j < 7 := (List.getElem?_eq_some_iff.1 hj).1
  rw [h.i j hj7, ← hj]
  simp
/-- They lie behind the address. -/
def At (W : World) (sa : Option Addr) (l : List Oc) : Prop :=
  ∀ i (h : i < l.length), ∃ b off, sa = some ⟨b, off, none⟩ ∧ b < W.heap.size ∧ One W b (off + i * 9) l[i]

section opening
variable {H : Type} {enc : TypeId × Value → H} {W : World} {b0 : Nat} {sp : Nat → Bool} {held : Bool}
theorem fields : ∃ f0 f1 f2 : Field, Try.prog.underlying 30 = some (.struct #[f0, f1, f2]) ∧ f0.type = 3 ∧ f1.type = 3 ∧ f2.type = 28 ∧
    f0.offset = 0 ∧ f1.offset = 1 ∧ f2.offset = 2 := ⟨_, _, _, Try.underlying30, rfl, rfl, rfl, rfl, rfl, rfl⟩
theorem cellsAll : Try.prog.cellsOf 30 = 9 := by kernel_rfl

set_option maxRecDepth 100000 in
set_option maxHeartbeats 1000000 in
/-- The cells of a call. -/
theorem op_cells {fuel : Nat} {cl : List Value} {y : DataW H × List MemPlace} (hf : DataW.trod enc Try.prog W 0 sp held fuel 30 cl = some y) :
    ∃ x : Oc, cl = .int .i64 x.kd :: .int .i64 x.mo :: It_.cs x.it ∧ Wf x.it ∧ -9223372036854775808 ≤ x.mo ∧ x.mo ≤ 9223372036854775807 := by
  obtain ⟨f0, f1, f2, hu, t0, t1, t2, o0, o1, o2⟩ := fields
  obtain ⟨xs, m, _, _, hl, hn, hf⟩ := DataW.trod_struct hu hf
  rw [cellsAll] at hl
  have ex : ∀ i, i < 3 → ∃ y, xs[i]? = some y := fun i hi => ⟨_, List.getElem?_eq_getElem (by rw [hn]; exact hi)⟩
  obtain ⟨y0, e0⟩ := ex 0 (by omega)
  obtain ⟨y1, e1⟩ := ex 1 (by omega)
  obtain ⟨y2, e2⟩ := ex 2 (by omega)
  have g0 := hf 0 f0 rfl
  have g1 := hf 1 f1 rfl
  have g2 := hf 2 f2 rfl
  rw [e0, t0, o0, It_.cellsOf0] at g0
  rw [e1, t1, o1, It_.cellsOf0] at g1
  rw [e2, t2, o2, It_.cellsAll] at g2
  obtain ⟨a0, c0, -, w0⟩ := DataW.trod_int Try.underlying3 g0
  obtain ⟨a1, c1, -, w1⟩ := DataW.trod_int Try.underlying3 g1
  obtain ⟨x, c2, hw⟩ := It_.cells g2
  obtain ⟨m0, m1⟩ := i64_b w1
  have hwf : Wf x := wf_of (l := [x]) (fun p hp => by rw [List.mem_singleton.1 hp]; exact hw) x (List.mem_singleton_self _)
  match cl, hl with
  | [z0, z1, z2, z3, z4, z5, z6, z7, z8], _ =>
    simp at c0 c1 c2
    subst c0 c1
    exact ⟨⟨a0, a1, x⟩, by rw [← c2], hwf, m0, m1⟩

set_option maxRecDepth 100000 in
/-- A slice of calls. -/
theorem open_all {u : Value} {d : DataW H} {ps : List MemPlace} (hv : Value.okWide Try.prog W .any b0 22 u) (hd : DataW.Trod enc Try.prog W 0 sp held 22 u d ps) :
    ∃ (sa : Option Addr) (l : List Oc) (c : Nat), u = .slice sa l.length c ∧ At W sa l ∧ l.length ≤ c := by
  obtain ⟨sa, len, c, rfl⟩ := okWide_slice Try.underlying22 hv
  obtain ⟨fuel, hf⟩ := hd
  rcases open_slice Try.underlying22 hf with ⟨hcs, -⟩ | ⟨a, len', cap, m, n, D, Pl, hcs, -, hl, hml, hm, -, hel⟩
  · simp [Value.cells] at hcs
    obtain ⟨rfl, rfl, rfl⟩ := hcs
    exact ⟨none, [], 0, rfl, fun i hi => absurd hi (Nat.not_lt_zero i), Nat.le_refl _⟩
  · simp [Value.cells] at hcs
    obtain ⟨rfl, rfl, rfl⟩ := hcs
    have hle : len ≤ m := by rw [hm]; split <;> omega
    have key : ∀ i, i < len → ∃ x : Oc, ∃ b off, a = ⟨b, off, none⟩ ∧ b < W.heap.size ∧ One W b (off + i * 9) x := by
      intro i hi
      obtain ⟨cs', h1, h2⟩ := hel i (by omega)
      obtain ⟨cs0, h10, h20⟩ := hel 0 (by omega)
      obtain ⟨x0, rfl, -⟩ := op_cells h20
      obtain ⟨x, rfl, hw, m0, m1⟩ := op_cells h2
      obtain ⟨-, -, hc⟩ := World.cells?_some h1
      obtain ⟨-, -, hc0⟩ := World.cells?_some h10
      rw [cellsAll] at hc hc0
      obtain ⟨b, off, spot⟩ := a
      have hspot : spot = none := by
        have := hc0 0 (by omega)
        exact World.cell?_spot (a := ⟨b, off, spot⟩) (v := .int .i64 x0.kd) (by simpa [Addr.add] using this)
      subst hspot
      have ad : ∀ j, ((⟨b, off, none⟩ : Addr).add (i * 9)).add j = ⟨b, off + i * 9 + j, none⟩ := fun j => by
        unfold Addr.add; split <;> split <;> simp_all
      have g : ∀ j, j < 9 → W.cell? ⟨b, off + i * 9 + j, none⟩ = (Value.int .i64 x.kd :: .int .i64 x.mo :: It_.cs x.it)[j]? := fun j hj => by rw [← ad, hc j hj]
      refine ⟨x, b, off, rfl, World.block_lt_of_cell? _ _ ((g 0 (by omega)).trans rfl), (g 0 (by omega)).trans rfl, (g 1 (by omega)).trans rfl, fun j hj => ?_, hw, m0, m1⟩
      have := g (2 + j) (by omega)
      rw [show off + i * 9 + (2 + j) = off + i * 9 + 2 + j by omega] at this
      rw [this, show 2 + j = j + 1 + 1 by omega, List.getElem?_cons_succ, List.getElem?_cons_succ]
      show (Ix_.C x.it).toList[j]? = _
      simp
    obtain ⟨O, hO⟩ := choose_lt (α := Oc) (n := len) (p := fun i x => ∃ b off, a = ⟨b, off, none⟩ ∧ b < W.heap.size ∧ One W b (off + i * 9) x) key
    refine ⟨some a, (List.range len).map O, c, by simp, fun i hi => ?_, by rw [List.length_map, List.length_range]; omega⟩
    have hi' : i < len := by simpa using hi
    obtain ⟨b, off, ha, hlt, q0⟩ := hO i hi'
    exact ⟨b, off, by rw [ha], hlt, by simpa using q0⟩
end opening
end Go.Proofs.Ytaljdjabppiglaa.Oc_
