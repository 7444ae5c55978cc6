/-
  BEACONS AS WORDS, more: the parts of a beacon (its map, its switch, its parameters) loaded and stored as words; arrays of parameters; a beacon in its own block, beside all that was there.
-/
import Derived.Test.YtojiffpmmgjpjaaDoorBnW
import Derived.Test.YtojiffpmmgjpjaaDoorWrAll
import Derived.Test.YtojiffpmmgjpjaaDoorRdTot
import Derived.Deep.MidRow
namespace Go.Proofs.YtojiffpmmgjpjaaDoor.Bn_
open Go.ChangeShapes Go.WideShapes Go.RowKit Go.Deep Go.Bn Go.Wr

/-! The parts: cells, loads. -/
def TC (t : Go.Tm.Tm) : Array Value := #[.int .i64 t.c, .int .i64 t.p, .bool t.g, .int .u64 t.m]
def SC (c n : Int) : Array Value := #[.int .i64 c, .int .i64 n]
def PC (p : Pr) : Array Value := #[.int .i64 p.a, .int .i64 p.i, .int .i64 p.x, .int .i64 p.t]
/-- Four parameters, the cells, a word. -/
def QC (p0 p1 p2 p3 : Pr) : Array Value := #[.int .i64 p0.a, .int .i64 p0.i, .int .i64 p0.x, .int .i64 p0.t, .int .i64 p1.a, .int .i64 p1.i, .int .i64 p1.x, .int .i64 p1.t, .int .i64 p2.a, .int .i64 p2.i, .int .i64 p2.x, .int .i64 p2.t, .int .i64 p3.a, .int .i64 p3.i, .int .i64 p3.x, .int .i64 p3.t]
/-- Four parameters as a value, a word. -/
def Q (b : Bn) : Value := .agg (QC b.p0 b.p1 b.p2 b.p3)
theorem Q_match (b : Bn) : Value.cells.match_1 (fun _ => Array Value) (Q b) (fun cs => cs) (fun u => #[u]) = QC b.p0 b.p1 b.p2 b.p3 := rfl
noncomputable def LoadT (a : Addr) : Sem Value := loadVar 24 a
theorem loadT (a : Addr) : loadVar 24 a = LoadT a := rfl
noncomputable def LoadS (a : Addr) : Sem Value := loadVar 26 a
theorem loadS (a : Addr) : loadVar 26 a = LoadS a := rfl
noncomputable def LoadQ (a : Addr) : Sem Value := loadVar 29 a
theorem loadQ (a : Addr) : loadVar 29 a = LoadQ a := rfl
noncomputable def LoadP (a : Addr) : Sem Value := loadVar 28 a
theorem loadP (a : Addr) : loadVar 28 a = LoadP a := rfl
theorem szT : (Tryd.prog.info? 24).map (·.size) = some 4 := by kernel_rfl
theorem szS : (Tryd.prog.info? 26).map (·.size) = some 2 := by kernel_rfl
theorem szQ : (Tryd.prog.info? 29).map (·.size) = some 16 := by kernel_rfl
theorem szP : (Tryd.prog.info? 28).map (·.size) = some 4 := by kernel_rfl
theorem Box.range {W : World} {b : Nat} {x : Bn} (h : Box W b x) (o : Nat) (cs : List Value) (hc : ∀ j v, cs[j]? = some v → (C x)[o + j]? = some v) : W.rangeAt b o cs := fun j v hv => (h.all (o + j)).trans (hc j v hv)
theorem nth {n : Nat} {cs : List Value} {f : Nat → Option Value} (hn : cs.length = n) (h : ∀ j, j < n → cs[j]? = f j) : ∀ j v, cs[j]? = some v → f j = some v := fun j v hv => by
  have hj : j < cs.length := (List.getElem?_eq_some_iff.1 hv).1
  rw [← h j (by omega), hv]
theorem Box.loadT {W : World} {b : Nat} {x : Bn} (h : Box W b x) : (LoadT ⟨b, 5, none⟩).run Tryd.prog W = .ok (.agg #[.int .i64 x.tm.c, .int .i64 x.tm.p, .bool x.tm.g, .int .u64 x.tm.m]) W :=
  run_loadVar_mid W b 5 24 (TC x.tm).toList _ (h.range 5 _ (nth (n := 4) rfl (fun j hj => by match j, hj with | 0, _ => rfl | 1, _ => rfl | 2, _ => rfl | 3, _ => rfl))) Tryd.underlying24 rfl szT
theorem Box.loadS {W : World} {b : Nat} {x : Bn} (h : Box W b x) : (LoadS ⟨b, 9, none⟩).run Tryd.prog W = .ok (.agg #[.int .i64 x.sc, .int .i64 x.sn]) W :=
  run_loadVar_mid W b 9 26 (SC x.sc x.sn).toList _ (h.range 9 _ (nth (n := 2) rfl (fun j hj => by match j, hj with | 0, _ => rfl | 1, _ => rfl))) Tryd.underlying26 rfl szS
theorem Box.loadQ {W : World} {b : Nat} {x : Bn} (h : Box W b x) : (LoadQ ⟨b, 11, none⟩).run Tryd.prog W = .ok (Q x) W := by
  have := run_loadVar_mid W b 11 29 (QC x.p0 x.p1 x.p2 x.p3).toList _ (h.range 11 _ (nth (n := 16) rfl (fun j hj => by rcases (show j = 0 ∨ j = 1 ∨ j = 2 ∨ j = 3 ∨ j = 4 ∨ j = 5 ∨ j = 6 ∨ j = 7 ∨ j = 8 ∨ j = 9 ∨ j = 10 ∨ j = 11 ∨ j = 12 ∨ j = 13 ∨ j = 14 ∨ j = 15 by omega) with rfl | rfl | rfl | rfl | rfl | rfl | rfl | rfl | rfl | rfl | rfl | rfl | rfl | rfl | rfl | rfl <;> rfl))) Tryd.underlying29 rfl szQ
  exact this
theorem Box.loadP {W : World} {b : Nat} {x : Bn} (h : Box W b x) (k : Nat) (hk : k < 4) : (LoadP ⟨b, 11 + k * 4, none⟩).run Tryd.prog W = .ok (.agg #[.int .i64 (x.pr k).a, .int .i64 (x.pr k).i, .int .i64 (x.pr k).x, .int .i64 (x.pr k).t]) W :=
  run_loadVar_mid W b (11 + k * 4) 28 (PC (x.pr k)).toList _ (h.range _ _ (nth (n := 4) rfl (fun j hj => by
    match k, hk, j, hj with
    | 0, _, 0, _ => rfl | 0, _, 1, _ => rfl | 0, _, 2, _ => rfl | 0, _, 3, _ => rfl
    | 1, _, 0, _ => rfl | 1, _, 1, _ => rfl | 1, _, 2, _ => rfl | 1, _, 3, _ => rfl
    | 2, _, 0, _ => rfl | 2, _, 1, _ => rfl | 2, _, 2, _ => rfl | 2, _, 3, _ => rfl
    | 3, _, 0, _ => rfl | 3, _, 1, _ => rfl | 3, _, 2, _ => rfl | 3, _, 3, _ => rfl))) Tryd.underlying28 rfl szP
/-- The loads out of cells that are told one by one. -/
theorem loadS_of {W : World} {b o : Nat} {c n : Int} (h0 : W.cell? ⟨b, o, none⟩ = some (.int .i64 c)) (h1 : W.cell? ⟨b, o + 1, none⟩ = some (.int .i64 n)) : (LoadS ⟨b, o, none⟩).run Tryd.prog W = .ok (.agg #[.int .i64 c, .int .i64 n]) W :=
  run_loadVar_mid W b o 26 (SC c n).toList _ (nth (n := 2) (f := fun j => W.cell? ⟨b, o + j, none⟩) rfl (fun j hj => by match j, hj with | 0, _ => exact h0.symm | 1, _ => exact h1.symm)) Tryd.underlying26 rfl szS
theorem loadT_of {W : World} {b o : Nat} {c p m : Int} {g : Bool} (h0 : W.cell? ⟨b, o, none⟩ = some (.int .i64 c)) (h1 : W.cell? ⟨b, o + 1, none⟩ = some (.int .i64 p)) (h2 : W.cell? ⟨b, o + 2, none⟩ = some (.bool g)) (h3 : W.cell? ⟨b, o + 3, none⟩ = some (.int .u64 m)) : (LoadT ⟨b, o, none⟩).run Tryd.prog W = .ok (.agg #[.int .i64 c, .int .i64 p, .bool g, .int .u64 m]) W :=
  run_loadVar_mid W b o 24 (TC ⟨c, p, g, m⟩).toList _ (nth (n := 4) (f := fun j => W.cell? ⟨b, o + j, none⟩) rfl (fun j hj => by match j, hj with | 0, _ => exact h0.symm | 1, _ => exact h1.symm | 2, _ => exact h2.symm | 3, _ => exact h3.symm)) Tryd.underlying24 rfl szT
/-- A field of the parameters of a category. -/
theorem Box.cellP {W : World} {b : Nat} {x : Bn} (h : Box W b x) (k : Nat) (hk : k < 4) :
    W.cell? ⟨b, 11 + k * 4, none⟩ = some (.int .i64 (x.pr k).a) ∧ W.cell? ⟨b, 11 + k * 4 + 1, none⟩ = some (.int .i64 (x.pr k).i) ∧ W.cell? ⟨b, 11 + k * 4 + 2, none⟩ = some (.int .i64 (x.pr k).x) ∧ W.cell? ⟨b, 11 + k * 4 + 3, none⟩ = some (.int .i64 (x.pr k).t) := by
  match k, hk with
  | 0, _ => exact ⟨h.all 11, h.all 12, h.all 13, h.all 14⟩
  | 1, _ => exact ⟨h.all 15, h.all 16, h.all 17, h.all 18⟩
  | 2, _ => exact ⟨h.all 19, h.all 20, h.all 21, h.all 22⟩
  | 3, _ => exact ⟨h.all 23, h.all 24, h.all 25, h.all 26⟩
/-- An array's block. -/
theorem loadQ_new (W : World) (b : Bn) : (LoadQ ⟨W.heap.size, 0, none⟩).run Tryd.prog (W.alloc (.cells (QC b.p0 b.p1 b.p2 b.p3) 29)) = .ok (Q b) (W.alloc (.cells (QC b.p0 b.p1 b.p2 b.p3) 29)) := by
  refine run_loadVar_row _ W.heap.size 29 29 (QC b.p0 b.p1 b.p2 b.p3) (0, 0) _ ?_ Tryd.underlying29 rfl szQ
  show (W.heap.push _)[W.heap.size]? = _
  rw [Array.getElem?_push, if_pos rfl]
set_option maxRecDepth 100000 in
theorem q_at (b : Bn) (k : Nat) (hk : k < 4) (W : World) :
    (Instr.index 29 (Q b) (.int .i64 (k : Int))).run Tryd.prog W = .ok (.agg #[.int .i64 (b.pr k).a, .int .i64 (b.pr k).i, .int .i64 (b.pr k).x, .int .i64 (b.pr k).t]) W := by
  unfold Q QC
  rcases (show k = 0 ∨ k = 1 ∨ k = 2 ∨ k = 3 by omega) with rfl | rfl | rfl | rfl
  all_goals
    simp [Instr.index, run_underlying Tryd.underlying29, asIntOf, go_sem, Bn.pr]

/-! The parts: stores. -/
theorem Box.there {W : World} {b : Nat} {x : Bn} (h : Box W b x) (o n : Nat) (ho : o + n ≤ 27) : W.there b o n := fun j hj => by
  refine ⟨?_, h.frozen _⟩
  rw [h.all (o + j)]
  have : o + j < (C x).size := by rw [Csize]; omega
  rw [Array.getElem?_eq_getElem this]; rfl
noncomputable def StoreT (a : Addr) (u : Value) : Sem Unit := storeVar 24 a u
theorem storeT (a : Addr) (u : Value) : storeVar 24 a u = StoreT a u := rfl
noncomputable def StoreS (a : Addr) (u : Value) : Sem Unit := storeVar 26 a u
theorem storeS (a : Addr) (u : Value) : storeVar 26 a u = StoreS a u := rfl
noncomputable def StoreP (a : Addr) (u : Value) : Sem Unit := storeVar 28 a u
theorem storeP (a : Addr) (u : Value) : storeVar 28 a u = StoreP a u := rfl
/-- The world behind a store into the map of a beacon, into its switch, its parameters. -/
def setT (W : World) (b : Nat) (t : Go.Tm.Tm) : World := W.setCells b 5 (TC t).toList
def setS (W : World) (b : Nat) (c n : Int) : World := W.setCells b 9 (SC c n).toList
def setP (W : World) (b k : Nat) (p : Pr) : World := W.setCells b (11 + k * 4) (PC p).toList
theorem Box.storeT {W : World} {b : Nat} {x : Bn} (h : Box W b x) (t : Go.Tm.Tm) : (StoreT ⟨b, 5, none⟩ (.agg #[.int .i64 t.c, .int .i64 t.p, .bool t.g, .int .u64 t.m])).run Tryd.prog W = .ok () (setT W b t) :=
  run_storeVar_mid W b 5 24 (TC t) (h.there 5 4 (by decide)) szT (by simp [TC, Value.oneCell'])
theorem Box.storeS {W : World} {b : Nat} {x : Bn} (h : Box W b x) (c n : Int) : (StoreS ⟨b, 9, none⟩ (.agg #[.int .i64 c, .int .i64 n])).run Tryd.prog W = .ok () (setS W b c n) :=
  run_storeVar_mid W b 9 26 (SC c n) (h.there 9 2 (by decide)) szS (by simp [SC, Value.oneCell'])
theorem Box.storeP {W : World} {b : Nat} {x : Bn} (h : Box W b x) (k : Nat) (hk : k < 4) (a i m t : Int) : (StoreP ⟨b, 11 + k * 4, none⟩ (.agg #[.int .i64 a, .int .i64 i, .int .i64 m, .int .i64 t])).run Tryd.prog W = .ok () (setP W b k ⟨a, i, m, t⟩) :=
  run_storeVar_mid W b (11 + k * 4) 28 (PC ⟨a, i, m, t⟩) (h.there _ 4 (by omega)) szP (by simp [PC, Value.oneCell'])
theorem Box.setT {W : World} {b : Nat} {x : Bn} (h : Box W b x) (t : Go.Tm.Tm) : Box (setT W b t) b { x with tm := t } :=
  ((((h.set5 t.c).set6 t.p).set7 t.g).set8 t.m)
theorem Box.setS {W : World} {b : Nat} {x : Bn} (h : Box W b x) (c n : Int) : Box (setS W b c n) b { x with sc := c, sn := n } :=
  ((h.set9 c).set10 n)
theorem Box.setP {W : World} {b : Nat} {x : Bn} (h : Box W b x) (k : Nat) (hk : k < 4) (p : Pr) : Box (setP W b k p) b (x.setPr k p) := by
  match k, hk with
  | 0, _ => exact ((((h.set11 p.a).set12 p.i).set13 p.x).set14 p.t)
  | 1, _ => exact ((((h.set15 p.a).set16 p.i).set17 p.x).set18 p.t)
  | 2, _ => exact ((((h.set19 p.a).set20 p.i).set21 p.x).set22 p.t)
  | 3, _ => exact ((((h.set23 p.a).set24 p.i).set25 p.x).set26 p.t)
theorem but_setT (W : World) (b : Nat) (t : Go.Tm.Tm) : But b W (setT W b t) :=
  (((But.set1 b 5 W (.int .i64 t.c)).trans (But.set1 b 6 _ (.int .i64 t.p))).trans (But.set1 b 7 _ (.bool t.g))).trans (But.set1 b 8 _ (.int .u64 t.m))
theorem but_setS (W : World) (b : Nat) (c n : Int) : But b W (setS W b c n) :=
  (But.set1 b 9 W (.int .i64 c)).trans (But.set1 b 10 _ (.int .i64 n))
theorem but_setP (W : World) (b k : Nat) (p : Pr) : But b W (setP W b k p) :=
  (((But.set1 b (11 + k * 4) W (.int .i64 p.a)).trans (But.set1 b _ _ (.int .i64 p.i))).trans (But.set1 b _ _ (.int .i64 p.x))).trans (But.set1 b _ _ (.int .i64 p.t))
end Go.Proofs.YtojiffpmmgjpjaaDoor.Bn_

namespace Go.Proofs.YtojiffpmmgjpjaaDoor
open Go.RowKit Go.Bn
/-- A beacon in a block of its own, beside all that was there. -/
structure Stb (w : World) (b : Bn) (wi : World) : Prop where
  box : Bn_.Box wi w.heap.size b
  bel : Below w.heap.size w wi
theorem Stb.keep {w wi w' : World} {b : Bn} (h : Stb w b wi) (hb : Below wi.heap.size wi w') : Stb w b w' := ⟨h.box.below hb h.box.lt, h.bel.trans (hb.mono h.bel.size)⟩
theorem Stb.new (w : World) (b : Bn) : Stb w b (w.alloc (.cells (Bn_.C b) 31)) := ⟨Bn_.Box.new w b, (Below.refl _ _).alloc (Nat.le_refl _) _⟩
end Go.Proofs.YtojiffpmmgjpjaaDoor
