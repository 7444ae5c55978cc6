/-
  [5]api.Last AS A WORD: its cells, its value, the load and the store of the whole in one step (written by gen_word.py).
-/
import Derived.Test.YtacjdgglfeemcaaRows
import Derived.Test.YtacjdgglfeemcaaHiMath
import Derived.OpenShut
import Derived.ProofKit
import Derived.Deep.Slices
import Derived.Deep.OwnRows
import Derived.Below
import Derived.WalkKit
import Derived.Deep.WholeRow
import Derived.Lib.Hide
namespace Go.Proofs.Ytacjdgglfeemcaa.Fw_
open Go.ChangeShapes Go.WideShapes Go.RowKit Go.Deep Go.Hi

/-- The cells of one, a word. -/
def C (x : Fl) : Array Value := #[.bool x.a0.v, .int .i64 x.a0.q, .int .i64 x.a0.f, .bool x.a1.v, .int .i64 x.a1.q, .int .i64 x.a1.f, .bool x.a2.v, .int .i64 x.a2.q, .int .i64 x.a2.f, .bool x.a3.v, .int .i64 x.a3.q, .int .i64 x.a3.f, .bool x.a4.v, .int .i64 x.a4.q, .int .i64 x.a4.f]
/-- One as a value. -/
def v (x : Fl) : Value := .agg #[.bool x.a0.v, .int .i64 x.a0.q, .int .i64 x.a0.f, .bool x.a1.v, .int .i64 x.a1.q, .int .i64 x.a1.f, .bool x.a2.v, .int .i64 x.a2.q, .int .i64 x.a2.f, .bool x.a3.v, .int .i64 x.a3.q, .int .i64 x.a3.f, .bool x.a4.v, .int .i64 x.a4.q, .int .i64 x.a4.f]
theorem C0 (x : Fl) : (C x)[0]? = some (.bool x.a0.v) := rfl
theorem C1 (x : Fl) : (C x)[1]? = some (.int .i64 x.a0.q) := rfl
theorem C2 (x : Fl) : (C x)[2]? = some (.int .i64 x.a0.f) := rfl
theorem C3 (x : Fl) : (C x)[3]? = some (.bool x.a1.v) := rfl
theorem C4 (x : Fl) : (C x)[4]? = some (.int .i64 x.a1.q) := rfl
theorem C5 (x : Fl) : (C x)[5]? = some (.int .i64 x.a1.f) := rfl
theorem C6 (x : Fl) : (C x)[6]? = some (.bool x.a2.v) := rfl
theorem C7 (x : Fl) : (C x)[7]? = some (.int .i64 x.a2.q) := rfl
theorem C8 (x : Fl) : (C x)[8]? = some (.int .i64 x.a2.f) := rfl
theorem C9 (x : Fl) : (C x)[9]? = some (.bool x.a3.v) := rfl
theorem C10 (x : Fl) : (C x)[10]? = some (.int .i64 x.a3.q) := rfl
theorem C11 (x : Fl) : (C x)[11]? = some (.int .i64 x.a3.f) := rfl
theorem C12 (x : Fl) : (C x)[12]? = some (.bool x.a4.v) := rfl
theorem C13 (x : Fl) : (C x)[13]? = some (.int .i64 x.a4.q) := rfl
theorem C14 (x : Fl) : (C x)[14]? = some (.int .i64 x.a4.f) := rfl
theorem Csize (x : Fl) : (C x).size = 15 := rfl
theorem v_cells (x : Fl) : (v x).cells = C x := rfl
theorem v_match (x : Fl) : Value.cells.match_1 (fun _ => Array Value) (v x) (fun cs => cs) (fun u => #[u]) = C x := rfl
theorem v_agg (x : Fl) : v x = .agg (C x) := rfl
theorem C_ones (x : Fl) : (C x).all (·.oneCell') = true := by simp [C, Value.oneCell']
/-- A block of its own holds one. -/
def Box (W : World) (b : Nat) (x : Fl) : Prop := W.heap[b]? = some (.cells (C x) 42 (0, 0))
theorem Box.lt {W : World} {b : Nat} {x : Fl} (h : Box W b x) : b < W.heap.size := (Array.getElem?_eq_some_iff.1 h).1
theorem Box.below {W W' : World} {b B : Nat} {x : Fl} (h : Box W b x) (hb : Below B W W') (hlt : b < B) : Box W' b x := (hb.block b hlt).trans h
theorem Box.drew {W : World} {b : Nat} {x : Fl} (h : Box W b x) : Box W.drew b x := h
theorem Box.new (W : World) (x : Fl) : Box (W.alloc (.cells (C x) 42)) W.heap.size x := by
  show (W.heap.push _)[W.heap.size]? = _
  rw [Array.getElem?_push, if_pos rfl]
theorem Box.frozen {W : World} {b : Nat} {x : Fl} (h : Box W b x) (j : Nat) : W.frozen? ⟨b, j, none⟩ = false := by
  unfold Box at h
  simp [World.frozen?, h]
/-- The load of the whole, a word. -/
noncomputable def LoadF (a : Addr) : Sem Value := loadVar 42 a
theorem loadF (a : Addr) : loadVar 42 a = LoadF a := rfl
noncomputable def StoreF (a : Addr) (u : Value) : Sem Unit := storeVar 42 a u
theorem storeF (a : Addr) (u : Value) : storeVar 42 a u = StoreF a u := rfl
theorem sz : (Try.prog.info? 42).map (·.size) = some 15 := by kernel_rfl
theorem Box.loadF {W : World} {b : Nat} {x : Fl} (h : Box W b x) : (LoadF ⟨b, 0, none⟩).run Try.prog W = .ok (v x) W := by
  exact run_loadVar_row W b 42 42 (C x) (0, 0) _ h Try.underlying42 rfl sz
theorem Box.all {W : World} {b : Nat} {x : Fl} (h : Box W b x) : ∀ j : Nat, W.cell? ⟨b, j, none⟩ = (C x)[j]? := fun j => cell_of_row W b j (C x) _ _ h
theorem Box.allocC {W : World} {b : Nat} {x : Fl} (h : Box W b x) (o : Obj) : Box (W.alloc o) b x := h.below ((Below.refl _ _).alloc (Nat.le_refl _) _) h.lt
theorem loadF_new (W : World) (x : Fl) : (LoadF ⟨W.heap.size, 0, none⟩).run Try.prog (W.alloc (.cells (C x) 42)) = .ok (v x) (W.alloc (.cells (C x) 42)) := (Box.new W x).loadF
theorem C_zero : C zf = #[.bool false, .int .i64 0, .int .i64 0, .bool false, .int .i64 0, .int .i64 0, .bool false, .int .i64 0, .int .i64 0, .bool false, .int .i64 0, .int .i64 0, .bool false, .int .i64 0, .int .i64 0] := rfl
theorem v_zero : (.agg #[.bool false, .int .i64 0, .int .i64 0, .bool false, .int .i64 0, .int .i64 0, .bool false, .int .i64 0, .int .i64 0, .bool false, .int .i64 0, .int .i64 0, .bool false, .int .i64 0, .int .i64 0] : Value) = v zf := rfl
theorem storeF_new (W : World) (x y : Fl) : (StoreF ⟨W.heap.size, 0, none⟩ (v y)).run Try.prog (W.alloc (.cells (C x) 42)) = .ok () (W.alloc (.cells (C y) 42)) :=
  run_storeVar_new W 42 (C x) (C y) sz rfl (C_ones y)
theorem storeF_zero (W : World) (y : Fl) : (StoreF ⟨W.heap.size, 0, none⟩ (v y)).run Try.prog (W.alloc (.cells #[.bool false, .int .i64 0, .int .i64 0, .bool false, .int .i64 0, .int .i64 0, .bool false, .int .i64 0, .int .i64 0, .bool false, .int .i64 0, .int .i64 0, .bool false, .int .i64 0, .int .i64 0] 42)) = .ok () (W.alloc (.cells (C y) 42)) := storeF_new W zf y
theorem Box.set0 {W : World} {b : Nat} {x : Fl} (h : Box W b x) (u : Bool) : Box (W.setCell ⟨b, 0, none⟩ (.bool u)) b { x with a0.v := u } := by
  unfold Box at *; simp [World.setCell, Array.getElem?_modify, h]; rfl
theorem Box.set1 {W : World} {b : Nat} {x : Fl} (h : Box W b x) (u : Int) : Box (W.setCell ⟨b, 1, none⟩ (.int .i64 u)) b { x with a0.q := u } := by
  unfold Box at *; simp [World.setCell, Array.getElem?_modify, h]; rfl
theorem Box.set2 {W : World} {b : Nat} {x : Fl} (h : Box W b x) (u : Int) : Box (W.setCell ⟨b, 2, none⟩ (.int .i64 u)) b { x with a0.f := u } := by
  unfold Box at *; simp [World.setCell, Array.getElem?_modify, h]; rfl
theorem Box.set3 {W : World} {b : Nat} {x : Fl} (h : Box W b x) (u : Bool) : Box (W.setCell ⟨b, 3, none⟩ (.bool u)) b { x with a1.v := u } := by
  unfold Box at *; simp [World.setCell, Array.getElem?_modify, h]; rfl
theorem Box.set4 {W : World} {b : Nat} {x : Fl} (h : Box W b x) (u : Int) : Box (W.setCell ⟨b, 4, none⟩ (.int .i64 u)) b { x with a1.q := u } := by
  unfold Box at *; simp [World.setCell, Array.getElem?_modify, h]; rfl
theorem Box.set5 {W : World} {b : Nat} {x : Fl} (h : Box W b x) (u : Int) : Box (W.setCell ⟨b, 5, none⟩ (.int .i64 u)) b { x with a1.f := u } := by
  unfold Box at *; simp [World.setCell, Array.getElem?_modify, h]; rfl
theorem Box.set6 {W : World} {b : Nat} {x : Fl} (h : Box W b x) (u : Bool) : Box (W.setCell ⟨b, 6, none⟩ (.bool u)) b { x with a2.v := u } := by
  unfold Box at *; simp [World.setCell, Array.getElem?_modify, h]; rfl
theorem Box.set7 {W : World} {b : Nat} {x : Fl} (h : Box W b x) (u : Int) : Box (W.setCell ⟨b, 7, none⟩ (.int .i64 u)) b { x with a2.q := u } := by
  unfold Box at *; simp [World.setCell, Array.getElem?_modify, h]; rfl
theorem Box.set8 {W : World} {b : Nat} {x : Fl} (h : Box W b x) (u : Int) : Box (W.setCell ⟨b, 8, none⟩ (.int .i64 u)) b { x with a2.f := u } := by
  unfold Box at *; simp [World.setCell, Array.getElem?_modify, h]; rfl
theorem Box.set9 {W : World} {b : Nat} {x : Fl} (h : Box W b x) (u : Bool) : Box (W.setCell ⟨b, 9, none⟩ (.bool u)) b { x with a3.v := u } := by
  unfold Box at *; simp [World.setCell, Array.getElem?_modify, h]; rfl
theorem Box.set10 {W : World} {b : Nat} {x : Fl} (h : Box W b x) (u : Int) : Box (W.setCell ⟨b, 10, none⟩ (.int .i64 u)) b { x with a3.q := u } := by
  unfold Box at *; simp [World.setCell, Array.getElem?_modify, h]; rfl
theorem Box.set11 {W : World} {b : Nat} {x : Fl} (h : Box W b x) (u : Int) : Box (W.setCell ⟨b, 11, none⟩ (.int .i64 u)) b { x with a3.f := u } := by
  unfold Box at *; simp [World.setCell, Array.getElem?_modify, h]; rfl
theorem Box.set12 {W : World} {b : Nat} {x : Fl} (h : Box W b x) (u : Bool) : Box (W.setCell ⟨b, 12, none⟩ (.bool u)) b { x with a4.v := u } := by
  unfold Box at *; simp [World.setCell, Array.getElem?_modify, h]; rfl
theorem Box.set13 {W : World} {b : Nat} {x : Fl} (h : Box W b x) (u : Int) : Box (W.setCell ⟨b, 13, none⟩ (.int .i64 u)) b { x with a4.q := u } := by
  unfold Box at *; simp [World.setCell, Array.getElem?_modify, h]; rfl
theorem Box.set14 {W : World} {b : Nat} {x : Fl} (h : Box W b x) (u : Int) : Box (W.setCell ⟨b, 14, none⟩ (.int .i64 u)) b { x with a4.f := u } := by
  unfold Box at *; simp [World.setCell, Array.getElem?_modify, h]; rfl
theorem Box.other {W : World} {b : Nat} {x : Fl} (h : Box W b x) {a : Addr} (ha : b ≠ a.block) (u : Value) : Box (W.setCell a u) b x := (Below.heap_setCell _ _ _ _ ha).trans h
theorem Box.storeF {W : World} {b : Nat} {x : Fl} (h : Box W b x) (y : Fl) : (StoreF ⟨b, 0, none⟩ (v y)).run Try.prog W = .ok () (W.setRow b (C y)) := run_storeVar_row W b 42 42 (C x) (C y) h sz rfl (C_ones y)
theorem Box.setRow {W : World} {b : Nat} {x : Fl} (h : Box W b x) (y : Fl) : Box (W.setRow b (C y)) b y := by
  unfold Box at *; simp [World.setRow, Array.getElem?_modify, h]
theorem setRow_other {W : World} {b g : Nat} (h : g ≠ b) (c : Array Value) : (W.setRow b c).heap[g]? = W.heap[g]? := by
  simp only [World.setRow, Array.getElem?_modify]; rw [if_neg (fun e => h e.symm)]
end Go.Proofs.Ytacjdgglfeemcaa.Fw_
