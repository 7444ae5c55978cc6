/-
  api.Beacon AS A WORD: its cells, its value, the load and the store of the whole in one step (written by gen_word.py).
-/
import Derived.Test.YtojiffpmmgjpjaaDoorRows
import Derived.Test.YtojiffpmmgjpjaaDoorBnMath
import Derived.OpenShut
import Derived.ProofKit
import Derived.Deep.Slices
import Derived.Deep.OwnRows
import Derived.Below
import Derived.WalkKit
import Derived.Deep.WholeRow
import Derived.Lib.Hide
namespace Go.Proofs.YtojiffpmmgjpjaaDoor.Bn_
open Go.ChangeShapes Go.WideShapes Go.RowKit Go.Deep Go.Bn

/-- The cells of one, a word. -/
def C (x : Bn) : Array Value := #[.int .i64 x.st, .int .i64 x.iv, .string x.nm, .int .i64 x.ch, .int .i64 x.ld, .int .i64 x.tm.c, .int .i64 x.tm.p, .bool x.tm.g, .int .u64 x.tm.m, .int .i64 x.sc, .int .i64 x.sn, .int .i64 x.p0.a, .int .i64 x.p0.i, .int .i64 x.p0.x, .int .i64 x.p0.t, .int .i64 x.p1.a, .int .i64 x.p1.i, .int .i64 x.p1.x, .int .i64 x.p1.t, .int .i64 x.p2.a, .int .i64 x.p2.i, .int .i64 x.p2.x, .int .i64 x.p2.t, .int .i64 x.p3.a, .int .i64 x.p3.i, .int .i64 x.p3.x, .int .i64 x.p3.t]
/-- One as a value. -/
def v (x : Bn) : Value := .agg #[.int .i64 x.st, .int .i64 x.iv, .string x.nm, .int .i64 x.ch, .int .i64 x.ld, .int .i64 x.tm.c, .int .i64 x.tm.p, .bool x.tm.g, .int .u64 x.tm.m, .int .i64 x.sc, .int .i64 x.sn, .int .i64 x.p0.a, .int .i64 x.p0.i, .int .i64 x.p0.x, .int .i64 x.p0.t, .int .i64 x.p1.a, .int .i64 x.p1.i, .int .i64 x.p1.x, .int .i64 x.p1.t, .int .i64 x.p2.a, .int .i64 x.p2.i, .int .i64 x.p2.x, .int .i64 x.p2.t, .int .i64 x.p3.a, .int .i64 x.p3.i, .int .i64 x.p3.x, .int .i64 x.p3.t]
theorem C0 (x : Bn) : (C x)[0]? = some (.int .i64 x.st) := rfl
theorem C1 (x : Bn) : (C x)[1]? = some (.int .i64 x.iv) := rfl
theorem C2 (x : Bn) : (C x)[2]? = some (.string x.nm) := rfl
theorem C3 (x : Bn) : (C x)[3]? = some (.int .i64 x.ch) := rfl
theorem C4 (x : Bn) : (C x)[4]? = some (.int .i64 x.ld) := rfl
theorem C5 (x : Bn) : (C x)[5]? = some (.int .i64 x.tm.c) := rfl
theorem C6 (x : Bn) : (C x)[6]? = some (.int .i64 x.tm.p) := rfl
theorem C7 (x : Bn) : (C x)[7]? = some (.bool x.tm.g) := rfl
theorem C8 (x : Bn) : (C x)[8]? = some (.int .u64 x.tm.m) := rfl
theorem C9 (x : Bn) : (C x)[9]? = some (.int .i64 x.sc) := rfl
theorem C10 (x : Bn) : (C x)[10]? = some (.int .i64 x.sn) := rfl
theorem C11 (x : Bn) : (C x)[11]? = some (.int .i64 x.p0.a) := rfl
theorem C12 (x : Bn) : (C x)[12]? = some (.int .i64 x.p0.i) := rfl
theorem C13 (x : Bn) : (C x)[13]? = some (.int .i64 x.p0.x) := rfl
theorem C14 (x : Bn) : (C x)[14]? = some (.int .i64 x.p0.t) := rfl
theorem C15 (x : Bn) : (C x)[15]? = some (.int .i64 x.p1.a) := rfl
theorem C16 (x : Bn) : (C x)[16]? = some (.int .i64 x.p1.i) := rfl
theorem C17 (x : Bn) : (C x)[17]? = some (.int .i64 x.p1.x) := rfl
theorem C18 (x : Bn) : (C x)[18]? = some (.int .i64 x.p1.t) := rfl
theorem C19 (x : Bn) : (C x)[19]? = some (.int .i64 x.p2.a) := rfl
theorem C20 (x : Bn) : (C x)[20]? = some (.int .i64 x.p2.i) := rfl
theorem C21 (x : Bn) : (C x)[21]? = some (.int .i64 x.p2.x) := rfl
theorem C22 (x : Bn) : (C x)[22]? = some (.int .i64 x.p2.t) := rfl
theorem C23 (x : Bn) : (C x)[23]? = some (.int .i64 x.p3.a) := rfl
theorem C24 (x : Bn) : (C x)[24]? = some (.int .i64 x.p3.i) := rfl
theorem C25 (x : Bn) : (C x)[25]? = some (.int .i64 x.p3.x) := rfl
theorem C26 (x : Bn) : (C x)[26]? = some (.int .i64 x.p3.t) := rfl
theorem Csize (x : Bn) : (C x).size = 27 := rfl
theorem v_cells (x : Bn) : (v x).cells = C x := rfl
theorem v_match (x : Bn) : Value.cells.match_1 (fun _ => Array Value) (v x) (fun cs => cs) (fun u => #[u]) = C x := rfl
theorem v_agg (x : Bn) : v x = .agg (C x) := rfl
theorem C_ones (x : Bn) : (C x).all (·.oneCell') = true := by simp [C, Value.oneCell']
/-- A block of its own holds one. -/
def Box (W : World) (b : Nat) (x : Bn) : Prop := W.heap[b]? = some (.cells (C x) 31 (0, 0))
theorem Box.lt {W : World} {b : Nat} {x : Bn} (h : Box W b x) : b < W.heap.size := (Array.getElem?_eq_some_iff.1 h).1
theorem Box.below {W W' : World} {b B : Nat} {x : Bn} (h : Box W b x) (hb : Below B W W') (hlt : b < B) : Box W' b x := (hb.block b hlt).trans h
theorem Box.drew {W : World} {b : Nat} {x : Bn} (h : Box W b x) : Box W.drew b x := h
theorem Box.new (W : World) (x : Bn) : Box (W.alloc (.cells (C x) 31)) W.heap.size x := by
  show (W.heap.push _)[W.heap.size]? = _
  rw [Array.getElem?_push, if_pos rfl]
theorem Box.frozen {W : World} {b : Nat} {x : Bn} (h : Box W b x) (j : Nat) : W.frozen? ⟨b, j, none⟩ = false := by
  unfold Box at h
  simp [World.frozen?, h]
/-- The load of the whole, a word. -/
noncomputable def LoadF (a : Addr) : Sem Value := loadVar 31 a
theorem loadF (a : Addr) : loadVar 31 a = LoadF a := rfl
noncomputable def StoreF (a : Addr) (u : Value) : Sem Unit := storeVar 31 a u
theorem storeF (a : Addr) (u : Value) : storeVar 31 a u = StoreF a u := rfl
theorem sz : (Tryd.prog.info? 31).map (·.size) = some 27 := by kernel_rfl
theorem Box.loadF {W : World} {b : Nat} {x : Bn} (h : Box W b x) : (LoadF ⟨b, 0, none⟩).run Tryd.prog W = .ok (v x) W := by
  exact run_loadVar_row W b 31 31 (C x) (0, 0) _ h Tryd.underlying31 rfl sz
theorem Box.all {W : World} {b : Nat} {x : Bn} (h : Box W b x) : ∀ j : Nat, W.cell? ⟨b, j, none⟩ = (C x)[j]? := fun j => cell_of_row W b j (C x) _ _ h
theorem Box.allocC {W : World} {b : Nat} {x : Bn} (h : Box W b x) (o : Obj) : Box (W.alloc o) b x := h.below ((Below.refl _ _).alloc (Nat.le_refl _) _) h.lt
theorem loadF_new (W : World) (x : Bn) : (LoadF ⟨W.heap.size, 0, none⟩).run Tryd.prog (W.alloc (.cells (C x) 31)) = .ok (v x) (W.alloc (.cells (C x) 31)) := (Box.new W x).loadF
theorem C_zero : C zb = #[.int .i64 0, .int .i64 0, .string ⟨#[]⟩, .int .i64 0, .int .i64 0, .int .i64 0, .int .i64 0, .bool false, .int .u64 0, .int .i64 0, .int .i64 0, .int .i64 0, .int .i64 0, .int .i64 0, .int .i64 0, .int .i64 0, .int .i64 0, .int .i64 0, .int .i64 0, .int .i64 0, .int .i64 0, .int .i64 0, .int .i64 0, .int .i64 0, .int .i64 0, .int .i64 0, .int .i64 0] := rfl
theorem v_zero : (.agg #[.int .i64 0, .int .i64 0, .string ⟨#[]⟩, .int .i64 0, .int .i64 0, .int .i64 0, .int .i64 0, .bool false, .int .u64 0, .int .i64 0, .int .i64 0, .int .i64 0, .int .i64 0, .int .i64 0, .int .i64 0, .int .i64 0, .int .i64 0, .int .i64 0, .int .i64 0, .int .i64 0, .int .i64 0, .int .i64 0, .int .i64 0, .int .i64 0, .int .i64 0, .int .i64 0, .int .i64 0] : Value) = v zb := rfl
theorem storeF_new (W : World) (x y : Bn) : (StoreF ⟨W.heap.size, 0, none⟩ (v y)).run Tryd.prog (W.alloc (.cells (C x) 31)) = .ok () (W.alloc (.cells (C y) 31)) :=
  run_storeVar_new W 31 (C x) (C y) sz rfl (C_ones y)
theorem storeF_zero (W : World) (y : Bn) : (StoreF ⟨W.heap.size, 0, none⟩ (v y)).run Tryd.prog (W.alloc (.cells #[.int .i64 0, .int .i64 0, .string ⟨#[]⟩, .int .i64 0, .int .i64 0, .int .i64 0, .int .i64 0, .bool false, .int .u64 0, .int .i64 0, .int .i64 0, .int .i64 0, .int .i64 0, .int .i64 0, .int .i64 0, .int .i64 0, .int .i64 0, .int .i64 0, .int .i64 0, .int .i64 0, .int .i64 0, .int .i64 0, .int .i64 0, .int .i64 0, .int .i64 0, .int .i64 0, .int .i64 0] 31)) = .ok () (W.alloc (.cells (C y) 31)) := storeF_new W zb y
theorem Box.set0 {W : World} {b : Nat} {x : Bn} (h : Box W b x) (u : Int) : Box (W.setCell ⟨b, 0, none⟩ (.int .i64 u)) b { x with st := u } := by
  unfold Box at *; simp [World.setCell, Array.getElem?_modify, h]; rfl
theorem Box.set1 {W : World} {b : Nat} {x : Bn} (h : Box W b x) (u : Int) : Box (W.setCell ⟨b, 1, none⟩ (.int .i64 u)) b { x with iv := u } := by
  unfold Box at *; simp [World.setCell, Array.getElem?_modify, h]; rfl
theorem Box.set2 {W : World} {b : Nat} {x : Bn} (h : Box W b x) (u : ByteArray) : Box (W.setCell ⟨b, 2, none⟩ (.string u)) b { x with nm := u } := by
  unfold Box at *; simp [World.setCell, Array.getElem?_modify, h]; rfl
theorem Box.set3 {W : World} {b : Nat} {x : Bn} (h : Box W b x) (u : Int) : Box (W.setCell ⟨b, 3, none⟩ (.int .i64 u)) b { x with ch := u } := by
  unfold Box at *; simp [World.setCell, Array.getElem?_modify, h]; rfl
theorem Box.set4 {W : World} {b : Nat} {x : Bn} (h : Box W b x) (u : Int) : Box (W.setCell ⟨b, 4, none⟩ (.int .i64 u)) b { x with ld := u } := by
  unfold Box at *; simp [World.setCell, Array.getElem?_modify, h]; rfl
theorem Box.set5 {W : World} {b : Nat} {x : Bn} (h : Box W b x) (u : Int) : Box (W.setCell ⟨b, 5, none⟩ (.int .i64 u)) b { x with tm.c := u } := by
  unfold Box at *; simp [World.setCell, Array.getElem?_modify, h]; rfl
theorem Box.set6 {W : World} {b : Nat} {x : Bn} (h : Box W b x) (u : Int) : Box (W.setCell ⟨b, 6, none⟩ (.int .i64 u)) b { x with tm.p := u } := by
  unfold Box at *; simp [World.setCell, Array.getElem?_modify, h]; rfl
theorem Box.set7 {W : World} {b : Nat} {x : Bn} (h : Box W b x) (u : Bool) : Box (W.setCell ⟨b, 7, none⟩ (.bool u)) b { x with tm.g := u } := by
  unfold Box at *; simp [World.setCell, Array.getElem?_modify, h]; rfl
theorem Box.set8 {W : World} {b : Nat} {x : Bn} (h : Box W b x) (u : Int) : Box (W.setCell ⟨b, 8, none⟩ (.int .u64 u)) b { x with tm.m := u } := by
  unfold Box at *; simp [World.setCell, Array.getElem?_modify, h]; rfl
theorem Box.set9 {W : World} {b : Nat} {x : Bn} (h : Box W b x) (u : Int) : Box (W.setCell ⟨b, 9, none⟩ (.int .i64 u)) b { x with sc := u } := by
  unfold Box at *; simp [World.setCell, Array.getElem?_modify, h]; rfl
theorem Box.set10 {W : World} {b : Nat} {x : Bn} (h : Box W b x) (u : Int) : Box (W.setCell ⟨b, 10, none⟩ (.int .i64 u)) b { x with sn := u } := by
  unfold Box at *; simp [World.setCell, Array.getElem?_modify, h]; rfl
theorem Box.set11 {W : World} {b : Nat} {x : Bn} (h : Box W b x) (u : Int) : Box (W.setCell ⟨b, 11, none⟩ (.int .i64 u)) b { x with p0.a := u } := by
  unfold Box at *; simp [World.setCell, Array.getElem?_modify, h]; rfl
theorem Box.set12 {W : World} {b : Nat} {x : Bn} (h : Box W b x) (u : Int) : Box (W.setCell ⟨b, 12, none⟩ (.int .i64 u)) b { x with p0.i := u } := by
  unfold Box at *; simp [World.setCell, Array.getElem?_modify, h]; rfl
theorem Box.set13 {W : World} {b : Nat} {x : Bn} (h : Box W b x) (u : Int) : Box (W.setCell ⟨b, 13, none⟩ (.int .i64 u)) b { x with p0.x := u } := by
  unfold Box at *; simp [World.setCell, Array.getElem?_modify, h]; rfl
theorem Box.set14 {W : World} {b : Nat} {x : Bn} (h : Box W b x) (u : Int) : Box (W.setCell ⟨b, 14, none⟩ (.int .i64 u)) b { x with p0.t := u } := by
  unfold Box at *; simp [World.setCell, Array.getElem?_modify, h]; rfl
theorem Box.set15 {W : World} {b : Nat} {x : Bn} (h : Box W b x) (u : Int) : Box (W.setCell ⟨b, 15, none⟩ (.int .i64 u)) b { x with p1.a := u } := by
  unfold Box at *; simp [World.setCell, Array.getElem?_modify, h]; rfl
theorem Box.set16 {W : World} {b : Nat} {x : Bn} (h : Box W b x) (u : Int) : Box (W.setCell ⟨b, 16, none⟩ (.int .i64 u)) b { x with p1.i := u } := by
  unfold Box at *; simp [World.setCell, Array.getElem?_modify, h]; rfl
theorem Box.set17 {W : World} {b : Nat} {x : Bn} (h : Box W b x) (u : Int) : Box (W.setCell ⟨b, 17, none⟩ (.int .i64 u)) b { x with p1.x := u } := by
  unfold Box at *; simp [World.setCell, Array.getElem?_modify, h]; rfl
theorem Box.set18 {W : World} {b : Nat} {x : Bn} (h : Box W b x) (u : Int) : Box (W.setCell ⟨b, 18, none⟩ (.int .i64 u)) b { x with p1.t := u } := by
  unfold Box at *; simp [World.setCell, Array.getElem?_modify, h]; rfl
theorem Box.set19 {W : World} {b : Nat} {x : Bn} (h : Box W b x) (u : Int) : Box (W.setCell ⟨b, 19, none⟩ (.int .i64 u)) b { x with p2.a := u } := by
  unfold Box at *; simp [World.setCell, Array.getElem?_modify, h]; rfl
theorem Box.set20 {W : World} {b : Nat} {x : Bn} (h : Box W b x) (u : Int) : Box (W.setCell ⟨b, 20, none⟩ (.int .i64 u)) b { x with p2.i := u } := by
  unfold Box at *; simp [World.setCell, Array.getElem?_modify, h]; rfl
theorem Box.set21 {W : World} {b : Nat} {x : Bn} (h : Box W b x) (u : Int) : Box (W.setCell ⟨b, 21, none⟩ (.int .i64 u)) b { x with p2.x := u } := by
  unfold Box at *; simp [World.setCell, Array.getElem?_modify, h]; rfl
theorem Box.set22 {W : World} {b : Nat} {x : Bn} (h : Box W b x) (u : Int) : Box (W.setCell ⟨b, 22, none⟩ (.int .i64 u)) b { x with p2.t := u } := by
  unfold Box at *; simp [World.setCell, Array.getElem?_modify, h]; rfl
theorem Box.set23 {W : World} {b : Nat} {x : Bn} (h : Box W b x) (u : Int) : Box (W.setCell ⟨b, 23, none⟩ (.int .i64 u)) b { x with p3.a := u } := by
  unfold Box at *; simp [World.setCell, Array.getElem?_modify, h]; rfl
theorem Box.set24 {W : World} {b : Nat} {x : Bn} (h : Box W b x) (u : Int) : Box (W.setCell ⟨b, 24, none⟩ (.int .i64 u)) b { x with p3.i := u } := by
  unfold Box at *; simp [World.setCell, Array.getElem?_modify, h]; rfl
theorem Box.set25 {W : World} {b : Nat} {x : Bn} (h : Box W b x) (u : Int) : Box (W.setCell ⟨b, 25, none⟩ (.int .i64 u)) b { x with p3.x := u } := by
  unfold Box at *; simp [World.setCell, Array.getElem?_modify, h]; rfl
theorem Box.set26 {W : World} {b : Nat} {x : Bn} (h : Box W b x) (u : Int) : Box (W.setCell ⟨b, 26, none⟩ (.int .i64 u)) b { x with p3.t := u } := by
  unfold Box at *; simp [World.setCell, Array.getElem?_modify, h]; rfl
theorem Box.other {W : World} {b : Nat} {x : Bn} (h : Box W b x) {a : Addr} (ha : b ≠ a.block) (u : Value) : Box (W.setCell a u) b x := (Below.heap_setCell _ _ _ _ ha).trans h
theorem Box.storeF {W : World} {b : Nat} {x : Bn} (h : Box W b x) (y : Bn) : (StoreF ⟨b, 0, none⟩ (v y)).run Tryd.prog W = .ok () (W.setRow b (C y)) := run_storeVar_row W b 31 31 (C x) (C y) h sz rfl (C_ones y)
theorem Box.setRow {W : World} {b : Nat} {x : Bn} (h : Box W b x) (y : Bn) : Box (W.setRow b (C y)) b y := by
  unfold Box at *; simp [World.setRow, Array.getElem?_modify, h]
theorem setRow_other {W : World} {b g : Nat} (h : g ≠ b) (c : Array Value) : (W.setRow b c).heap[g]? = W.heap[g]? := by
  simp only [World.setRow, Array.getElem?_modify]; rw [if_neg (fun e => h e.symm)]
end Go.Proofs.YtojiffpmmgjpjaaDoor.Bn_
