/-
  api.Body AS A WORD: its cells, its value, the load and the store of the whole in one step (written by gen_word.py).
-/
import Derived.Test.YtcpfkikifhcdmaaRows
import Derived.Test.YtcpfkikifhcdmaaMgMath
import Derived.OpenShut
import Derived.ProofKit
import Derived.Deep.Slices
import Derived.Deep.OwnRows
import Derived.Below
import Derived.WalkKit
import Derived.Deep.WholeRow
import Derived.Lib.Hide
namespace Go.Proofs.Ytcpfkikifhcdmaa.Bd_
open Go.ChangeShapes Go.WideShapes Go.RowKit Go.Deep Go.Mg

/-- The cells of one, a word. -/
def C (x : Bd) : Array Value := #[.int .i64 x.kd, .int .i64 x.sp, .int .i64 x.st, .int .i64 x.hn, .string x.nm, .int .i64 x.ls, .int .i64 x.dv, .int .u64 x.od, .int .i64 x.ai, .int .i64 x.ct, .int .i64 x.sr, .int .i64 x.sz, .int .i64 x.ch, .int .i64 x.cn, .int .i64 x.pf, .int .i64 x.pp, .int .i64 x.pl]
/-- One as a value. -/
def v (x : Bd) : Value := .agg #[.int .i64 x.kd, .int .i64 x.sp, .int .i64 x.st, .int .i64 x.hn, .string x.nm, .int .i64 x.ls, .int .i64 x.dv, .int .u64 x.od, .int .i64 x.ai, .int .i64 x.ct, .int .i64 x.sr, .int .i64 x.sz, .int .i64 x.ch, .int .i64 x.cn, .int .i64 x.pf, .int .i64 x.pp, .int .i64 x.pl]
theorem C0 (x : Bd) : (C x)[0]? = some (.int .i64 x.kd) := rfl
theorem C1 (x : Bd) : (C x)[1]? = some (.int .i64 x.sp) := rfl
theorem C2 (x : Bd) : (C x)[2]? = some (.int .i64 x.st) := rfl
theorem C3 (x : Bd) : (C x)[3]? = some (.int .i64 x.hn) := rfl
theorem C4 (x : Bd) : (C x)[4]? = some (.string x.nm) := rfl
theorem C5 (x : Bd) : (C x)[5]? = some (.int .i64 x.ls) := rfl
theorem C6 (x : Bd) : (C x)[6]? = some (.int .i64 x.dv) := rfl
theorem C7 (x : Bd) : (C x)[7]? = some (.int .u64 x.od) := rfl
theorem C8 (x : Bd) : (C x)[8]? = some (.int .i64 x.ai) := rfl
theorem C9 (x : Bd) : (C x)[9]? = some (.int .i64 x.ct) := rfl
theorem C10 (x : Bd) : (C x)[10]? = some (.int .i64 x.sr) := rfl
theorem C11 (x : Bd) : (C x)[11]? = some (.int .i64 x.sz) := rfl
theorem C12 (x : Bd) : (C x)[12]? = some (.int .i64 x.ch) := rfl
theorem C13 (x : Bd) : (C x)[13]? = some (.int .i64 x.cn) := rfl
theorem C14 (x : Bd) : (C x)[14]? = some (.int .i64 x.pf) := rfl
theorem C15 (x : Bd) : (C x)[15]? = some (.int .i64 x.pp) := rfl
theorem C16 (x : Bd) : (C x)[16]? = some (.int .i64 x.pl) := rfl
theorem Csize (x : Bd) : (C x).size = 17 := rfl
theorem v_cells (x : Bd) : (v x).cells = C x := rfl
theorem v_match (x : Bd) : Value.cells.match_1 (fun _ => Array Value) (v x) (fun cs => cs) (fun u => #[u]) = C x := rfl
theorem v_agg (x : Bd) : v x = .agg (C x) := rfl
theorem C_ones (x : Bd) : (C x).all (·.oneCell') = true := by simp [C, Value.oneCell']
/-- A block of its own holds one. -/
def Box (W : World) (b : Nat) (x : Bd) : Prop := W.heap[b]? = some (.cells (C x) 27 (0, 0))
theorem Box.lt {W : World} {b : Nat} {x : Bd} (h : Box W b x) : b < W.heap.size := (Array.getElem?_eq_some_iff.1 h).1
theorem Box.below {W W' : World} {b B : Nat} {x : Bd} (h : Box W b x) (hb : Below B W W') (hlt : b < B) : Box W' b x := (hb.block b hlt).trans h
theorem Box.drew {W : World} {b : Nat} {x : Bd} (h : Box W b x) : Box W.drew b x := h
theorem Box.new (W : World) (x : Bd) : Box (W.alloc (.cells (C x) 27)) W.heap.size x := by
  show (W.heap.push _)[W.heap.size]? = _
  rw [Array.getElem?_push, if_pos rfl]
theorem Box.frozen {W : World} {b : Nat} {x : Bd} (h : Box W b x) (j : Nat) : W.frozen? ⟨b, j, none⟩ = false := by
  unfold Box at h
  simp [World.frozen?, h]
/-- The load of the whole, a word. -/
noncomputable def LoadF (a : Addr) : Sem Value := loadVar 27 a
theorem loadF (a : Addr) : loadVar 27 a = LoadF a := rfl
noncomputable def StoreF (a : Addr) (u : Value) : Sem Unit := storeVar 27 a u
theorem storeF (a : Addr) (u : Value) : storeVar 27 a u = StoreF a u := rfl
theorem sz : (Try.prog.info? 27).map (·.size) = some 17 := by kernel_rfl
theorem Box.loadF {W : World} {b : Nat} {x : Bd} (h : Box W b x) : (LoadF ⟨b, 0, none⟩).run Try.prog W = .ok (v x) W := by
  exact run_loadVar_row W b 27 27 (C x) (0, 0) _ h Try.underlying27 rfl sz
theorem Box.all {W : World} {b : Nat} {x : Bd} (h : Box W b x) : ∀ j : Nat, W.cell? ⟨b, j, none⟩ = (C x)[j]? := fun j => cell_of_row W b j (C x) _ _ h
theorem Box.allocC {W : World} {b : Nat} {x : Bd} (h : Box W b x) (o : Obj) : Box (W.alloc o) b x := h.below ((Below.refl _ _).alloc (Nat.le_refl _) _) h.lt
theorem loadF_new (W : World) (x : Bd) : (LoadF ⟨W.heap.size, 0, none⟩).run Try.prog (W.alloc (.cells (C x) 27)) = .ok (v x) (W.alloc (.cells (C x) 27)) := (Box.new W x).loadF
theorem C_zero : C zb = #[.int .i64 0, .int .i64 0, .int .i64 0, .int .i64 0, .string ⟨#[]⟩, .int .i64 0, .int .i64 0, .int .u64 0, .int .i64 0, .int .i64 0, .int .i64 0, .int .i64 0, .int .i64 0, .int .i64 0, .int .i64 0, .int .i64 0, .int .i64 0] := rfl
theorem v_zero : (.agg #[.int .i64 0, .int .i64 0, .int .i64 0, .int .i64 0, .string ⟨#[]⟩, .int .i64 0, .int .i64 0, .int .u64 0, .int .i64 0, .int .i64 0, .int .i64 0, .int .i64 0, .int .i64 0, .int .i64 0, .int .i64 0, .int .i64 0, .int .i64 0] : Value) = v zb := rfl
theorem storeF_new (W : World) (x y : Bd) : (StoreF ⟨W.heap.size, 0, none⟩ (v y)).run Try.prog (W.alloc (.cells (C x) 27)) = .ok () (W.alloc (.cells (C y) 27)) :=
  run_storeVar_new W 27 (C x) (C y) sz rfl (C_ones y)
theorem storeF_zero (W : World) (y : Bd) : (StoreF ⟨W.heap.size, 0, none⟩ (v y)).run Try.prog (W.alloc (.cells #[.int .i64 0, .int .i64 0, .int .i64 0, .int .i64 0, .string ⟨#[]⟩, .int .i64 0, .int .i64 0, .int .u64 0, .int .i64 0, .int .i64 0, .int .i64 0, .int .i64 0, .int .i64 0, .int .i64 0, .int .i64 0, .int .i64 0, .int .i64 0] 27)) = .ok () (W.alloc (.cells (C y) 27)) := storeF_new W zb y
theorem Box.set0 {W : World} {b : Nat} {x : Bd} (h : Box W b x) (u : Int) : Box (W.setCell ⟨b, 0, none⟩ (.int .i64 u)) b { x with kd := u } := by
  unfold Box at *; simp [World.setCell, Array.getElem?_modify, h]; rfl
theorem Box.set1 {W : World} {b : Nat} {x : Bd} (h : Box W b x) (u : Int) : Box (W.setCell ⟨b, 1, none⟩ (.int .i64 u)) b { x with sp := u } := by
  unfold Box at *; simp [World.setCell, Array.getElem?_modify, h]; rfl
theorem Box.set2 {W : World} {b : Nat} {x : Bd} (h : Box W b x) (u : Int) : Box (W.setCell ⟨b, 2, none⟩ (.int .i64 u)) b { x with st := u } := by
  unfold Box at *; simp [World.setCell, Array.getElem?_modify, h]; rfl
theorem Box.set3 {W : World} {b : Nat} {x : Bd} (h : Box W b x) (u : Int) : Box (W.setCell ⟨b, 3, none⟩ (.int .i64 u)) b { x with hn := u } := by
  unfold Box at *; simp [World.setCell, Array.getElem?_modify, h]; rfl
theorem Box.set4 {W : World} {b : Nat} {x : Bd} (h : Box W b x) (u : ByteArray) : Box (W.setCell ⟨b, 4, none⟩ (.string u)) b { x with nm := u } := by
  unfold Box at *; simp [World.setCell, Array.getElem?_modify, h]; rfl
theorem Box.set5 {W : World} {b : Nat} {x : Bd} (h : Box W b x) (u : Int) : Box (W.setCell ⟨b, 5, none⟩ (.int .i64 u)) b { x with ls := u } := by
  unfold Box at *; simp [World.setCell, Array.getElem?_modify, h]; rfl
theorem Box.set6 {W : World} {b : Nat} {x : Bd} (h : Box W b x) (u : Int) : Box (W.setCell ⟨b, 6, none⟩ (.int .i64 u)) b { x with dv := u } := by
  unfold Box at *; simp [World.setCell, Array.getElem?_modify, h]; rfl
theorem Box.set7 {W : World} {b : Nat} {x : Bd} (h : Box W b x) (u : Int) : Box (W.setCell ⟨b, 7, none⟩ (.int .u64 u)) b { x with od := u } := by
  unfold Box at *; simp [World.setCell, Array.getElem?_modify, h]; rfl
theorem Box.set8 {W : World} {b : Nat} {x : Bd} (h : Box W b x) (u : Int) : Box (W.setCell ⟨b, 8, none⟩ (.int .i64 u)) b { x with ai := u } := by
  unfold Box at *; simp [World.setCell, Array.getElem?_modify, h]; rfl
theorem Box.set9 {W : World} {b : Nat} {x : Bd} (h : Box W b x) (u : Int) : Box (W.setCell ⟨b, 9, none⟩ (.int .i64 u)) b { x with ct := u } := by
  unfold Box at *; simp [World.setCell, Array.getElem?_modify, h]; rfl
theorem Box.set10 {W : World} {b : Nat} {x : Bd} (h : Box W b x) (u : Int) : Box (W.setCell ⟨b, 10, none⟩ (.int .i64 u)) b { x with sr := u } := by
  unfold Box at *; simp [World.setCell, Array.getElem?_modify, h]; rfl
theorem Box.set11 {W : World} {b : Nat} {x : Bd} (h : Box W b x) (u : Int) : Box (W.setCell ⟨b, 11, none⟩ (.int .i64 u)) b { x with sz := u } := by
  unfold Box at *; simp [World.setCell, Array.getElem?_modify, h]; rfl
theorem Box.set12 {W : World} {b : Nat} {x : Bd} (h : Box W b x) (u : Int) : Box (W.setCell ⟨b, 12, none⟩ (.int .i64 u)) b { x with ch := u } := by
  unfold Box at *; simp [World.setCell, Array.getElem?_modify, h]; rfl
theorem Box.set13 {W : World} {b : Nat} {x : Bd} (h : Box W b x) (u : Int) : Box (W.setCell ⟨b, 13, none⟩ (.int .i64 u)) b { x with cn := u } := by
  unfold Box at *; simp [World.setCell, Array.getElem?_modify, h]; rfl
theorem Box.set14 {W : World} {b : Nat} {x : Bd} (h : Box W b x) (u : Int) : Box (W.setCell ⟨b, 14, none⟩ (.int .i64 u)) b { x with pf := u } := by
  unfold Box at *; simp [World.setCell, Array.getElem?_modify, h]; rfl
theorem Box.set15 {W : World} {b : Nat} {x : Bd} (h : Box W b x) (u : Int) : Box (W.setCell ⟨b, 15, none⟩ (.int .i64 u)) b { x with pp := u } := by
  unfold Box at *; simp [World.setCell, Array.getElem?_modify, h]; rfl
theorem Box.set16 {W : World} {b : Nat} {x : Bd} (h : Box W b x) (u : Int) : Box (W.setCell ⟨b, 16, none⟩ (.int .i64 u)) b { x with pl := u } := by
  unfold Box at *; simp [World.setCell, Array.getElem?_modify, h]; rfl
theorem Box.other {W : World} {b : Nat} {x : Bd} (h : Box W b x) {a : Addr} (ha : b ≠ a.block) (u : Value) : Box (W.setCell a u) b x := (Below.heap_setCell _ _ _ _ ha).trans h
theorem Box.storeF {W : World} {b : Nat} {x : Bd} (h : Box W b x) (y : Bd) : (StoreF ⟨b, 0, none⟩ (v y)).run Try.prog W = .ok () (W.setRow b (C y)) := run_storeVar_row W b 27 27 (C x) (C y) h sz rfl (C_ones y)
theorem Box.setRow {W : World} {b : Nat} {x : Bd} (h : Box W b x) (y : Bd) : Box (W.setRow b (C y)) b y := by
  unfold Box at *; simp [World.setRow, Array.getElem?_modify, h]
theorem setRow_other {W : World} {b g : Nat} (h : g ≠ b) (c : Array Value) : (W.setRow b c).heap[g]? = W.heap[g]? := by
  simp only [World.setRow, Array.getElem?_modify]; rw [if_neg (fun e => h e.symm)]
end Go.Proofs.Ytcpfkikifhcdmaa.Bd_
