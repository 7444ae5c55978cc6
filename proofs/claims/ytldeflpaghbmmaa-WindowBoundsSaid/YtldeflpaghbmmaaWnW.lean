/-
  window.State AS A WORD: its cells, its value, the load and the store of the whole in one step (written by gen_word.py).
-/
import Derived.Test.YtldeflpaghbmmaaRows
import Derived.Test.YtldeflpaghbmmaaWnMath
import Derived.OpenShut
import Derived.ProofKit
import Derived.Deep.Slices
import Derived.Deep.OwnRows
import Derived.Below
import Derived.WalkKit
import Derived.Deep.WholeRow
import Derived.Lib.Hide
namespace Go.Proofs.Ytldeflpaghbmmaa.Ww_
open Go.ChangeShapes Go.WideShapes Go.RowKit Go.Deep Go.Wn

/-- The cells of one, a word. -/
def C (x : Wn) : Array Value := #[.int .i64 x.nx, .int .i64 x.sz, .slice x.sa x.n x.c, .bool x.rq]
/-- One as a value. -/
def v (x : Wn) : Value := .agg #[.int .i64 x.nx, .int .i64 x.sz, .slice x.sa x.n x.c, .bool x.rq]
theorem C0 (x : Wn) : (C x)[0]? = some (.int .i64 x.nx) := rfl
theorem C1 (x : Wn) : (C x)[1]? = some (.int .i64 x.sz) := rfl
theorem C2 (x : Wn) : (C x)[2]? = some (.slice x.sa x.n x.c) := rfl
theorem C3 (x : Wn) : (C x)[3]? = some (.bool x.rq) := rfl
theorem Csize (x : Wn) : (C x).size = 4 := rfl
theorem v_cells (x : Wn) : (v x).cells = C x := rfl
theorem v_match (x : Wn) : Value.cells.match_1 (fun _ => Array Value) (v x) (fun cs => cs) (fun u => #[u]) = C x := rfl
theorem v_agg (x : Wn) : v x = .agg (C x) := rfl
theorem C_ones (x : Wn) : (C x).all (·.oneCell') = true := by simp [C, Value.oneCell']
/-- A block of its own holds one. -/
def Box (W : World) (b : Nat) (x : Wn) : Prop := W.heap[b]? = some (.cells (C x) 29 (0, 0))
theorem Box.lt {W : World} {b : Nat} {x : Wn} (h : Box W b x) : b < W.heap.size := (Array.getElem?_eq_some_iff.1 h).1
theorem Box.below {W W' : World} {b B : Nat} {x : Wn} (h : Box W b x) (hb : Below B W W') (hlt : b < B) : Box W' b x := (hb.block b hlt).trans h
theorem Box.drew {W : World} {b : Nat} {x : Wn} (h : Box W b x) : Box W.drew b x := h
theorem Box.new (W : World) (x : Wn) : Box (W.alloc (.cells (C x) 29)) W.heap.size x := by
  show (W.heap.push _)[W.heap.size]? = _
  rw [Array.getElem?_push, if_pos rfl]
theorem Box.frozen {W : World} {b : Nat} {x : Wn} (h : Box W b x) (j : Nat) : W.frozen? ⟨b, j, none⟩ = false := by
  unfold Box at h
  simp [World.frozen?, h]
/-- The load of the whole, a word. -/
noncomputable def LoadF (a : Addr) : Sem Value := loadVar 29 a
theorem loadF (a : Addr) : loadVar 29 a = LoadF a := rfl
noncomputable def StoreF (a : Addr) (u : Value) : Sem Unit := storeVar 29 a u
theorem storeF (a : Addr) (u : Value) : storeVar 29 a u = StoreF a u := rfl
theorem sz : (Try.prog.info? 29).map (·.size) = some 4 := by kernel_rfl
theorem Box.loadF {W : World} {b : Nat} {x : Wn} (h : Box W b x) : (LoadF ⟨b, 0, none⟩).run Try.prog W = .ok (v x) W := by
  exact run_loadVar_row W b 29 29 (C x) (0, 0) _ h Try.underlying29 rfl sz
theorem Box.all {W : World} {b : Nat} {x : Wn} (h : Box W b x) : ∀ j : Nat, W.cell? ⟨b, j, none⟩ = (C x)[j]? := fun j => cell_of_row W b j (C x) _ _ h
theorem Box.allocC {W : World} {b : Nat} {x : Wn} (h : Box W b x) (o : Obj) : Box (W.alloc o) b x := h.below ((Below.refl _ _).alloc (Nat.le_refl _) _) h.lt
theorem loadF_new (W : World) (x : Wn) : (LoadF ⟨W.heap.size, 0, none⟩).run Try.prog (W.alloc (.cells (C x) 29)) = .ok (v x) (W.alloc (.cells (C x) 29)) := (Box.new W x).loadF
theorem C_zero : C ⟨0, 0, none, 0, 0, false⟩ = #[.int .i64 0, .int .i64 0, .slice none 0 0, .bool false] := rfl
theorem v_zero : (.agg #[.int .i64 0, .int .i64 0, .slice none 0 0, .bool false] : Value) = v ⟨0, 0, none, 0, 0, false⟩ := rfl
theorem storeF_new (W : World) (x y : Wn) : (StoreF ⟨W.heap.size, 0, none⟩ (v y)).run Try.prog (W.alloc (.cells (C x) 29)) = .ok () (W.alloc (.cells (C y) 29)) :=
  run_storeVar_new W 29 (C x) (C y) sz rfl (C_ones y)
theorem storeF_zero (W : World) (y : Wn) : (StoreF ⟨W.heap.size, 0, none⟩ (v y)).run Try.prog (W.alloc (.cells #[.int .i64 0, .int .i64 0, .slice none 0 0, .bool false] 29)) = .ok () (W.alloc (.cells (C y) 29)) := storeF_new W ⟨0, 0, none, 0, 0, false⟩ y
theorem Box.set0 {W : World} {b : Nat} {x : Wn} (h : Box W b x) (u : Int) : Box (W.setCell ⟨b, 0, none⟩ (.int .i64 u)) b { x with nx := u } := by
  unfold Box at *; simp [World.setCell, Array.getElem?_modify, h]; rfl
theorem Box.set1 {W : World} {b : Nat} {x : Wn} (h : Box W b x) (u : Int) : Box (W.setCell ⟨b, 1, none⟩ (.int .i64 u)) b { x with sz := u } := by
  unfold Box at *; simp [World.setCell, Array.getElem?_modify, h]; rfl
theorem Box.set2 {W : World} {b : Nat} {x : Wn} (h : Box W b x) (sa : Option Addr) (n c : Nat) : Box (W.setCell ⟨b, 2, none⟩ (.slice sa n c)) b { x with sa := sa, n := n, c := c } := by
  unfold Box at *; simp [World.setCell, Array.getElem?_modify, h]; rfl
theorem Box.set3 {W : World} {b : Nat} {x : Wn} (h : Box W b x) (u : Bool) : Box (W.setCell ⟨b, 3, none⟩ (.bool u)) b { x with rq := u } := by
  unfold Box at *; simp [World.setCell, Array.getElem?_modify, h]; rfl
theorem Box.other {W : World} {b : Nat} {x : Wn} (h : Box W b x) {a : Addr} (ha : b ≠ a.block) (u : Value) : Box (W.setCell a u) b x := (Below.heap_setCell _ _ _ _ ha).trans h
theorem Box.storeF {W : World} {b : Nat} {x : Wn} (h : Box W b x) (y : Wn) : (StoreF ⟨b, 0, none⟩ (v y)).run Try.prog W = .ok () (W.setRow b (C y)) := run_storeVar_row W b 29 29 (C x) (C y) h sz rfl (C_ones y)
theorem Box.setRow {W : World} {b : Nat} {x : Wn} (h : Box W b x) (y : Wn) : Box (W.setRow b (C y)) b y := by
  unfold Box at *; simp [World.setRow, Array.getElem?_modify, h]
theorem setRow_other {W : World} {b g : Nat} (h : g ≠ b) (c : Array Value) : (W.setRow b c).heap[g]? = W.heap[g]? := by
  simp only [World.setRow, Array.getElem?_modify]; rw [if_neg (fun e => h e.symm)]
end Go.Proofs.Ytldeflpaghbmmaa.Ww_
