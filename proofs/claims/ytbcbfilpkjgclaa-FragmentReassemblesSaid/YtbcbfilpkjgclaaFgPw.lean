/-
  api.Partial AS A WORD: its cells, its value, the load and the store of the whole in one step (written by gen_word.py).
-/
import Derived.Test.YtbcbfilpkjgclaaRows
import Derived.Test.YtbcbfilpkjgclaaFgMath
import Derived.OpenShut
import Derived.ProofKit
import Derived.Deep.Slices
import Derived.Deep.OwnRows
import Derived.Below
import Derived.WalkKit
import Derived.Deep.WholeRow
import Derived.Lib.Hide
namespace Go.Proofs.Ytbcbfilpkjgclaa.Pw_
open Go.ChangeShapes Go.WideShapes Go.RowKit Go.Deep Go.Fg

/-- The cells of one, a word. -/
def C (x : Pt) : Array Value := #[.bool x.b, .int .i64 x.q, .int .i64 x.n, .string x.s]
/-- One as a value. -/
def v (x : Pt) : Value := .agg #[.bool x.b, .int .i64 x.q, .int .i64 x.n, .string x.s]
theorem C0 (x : Pt) : (C x)[0]? = some (.bool x.b) := rfl
theorem C1 (x : Pt) : (C x)[1]? = some (.int .i64 x.q) := rfl
theorem C2 (x : Pt) : (C x)[2]? = some (.int .i64 x.n) := rfl
theorem C3 (x : Pt) : (C x)[3]? = some (.string x.s) := rfl
theorem Csize (x : Pt) : (C x).size = 4 := rfl
theorem v_cells (x : Pt) : (v x).cells = C x := rfl
theorem v_match (x : Pt) : Value.cells.match_1 (fun _ => Array Value) (v x) (fun cs => cs) (fun u => #[u]) = C x := rfl
theorem v_agg (x : Pt) : v x = .agg (C x) := rfl
theorem C_ones (x : Pt) : (C x).all (·.oneCell') = true := by simp [C, Value.oneCell']
/-- A block of its own holds one. -/
def Box (W : World) (b : Nat) (x : Pt) : Prop := W.heap[b]? = some (.cells (C x) 29 (0, 0))
theorem Box.lt {W : World} {b : Nat} {x : Pt} (h : Box W b x) : b < W.heap.size := (Array.getElem?_eq_some_iff.1 h).1
theorem Box.below {W W' : World} {b B : Nat} {x : Pt} (h : Box W b x) (hb : Below B W W') (hlt : b < B) : Box W' b x := (hb.block b hlt).trans h
theorem Box.drew {W : World} {b : Nat} {x : Pt} (h : Box W b x) : Box W.drew b x := h
theorem Box.new (W : World) (x : Pt) : Box (W.alloc (.cells (C x) 29)) W.heap.size x := by
  show (W.heap.push _)[W.heap.size]? = _
  rw [Array.getElem?_push, if_pos rfl]
theorem Box.frozen {W : World} {b : Nat} {x : Pt} (h : Box W b x) (j : Nat) : W.frozen? ⟨b, j, none⟩ = false := by
  unfold Box at h
  simp [World.frozen?, h]
/-- The load of the whole, a word. -/
noncomputable def LoadF (a : Addr) : Sem Value := loadVar 29 a
theorem loadF (a : Addr) : loadVar 29 a = LoadF a := rfl
noncomputable def StoreF (a : Addr) (u : Value) : Sem Unit := storeVar 29 a u
theorem storeF (a : Addr) (u : Value) : storeVar 29 a u = StoreF a u := rfl
theorem sz : (Try.prog.info? 29).map (·.size) = some 4 := by kernel_rfl
theorem Box.loadF {W : World} {b : Nat} {x : Pt} (h : Box W b x) : (LoadF ⟨b, 0, none⟩).run Try.prog W = .ok (v x) W := by
  exact run_loadVar_row W b 29 29 (C x) (0, 0) _ h Try.underlying29 rfl sz
theorem Box.all {W : World} {b : Nat} {x : Pt} (h : Box W b x) : ∀ j : Nat, W.cell? ⟨b, j, none⟩ = (C x)[j]? := fun j => cell_of_row W b j (C x) _ _ h
theorem Box.allocC {W : World} {b : Nat} {x : Pt} (h : Box W b x) (o : Obj) : Box (W.alloc o) b x := h.below ((Below.refl _ _).alloc (Nat.le_refl _) _) h.lt
theorem loadF_new (W : World) (x : Pt) : (LoadF ⟨W.heap.size, 0, none⟩).run Try.prog (W.alloc (.cells (C x) 29)) = .ok (v x) (W.alloc (.cells (C x) 29)) := (Box.new W x).loadF
theorem C_zero : C zp = #[.bool false, .int .i64 0, .int .i64 0, .string ⟨#[]⟩] := rfl
theorem v_zero : (.agg #[.bool false, .int .i64 0, .int .i64 0, .string ⟨#[]⟩] : Value) = v zp := rfl
theorem storeF_new (W : World) (x y : Pt) : (StoreF ⟨W.heap.size, 0, none⟩ (v y)).run Try.prog (W.alloc (.cells (C x) 29)) = .ok () (W.alloc (.cells (C y) 29)) :=
  run_storeVar_new W 29 (C x) (C y) sz rfl (C_ones y)
theorem storeF_zero (W : World) (y : Pt) : (StoreF ⟨W.heap.size, 0, none⟩ (v y)).run Try.prog (W.alloc (.cells #[.bool false, .int .i64 0, .int .i64 0, .string ⟨#[]⟩] 29)) = .ok () (W.alloc (.cells (C y) 29)) := storeF_new W zp y
theorem Box.set0 {W : World} {b : Nat} {x : Pt} (h : Box W b x) (u : Bool) : Box (W.setCell ⟨b, 0, none⟩ (.bool u)) b { x with b := u } := by
  unfold Box at *; simp [World.setCell, Array.getElem?_modify, h]; rfl
theorem Box.set1 {W : World} {b : Nat} {x : Pt} (h : Box W b x) (u : Int) : Box (W.setCell ⟨b, 1, none⟩ (.int .i64 u)) b { x with q := u } := by
  unfold Box at *; simp [World.setCell, Array.getElem?_modify, h]; rfl
theorem Box.set2 {W : World} {b : Nat} {x : Pt} (h : Box W b x) (u : Int) : Box (W.setCell ⟨b, 2, none⟩ (.int .i64 u)) b { x with n := u } := by
  unfold Box at *; simp [World.setCell, Array.getElem?_modify, h]; rfl
theorem Box.set3 {W : World} {b : Nat} {x : Pt} (h : Box W b x) (u : ByteArray) : Box (W.setCell ⟨b, 3, none⟩ (.string u)) b { x with s := u } := by
  unfold Box at *; simp [World.setCell, Array.getElem?_modify, h]; rfl
theorem Box.other {W : World} {b : Nat} {x : Pt} (h : Box W b x) {a : Addr} (ha : b ≠ a.block) (u : Value) : Box (W.setCell a u) b x := (Below.heap_setCell _ _ _ _ ha).trans h
theorem Box.storeF {W : World} {b : Nat} {x : Pt} (h : Box W b x) (y : Pt) : (StoreF ⟨b, 0, none⟩ (v y)).run Try.prog W = .ok () (W.setRow b (C y)) := run_storeVar_row W b 29 29 (C x) (C y) h sz rfl (C_ones y)
theorem Box.setRow {W : World} {b : Nat} {x : Pt} (h : Box W b x) (y : Pt) : Box (W.setRow b (C y)) b y := by
  unfold Box at *; simp [World.setRow, Array.getElem?_modify, h]
theorem setRow_other {W : World} {b g : Nat} (h : g ≠ b) (c : Array Value) : (W.setRow b c).heap[g]? = W.heap[g]? := by
  simp only [World.setRow, Array.getElem?_modify]; rw [if_neg (fun e => h e.symm)]
end Go.Proofs.Ytbcbfilpkjgclaa.Pw_
