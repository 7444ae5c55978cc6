/-
  api.Item AS A WORD: its cells, its value, the load and the store of the whole in one step (written by gen_word.py).
-/
import Derived.Test.YtaljdjabppiglaaRows
import Derived.Test.YtaljdjabppiglaaQuMath
import Derived.OpenShut
import Derived.ProofKit
import Derived.Deep.Slices
import Derived.Deep.OwnRows
import Derived.Below
import Derived.WalkKit
import Derived.Deep.WholeRow
import Derived.Lib.Hide
namespace Go.Proofs.Ytaljdjabppiglaa.Ix_
open Go.ChangeShapes Go.WideShapes Go.RowKit Go.Deep Go.Qu

/-- The cells of one, a word. -/
def C (x : It) : Array Value := #[.int .i64 x.id, .int .i64 x.cat, .int .u64 x.to, .int .u64 x.fr, .string x.da, .int .i64 x.bo, .int .i64 x.li]
/-- One as a value. -/
def v (x : It) : Value := .agg #[.int .i64 x.id, .int .i64 x.cat, .int .u64 x.to, .int .u64 x.fr, .string x.da, .int .i64 x.bo, .int .i64 x.li]
theorem C0 (x : It) : (C x)[0]? = some (.int .i64 x.id) := rfl
theorem C1 (x : It) : (C x)[1]? = some (.int .i64 x.cat) := rfl
theorem C2 (x : It) : (C x)[2]? = some (.int .u64 x.to) := rfl
theorem C3 (x : It) : (C x)[3]? = some (.int .u64 x.fr) := rfl
theorem C4 (x : It) : (C x)[4]? = some (.string x.da) := rfl
theorem C5 (x : It) : (C x)[5]? = some (.int .i64 x.bo) := rfl
theorem C6 (x : It) : (C x)[6]? = some (.int .i64 x.li) := rfl
theorem Csize (x : It) : (C x).size = 7 := rfl
theorem v_cells (x : It) : (v x).cells = C x := rfl
theorem v_match (x : It) : Value.cells.match_1 (fun _ => Array Value) (v x) (fun cs => cs) (fun u => #[u]) = C x := rfl
theorem v_agg (x : It) : v x = .agg (C x) := rfl
theorem C_ones (x : It) : (C x).all (·.oneCell') = true := by simp [C, Value.oneCell']
/-- A block of its own holds one. -/
def Box (W : World) (b : Nat) (x : It) : Prop := W.heap[b]? = some (.cells (C x) 28 (0, 0))
theorem Box.lt {W : World} {b : Nat} {x : It} (h : Box W b x) : b < W.heap.size := (Array.getElem?_eq_some_iff.1 h).1
theorem Box.below {W W' : World} {b B : Nat} {x : It} (h : Box W b x) (hb : Below B W W') (hlt : b < B) : Box W' b x := (hb.block b hlt).trans h
theorem Box.drew {W : World} {b : Nat} {x : It} (h : Box W b x) : Box W.drew b x := h
theorem Box.new (W : World) (x : It) : Box (W.alloc (.cells (C x) 28)) W.heap.size x := by
  show (W.heap.push _)[W.heap.size]? = _
  rw [Array.getElem?_push, if_pos rfl]
theorem Box.frozen {W : World} {b : Nat} {x : It} (h : Box W b x) (j : Nat) : W.frozen? ⟨b, j, none⟩ = false := by
  unfold Box at h
  simp [World.frozen?, h]
/-- The load of the whole, a word. -/
noncomputable def LoadF (a : Addr) : Sem Value := loadVar 28 a
theorem loadF (a : Addr) : loadVar 28 a = LoadF a := rfl
noncomputable def StoreF (a : Addr) (u : Value) : Sem Unit := storeVar 28 a u
theorem storeF (a : Addr) (u : Value) : storeVar 28 a u = StoreF a u := rfl
theorem sz : (Try.prog.info? 28).map (·.size) = some 7 := by kernel_rfl
theorem Box.loadF {W : World} {b : Nat} {x : It} (h : Box W b x) : (LoadF ⟨b, 0, none⟩).run Try.prog W = .ok (v x) W := by
  exact run_loadVar_row W b 28 28 (C x) (0, 0) _ h Try.underlying28 rfl sz
theorem Box.all {W : World} {b : Nat} {x : It} (h : Box W b x) : ∀ j : Nat, W.cell? ⟨b, j, none⟩ = (C x)[j]? := fun j => cell_of_row W b j (C x) _ _ h
theorem Box.allocC {W : World} {b : Nat} {x : It} (h : Box W b x) (o : Obj) : Box (W.alloc o) b x := h.below ((Below.refl _ _).alloc (Nat.le_refl _) _) h.lt
theorem loadF_new (W : World) (x : It) : (LoadF ⟨W.heap.size, 0, none⟩).run Try.prog (W.alloc (.cells (C x) 28)) = .ok (v x) (W.alloc (.cells (C x) 28)) := (Box.new W x).loadF
theorem C_zero : C ⟨0, 0, 0, 0, ⟨#[]⟩, 0, 0⟩ = #[.int .i64 0, .int .i64 0, .int .u64 0, .int .u64 0, .string ⟨#[]⟩, .int .i64 0, .int .i64 0] := rfl
theorem v_zero : (.agg #[.int .i64 0, .int .i64 0, .int .u64 0, .int .u64 0, .string ⟨#[]⟩, .int .i64 0, .int .i64 0] : Value) = v ⟨0, 0, 0, 0, ⟨#[]⟩, 0, 0⟩ := rfl
theorem storeF_new (W : World) (x y : It) : (StoreF ⟨W.heap.size, 0, none⟩ (v y)).run Try.prog (W.alloc (.cells (C x) 28)) = .ok () (W.alloc (.cells (C y) 28)) :=
  run_storeVar_new W 28 (C x) (C y) sz rfl (C_ones y)
theorem storeF_zero (W : World) (y : It) : (StoreF ⟨W.heap.size, 0, none⟩ (v y)).run Try.prog (W.alloc (.cells #[.int .i64 0, .int .i64 0, .int .u64 0, .int .u64 0, .string ⟨#[]⟩, .int .i64 0, .int .i64 0] 28)) = .ok () (W.alloc (.cells (C y) 28)) := storeF_new W ⟨0, 0, 0, 0, ⟨#[]⟩, 0, 0⟩ y
theorem Box.set0 {W : World} {b : Nat} {x : It} (h : Box W b x) (u : Int) : Box (W.setCell ⟨b, 0, none⟩ (.int .i64 u)) b { x with id := u } := by
  unfold Box at *; simp [World.setCell, Array.getElem?_modify, h]; rfl
theorem Box.set1 {W : World} {b : Nat} {x : It} (h : Box W b x) (u : Int) : Box (W.setCell ⟨b, 1, none⟩ (.int .i64 u)) b { x with cat := u } := by
  unfold Box at *; simp [World.setCell, Array.getElem?_modify, h]; rfl
theorem Box.set2 {W : World} {b : Nat} {x : It} (h : Box W b x) (u : Int) : Box (W.setCell ⟨b, 2, none⟩ (.int .u64 u)) b { x with to := u } := by
  unfold Box at *; simp [World.setCell, Array.getElem?_modify, h]; rfl
theorem Box.set3 {W : World} {b : Nat} {x : It} (h : Box W b x) (u : Int) : Box (W.setCell ⟨b, 3, none⟩ (.int .u64 u)) b { x with fr := u } := by
  unfold Box at *; simp [World.setCell, Array.getElem?_modify, h]; rfl
theorem Box.set4 {W : World} {b : Nat} {x : It} (h : Box W b x) (u : ByteArray) : Box (W.setCell ⟨b, 4, none⟩ (.string u)) b { x with da := u } := by
  unfold Box at *; simp [World.setCell, Array.getElem?_modify, h]; rfl
theorem Box.set5 {W : World} {b : Nat} {x : It} (h : Box W b x) (u : Int) : Box (W.setCell ⟨b, 5, none⟩ (.int .i64 u)) b { x with bo := u } := by
  unfold Box at *; simp [World.setCell, Array.getElem?_modify, h]; rfl
theorem Box.set6 {W : World} {b : Nat} {x : It} (h : Box W b x) (u : Int) : Box (W.setCell ⟨b, 6, none⟩ (.int .i64 u)) b { x with li := u } := by
  unfold Box at *; simp [World.setCell, Array.getElem?_modify, h]; rfl
theorem Box.other {W : World} {b : Nat} {x : It} (h : Box W b x) {a : Addr} (ha : b ≠ a.block) (u : Value) : Box (W.setCell a u) b x := (Below.heap_setCell _ _ _ _ ha).trans h
theorem Box.storeF {W : World} {b : Nat} {x : It} (h : Box W b x) (y : It) : (StoreF ⟨b, 0, none⟩ (v y)).run Try.prog W = .ok () (W.setRow b (C y)) := run_storeVar_row W b 28 28 (C x) (C y) h sz rfl (C_ones y)
theorem Box.setRow {W : World} {b : Nat} {x : It} (h : Box W b x) (y : It) : Box (W.setRow b (C y)) b y := by
  unfold Box at *; simp [World.setRow, Array.getElem?_modify, h]
theorem setRow_other {W : World} {b g : Nat} (h : g ≠ b) (c : Array Value) : (W.setRow b c).heap[g]? = W.heap[g]? := by
  simp only [World.setRow, Array.getElem?_modify]; rw [if_neg (fun e => h e.symm)]
end Go.Proofs.Ytaljdjabppiglaa.Ix_
