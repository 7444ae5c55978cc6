/-
  airtimelaw19.Op AS A WORD: its cells, its value, the load and the store of the whole in one step (written by gen_word.py).
-/
import Derived.Test.YtacjdgglfeemcaaRows
import Derived.Test.YtacjdgglfeemcaaHiMath
import Derived.OpenShut
import Derived.ProofKit
import Derived.Deep.Slices
import Derived.Deep.OwnRows
import Derived.Below
import Derived.WalkKit
import Derived.Deep.WholeRow
import Derived.Lib.Hide
namespace Go.Proofs.Ytacjdgglfeemcaa.Oqw_
open Go.ChangeShapes Go.WideShapes Go.RowKit Go.Deep Go.Hi

/-- The cells of one, a word. -/
def C (x : Oq) : Array Value := #[.int .i64 x.k, .int .u64 x.p, .int .i64 x.w, .bool x.x.v, .int .i64 x.x.q, .int .i64 x.x.f]
/-- One as a value. -/
def v (x : Oq) : Value := .agg #[.int .i64 x.k, .int .u64 x.p, .int .i64 x.w, .bool x.x.v, .int .i64 x.x.q, .int .i64 x.x.f]
theorem C0 (x : Oq) : (C x)[0]? = some (.int .i64 x.k) := rfl
theorem C1 (x : Oq) : (C x)[1]? = some (.int .u64 x.p) := rfl
theorem C2 (x : Oq) : (C x)[2]? = some (.int .i64 x.w) := rfl
theorem C3 (x : Oq) : (C x)[3]? = some (.bool x.x.v) := rfl
theorem C4 (x : Oq) : (C x)[4]? = some (.int .i64 x.x.q) := rfl
theorem C5 (x : Oq) : (C x)[5]? = some (.int .i64 x.x.f) := rfl
theorem Csize (x : Oq) : (C x).size = 6 := rfl
theorem v_cells (x : Oq) : (v x).cells = C x := rfl
theorem v_match (x : Oq) : Value.cells.match_1 (fun _ => Array Value) (v x) (fun cs => cs) (fun u => #[u]) = C x := rfl
theorem v_agg (x : Oq) : v x = .agg (C x) := rfl
theorem C_ones (x : Oq) : (C x).all (·.oneCell') = true := by simp [C, Value.oneCell']
/-- A block of its own holds one. -/
def Box (W : World) (b : Nat) (x : Oq) : Prop := W.heap[b]? = some (.cells (C x) 51 (0, 0))
theorem Box.lt {W : World} {b : Nat} {x : Oq} (h : Box W b x) : b < W.heap.size := (Array.getElem?_eq_some_iff.1 h).1
theorem Box.below {W W' : World} {b B : Nat} {x : Oq} (h : Box W b x) (hb : Below B W W') (hlt : b < B) : Box W' b x := (hb.block b hlt).trans h
theorem Box.drew {W : World} {b : Nat} {x : Oq} (h : Box W b x) : Box W.drew b x := h
theorem Box.new (W : World) (x : Oq) : Box (W.alloc (.cells (C x) 51)) W.heap.size x := by
  show (W.heap.push _)[W.heap.size]? = _
  rw [Array.getElem?_push, if_pos rfl]
theorem Box.frozen {W : World} {b : Nat} {x : Oq} (h : Box W b x) (j : Nat) : W.frozen? ⟨b, j, none⟩ = false := by
  unfold Box at h
  simp [World.frozen?, h]
/-- The load of the whole, a word. -/
noncomputable def LoadF (a : Addr) : Sem Value := loadVar 51 a
theorem loadF (a : Addr) : loadVar 51 a = LoadF a := rfl
noncomputable def StoreF (a : Addr) (u : Value) : Sem Unit := storeVar 51 a u
theorem storeF (a : Addr) (u : Value) : storeVar 51 a u = StoreF a u := rfl
theorem sz : (Try.prog.info? 51).map (·.size) = some 6 := by kernel_rfl
theorem Box.loadF {W : World} {b : Nat} {x : Oq} (h : Box W b x) : (LoadF ⟨b, 0, none⟩).run Try.prog W = .ok (v x) W := by
  exact run_loadVar_row W b 51 51 (C x) (0, 0) _ h Try.underlying51 rfl sz
theorem Box.all {W : World} {b : Nat} {x : Oq} (h : Box W b x) : ∀ j : Nat, W.cell? ⟨b, j, none⟩ = (C x)[j]? := fun j => cell_of_row W b j (C x) _ _ h
theorem Box.allocC {W : World} {b : Nat} {x : Oq} (h : Box W b x) (o : Obj) : Box (W.alloc o) b x := h.below ((Below.refl _ _).alloc (Nat.le_refl _) _) h.lt
theorem loadF_new (W : World) (x : Oq) : (LoadF ⟨W.heap.size, 0, none⟩).run Try.prog (W.alloc (.cells (C x) 51)) = .ok (v x) (W.alloc (.cells (C x) 51)) := (Box.new W x).loadF
theorem C_zero : C ⟨0, 0, 0, zl⟩ = #[.int .i64 0, .int .u64 0, .int .i64 0, .bool false, .int .i64 0, .int .i64 0] := rfl
theorem v_zero : (.agg #[.int .i64 0, .int .u64 0, .int .i64 0, .bool false, .int .i64 0, .int .i64 0] : Value) = v ⟨0, 0, 0, zl⟩ := rfl
theorem storeF_new (W : World) (x y : Oq) : (StoreF ⟨W.heap.size, 0, none⟩ (v y)).run Try.prog (W.alloc (.cells (C x) 51)) = .ok () (W.alloc (.cells (C y) 51)) :=
  run_storeVar_new W 51 (C x) (C y) sz rfl (C_ones y)
theorem storeF_zero (W : World) (y : Oq) : (StoreF ⟨W.heap.size, 0, none⟩ (v y)).run Try.prog (W.alloc (.cells #[.int .i64 0, .int .u64 0, .int .i64 0, .bool false, .int .i64 0, .int .i64 0] 51)) = .ok () (W.alloc (.cells (C y) 51)) := storeF_new W ⟨0, 0, 0, zl⟩ y
theorem Box.set0 {W : World} {b : Nat} {x : Oq} (h : Box W b x) (u : Int) : Box (W.setCell ⟨b, 0, none⟩ (.int .i64 u)) b { x with k := u } := by
  unfold Box at *; simp [World.setCell, Array.getElem?_modify, h]; rfl
theorem Box.set1 {W : World} {b : Nat} {x : Oq} (h : Box W b x) (u : Int) : Box (W.setCell ⟨b, 1, none⟩ (.int .u64 u)) b { x with p := u } := by
  unfold Box at *; simp [World.setCell, Array.getElem?_modify, h]; rfl
theorem Box.set2 {W : World} {b : Nat} {x : Oq} (h : Box W b x) (u : Int) : Box (W.setCell ⟨b, 2, none⟩ (.int .i64 u)) b { x with w := u } := by
  unfold Box at *; simp [World.setCell, Array.getElem?_modify, h]; rfl
theorem Box.set3 {W : World} {b : Nat} {x : Oq} (h : Box W b x) (u : Bool) : Box (W.setCell ⟨b, 3, none⟩ (.bool u)) b { x with x.v := u } := by
  unfold Box at *; simp [World.setCell, Array.getElem?_modify, h]; rfl
theorem Box.set4 {W : World} {b : Nat} {x : Oq} (h : Box W b x) (u : Int) : Box (W.setCell ⟨b, 4, none⟩ (.int .i64 u)) b { x with x.q := u } := by
  unfold Box at *; simp [World.setCell, Array.getElem?_modify, h]; rfl
theorem Box.set5 {W : World} {b : Nat} {x : Oq} (h : Box W b x) (u : Int) : Box (W.setCell ⟨b, 5, none⟩ (.int .i64 u)) b { x with x.f := u } := by
  unfold Box at *; simp [World.setCell, Array.getElem?_modify, h]; rfl
theorem Box.other {W : World} {b : Nat} {x : Oq} (h : Box W b x) {a : Addr} (ha : b ≠ a.block) (u : Value) : Box (W.setCell a u) b x := (Below.heap_setCell _ _ _ _ ha).trans h
theorem Box.storeF {W : World} {b : Nat} {x : Oq} (h : Box W b x) (y : Oq) : (StoreF ⟨b, 0, none⟩ (v y)).run Try.prog W = .ok () (W.setRow b (C y)) := run_storeVar_row W b 51 51 (C x) (C y) h sz rfl (C_ones y)
theorem Box.setRow {W : World} {b : Nat} {x : Oq} (h : Box W b x) (y : Oq) : Box (W.setRow b (C y)) b y := by
  unfold Box at *; simp [World.setRow, Array.getElem?_modify, h]
theorem setRow_other {W : World} {b g : Nat} (h : g ≠ b) (c : Array Value) : (W.setRow b c).heap[g]? = W.heap[g]? := by
  simp only [World.setRow, Array.getElem?_modify]; rw [if_neg (fun e => h e.symm)]
end Go.Proofs.Ytacjdgglfeemcaa.Oqw_
