/-
  airtimeref19.Entry AS A WORD: its cells, its value, the load and the store of the whole in one step (written by gen_word.py).
-/
import Derived.Test.YtacjdgglfeemcaaRows
import Derived.Test.YtacjdgglfeemcaaHiMath
import Derived.OpenShut
import Derived.ProofKit
import Derived.Deep.Slices
import Derived.Deep.OwnRows
import Derived.Below
import Derived.WalkKit
import Derived.Deep.WholeRow
import Derived.Lib.Hide
namespace Go.Proofs.Ytacjdgglfeemcaa.Ew_
open Go.ChangeShapes Go.WideShapes Go.RowKit Go.Deep Go.Hi

/-- The cells of one, a word. -/
def C (x : En) : Array Value := #[.int .u64 x.p, .bool x.x.a0.v, .int .i64 x.x.a0.q, .int .i64 x.x.a0.f, .bool x.x.a1.v, .int .i64 x.x.a1.q, .int .i64 x.x.a1.f, .bool x.x.a2.v, .int .i64 x.x.a2.q, .int .i64 x.x.a2.f, .bool x.x.a3.v, .int .i64 x.x.a3.q, .int .i64 x.x.a3.f, .bool x.x.a4.v, .int .i64 x.x.a4.q, .int .i64 x.x.a4.f]
/-- One as a value. -/
def v (x : En) : Value := .agg #[.int .u64 x.p, .bool x.x.a0.v, .int .i64 x.x.a0.q, .int .i64 x.x.a0.f, .bool x.x.a1.v, .int .i64 x.x.a1.q, .int .i64 x.x.a1.f, .bool x.x.a2.v, .int .i64 x.x.a2.q, .int .i64 x.x.a2.f, .bool x.x.a3.v, .int .i64 x.x.a3.q, .int .i64 x.x.a3.f, .bool x.x.a4.v, .int .i64 x.x.a4.q, .int .i64 x.x.a4.f]
theorem C0 (x : En) : (C x)[0]? = some (.int .u64 x.p) := rfl
theorem C1 (x : En) : (C x)[1]? = some (.bool x.x.a0.v) := rfl
theorem C2 (x : En) : (C x)[2]? = some (.int .i64 x.x.a0.q) := rfl
theorem C3 (x : En) : (C x)[3]? = some (.int .i64 x.x.a0.f) := rfl
theorem C4 (x : En) : (C x)[4]? = some (.bool x.x.a1.v) := rfl
theorem C5 (x : En) : (C x)[5]? = some (.int .i64 x.x.a1.q) := rfl
theorem C6 (x : En) : (C x)[6]? = some (.int .i64 x.x.a1.f) := rfl
theorem C7 (x : En) : (C x)[7]? = some (.bool x.x.a2.v) := rfl
theorem C8 (x : En) : (C x)[8]? = some (.int .i64 x.x.a2.q) := rfl
theorem C9 (x : En) : (C x)[9]? = some (.int .i64 x.x.a2.f) := rfl
theorem C10 (x : En) : (C x)[10]? = some (.bool x.x.a3.v) := rfl
theorem C11 (x : En) : (C x)[11]? = some (.int .i64 x.x.a3.q) := rfl
theorem C12 (x : En) : (C x)[12]? = some (.int .i64 x.x.a3.f) := rfl
theorem C13 (x : En) : (C x)[13]? = some (.bool x.x.a4.v) := rfl
theorem C14 (x : En) : (C x)[14]? = some (.int .i64 x.x.a4.q) := rfl
theorem C15 (x : En) : (C x)[15]? = some (.int .i64 x.x.a4.f) := rfl
theorem Csize (x : En) : (C x).size = 16 := rfl
theorem v_cells (x : En) : (v x).cells = C x := rfl
theorem v_match (x : En) : Value.cells.match_1 (fun _ => Array Value) (v x) (fun cs => cs) (fun u => #[u]) = C x := rfl
theorem v_agg (x : En) : v x = .agg (C x) := rfl
theorem C_ones (x : En) : (C x).all (·.oneCell') = true := by simp [C, Value.oneCell']
/-- A block of its own holds one. -/
def Box (W : World) (b : Nat) (x : En) : Prop := W.heap[b]? = some (.cells (C x) 44 (0, 0))
theorem Box.lt {W : World} {b : Nat} {x : En} (h : Box W b x) : b < W.heap.size := (Array.getElem?_eq_some_iff.1 h).1
theorem Box.below {W W' : World} {b B : Nat} {x : En} (h : Box W b x) (hb : Below B W W') (hlt : b < B) : Box W' b x := (hb.block b hlt).trans h
theorem Box.drew {W : World} {b : Nat} {x : En} (h : Box W b x) : Box W.drew b x := h
theorem Box.new (W : World) (x : En) : Box (W.alloc (.cells (C x) 44)) W.heap.size x := by
  show (W.heap.push _)[W.heap.size]? = _
  rw [Array.getElem?_push, if_pos rfl]
theorem Box.frozen {W : World} {b : Nat} {x : En} (h : Box W b x) (j : Nat) : W.frozen? ⟨b, j, none⟩ = false := by
  unfold Box at h
  simp [World.frozen?, h]
/-- The load of the whole, a word. -/
noncomputable def LoadF (a : Addr) : Sem Value := loadVar 44 a
theorem loadF (a : Addr) : loadVar 44 a = LoadF a := rfl
noncomputable def StoreF (a : Addr) (u : Value) : Sem Unit := storeVar 44 a u
theorem storeF (a : Addr) (u : Value) : storeVar 44 a u = StoreF a u := rfl
theorem sz : (Try.prog.info? 44).map (·.size) = some 16 := by kernel_rfl
theorem Box.loadF {W : World} {b : Nat} {x : En} (h : Box W b x) : (LoadF ⟨b, 0, none⟩).run Try.prog W = .ok (v x) W := by
  exact run_loadVar_row W b 44 44 (C x) (0, 0) _ h Try.underlying44 rfl sz
theorem Box.all {W : World} {b : Nat} {x : En} (h : Box W b x) : ∀ j : Nat, W.cell? ⟨b, j, none⟩ = (C x)[j]? := fun j => cell_of_row W b j (C x) _ _ h
theorem Box.allocC {W : World} {b : Nat} {x : En} (h : Box W b x) (o : Obj) : Box (W.alloc o) b x := h.below ((Below.refl _ _).alloc (Nat.le_refl _) _) h.lt
theorem loadF_new (W : World) (x : En) : (LoadF ⟨W.heap.size, 0, none⟩).run Try.prog (W.alloc (.cells (C x) 44)) = .ok (v x) (W.alloc (.cells (C x) 44)) := (Box.new W x).loadF
theorem C_zero : C ze = #[.int .u64 0, .bool false, .int .i64 0, .int .i64 0, .bool false, .int .i64 0, .int .i64 0, .bool false, .int .i64 0, .int .i64 0, .bool false, .int .i64 0, .int .i64 0, .bool false, .int .i64 0, .int .i64 0] := rfl
theorem v_zero : (.agg #[.int .u64 0, .bool false, .int .i64 0, .int .i64 0, .bool false, .int .i64 0, .int .i64 0, .bool false, .int .i64 0, .int .i64 0, .bool false, .int .i64 0, .int .i64 0, .bool false, .int .i64 0, .int .i64 0] : Value) = v ze := rfl
theorem storeF_new (W : World) (x y : En) : (StoreF ⟨W.heap.size, 0, none⟩ (v y)).run Try.prog (W.alloc (.cells (C x) 44)) = .ok () (W.alloc (.cells (C y) 44)) :=
  run_storeVar_new W 44 (C x) (C y) sz rfl (C_ones y)
theorem storeF_zero (W : World) (y : En) : (StoreF ⟨W.heap.size, 0, none⟩ (v y)).run Try.prog (W.alloc (.cells #[.int .u64 0, .bool false, .int .i64 0, .int .i64 0, .bool false, .int .i64 0, .int .i64 0, .bool false, .int .i64 0, .int .i64 0, .bool false, .int .i64 0, .int .i64 0, .bool false, .int .i64 0, .int .i64 0] 44)) = .ok () (W.alloc (.cells (C y) 44)) := storeF_new W ze y
theorem Box.set0 {W : World} {b : Nat} {x : En} (h : Box W b x) (u : Int) : Box (W.setCell ⟨b, 0, none⟩ (.int .u64 u)) b { x with p := u } := by
  unfold Box at *; simp [World.setCell, Array.getElem?_modify, h]; rfl
theorem Box.set1 {W : World} {b : Nat} {x : En} (h : Box W b x) (u : Bool) : Box (W.setCell ⟨b, 1, none⟩ (.bool u)) b { x with x.a0.v := u } := by
  unfold Box at *; simp [World.setCell, Array.getElem?_modify, h]; rfl
theorem Box.set2 {W : World} {b : Nat} {x : En} (h : Box W b x) (u : Int) : Box (W.setCell ⟨b, 2, none⟩ (.int .i64 u)) b { x with x.a0.q := u } := by
  unfold Box at *; simp [World.setCell, Array.getElem?_modify, h]; rfl
theorem Box.set3 {W : World} {b : Nat} {x : En} (h : Box W b x) (u : Int) : Box (W.setCell ⟨b, 3, none⟩ (.int .i64 u)) b { x with x.a0.f := u } := by
  unfold Box at *; simp [World.setCell, Array.getElem?_modify, h]; rfl
theorem Box.set4 {W : World} {b : Nat} {x : En} (h : Box W b x) (u : Bool) : Box (W.setCell ⟨b, 4, none⟩ (.bool u)) b { x with x.a1.v := u } := by
  unfold Box at *; simp [World.setCell, Array.getElem?_modify, h]; rfl
theorem Box.set5 {W : World} {b : Nat} {x : En} (h : Box W b x) (u : Int) : Box (W.setCell ⟨b, 5, none⟩ (.int .i64 u)) b { x with x.a1.q := u } := by
  unfold Box at *; simp [World.setCell, Array.getElem?_modify, h]; rfl
theorem Box.set6 {W : World} {b : Nat} {x : En} (h : Box W b x) (u : Int) : Box (W.setCell ⟨b, 6, none⟩ (.int .i64 u)) b { x with x.a1.f := u } := by
  unfold Box at *; simp [World.setCell, Array.getElem?_modify, h]; rfl
theorem Box.set7 {W : World} {b : Nat} {x : En} (h : Box W b x) (u : Bool) : Box (W.setCell ⟨b, 7, none⟩ (.bool u)) b { x with x.a2.v := u } := by
  unfold Box at *; simp [World.setCell, Array.getElem?_modify, h]; rfl
theorem Box.set8 {W : World} {b : Nat} {x : En} (h : Box W b x) (u : Int) : Box (W.setCell ⟨b, 8, none⟩ (.int .i64 u)) b { x with x.a2.q := u } := by
  unfold Box at *; simp [World.setCell, Array.getElem?_modify, h]; rfl
theorem Box.set9 {W : World} {b : Nat} {x : En} (h : Box W b x) (u : Int) : Box (W.setCell ⟨b, 9, none⟩ (.int .i64 u)) b { x with x.a2.f := u } := by
  unfold Box at *; simp [World.setCell, Array.getElem?_modify, h]; rfl
theorem Box.set10 {W : World} {b : Nat} {x : En} (h : Box W b x) (u : Bool) : Box (W.setCell ⟨b, 10, none⟩ (.bool u)) b { x with x.a3.v := u } := by
  unfold Box at *; simp [World.setCell, Array.getElem?_modify, h]; rfl
theorem Box.set11 {W : World} {b : Nat} {x : En} (h : Box W b x) (u : Int) : Box (W.setCell ⟨b, 11, none⟩ (.int .i64 u)) b { x with x.a3.q := u } := by
  unfold Box at *; simp [World.setCell, Array.getElem?_modify, h]; rfl
theorem Box.set12 {W : World} {b : Nat} {x : En} (h : Box W b x) (u : Int) : Box (W.setCell ⟨b, 12, none⟩ (.int .i64 u)) b { x with x.a3.f := u } := by
  unfold Box at *; simp [World.setCell, Array.getElem?_modify, h]; rfl
theorem Box.set13 {W : World} {b : Nat} {x : En} (h : Box W b x) (u : Bool) : Box (W.setCell ⟨b, 13, none⟩ (.bool u)) b { x with x.a4.v := u } := by
  unfold Box at *; simp [World.setCell, Array.getElem?_modify, h]; rfl
theorem Box.set14 {W : World} {b : Nat} {x : En} (h : Box W b x) (u : Int) : Box (W.setCell ⟨b, 14, none⟩ (.int .i64 u)) b { x with x.a4.q := u } := by
  unfold Box at *; simp [World.setCell, Array.getElem?_modify, h]; rfl
theorem Box.set15 {W : World} {b : Nat} {x : En} (h : Box W b x) (u : Int) : Box (W.setCell ⟨b, 15, none⟩ (.int .i64 u)) b { x with x.a4.f := u } := by
  unfold Box at *; simp [World.setCell, Array.getElem?_modify, h]; rfl
theorem Box.other {W : World} {b : Nat} {x : En} (h : Box W b x) {a : Addr} (ha : b ≠ a.block) (u : Value) : Box (W.setCell a u) b x := (Below.heap_setCell _ _ _ _ ha).trans h
theorem Box.storeF {W : World} {b : Nat} {x : En} (h : Box W b x) (y : En) : (StoreF ⟨b, 0, none⟩ (v y)).run Try.prog W = .ok () (W.setRow b (C y)) := run_storeVar_row W b 44 44 (C x) (C y) h sz rfl (C_ones y)
theorem Box.setRow {W : World} {b : Nat} {x : En} (h : Box W b x) (y : En) : Box (W.setRow b (C y)) b y := by
  unfold Box at *; simp [World.setRow, Array.getElem?_modify, h]
theorem setRow_other {W : World} {b g : Nat} (h : g ≠ b) (c : Array Value) : (W.setRow b c).heap[g]? = W.heap[g]? := by
  simp only [World.setRow, Array.getElem?_modify]; rw [if_neg (fun e => h e.symm)]
end Go.Proofs.Ytacjdgglfeemcaa.Ew_
