/-
  FRAMES AS WORDS: the cells of a frame, the load and the store of a whole frame in one step.
-/
import Derived.Test.YthpilpcjnpnodaaDoorFrAt
import Derived.Test.YthpilpcjnpnodaaDoorHdMath
import Derived.Deep.WholeRow
import Derived.Lib.Hide
namespace Go.Proofs.YthpilpcjnpnodaaDoor.Fr_
open Go.ChangeShapes Go.WideShapes Go.RowKit Go.Deep Go.Hd

/-- The cells of a frame, a word. -/
def C (x : Fr) : Array Value := #[.int .i64 x.kd, .bool x.rt, .bool x.mo, .bool x.pw, .bool x.st, .bool x.la, .bool x.jo, .int .i64 x.po, .int .i64 x.du, .int .u64 x.ta, .int .u64 x.fa, .int .u64 x.th, .int .i64 x.sq, .int .i64 x.fg, .int .i64 x.ct, .int .i64 x.ky, .int .i64 x.cn, .string x.bo]
theorem C0 (x : Fr) : (C x)[0]? = some (.int .i64 x.kd) := rfl
theorem C1 (x : Fr) : (C x)[1]? = some (.bool x.rt) := rfl
theorem C2 (x : Fr) : (C x)[2]? = some (.bool x.mo) := rfl
theorem C3 (x : Fr) : (C x)[3]? = some (.bool x.pw) := rfl
theorem C4 (x : Fr) : (C x)[4]? = some (.bool x.st) := rfl
theorem C5 (x : Fr) : (C x)[5]? = some (.bool x.la) := rfl
theorem C6 (x : Fr) : (C x)[6]? = some (.bool x.jo) := rfl
theorem C7 (x : Fr) : (C x)[7]? = some (.int .i64 x.po) := rfl
theorem C8 (x : Fr) : (C x)[8]? = some (.int .i64 x.du) := rfl
theorem C9 (x : Fr) : (C x)[9]? = some (.int .u64 x.ta) := rfl
theorem C10 (x : Fr) : (C x)[10]? = some (.int .u64 x.fa) := rfl
theorem C11 (x : Fr) : (C x)[11]? = some (.int .u64 x.th) := rfl
theorem C12 (x : Fr) : (C x)[12]? = some (.int .i64 x.sq) := rfl
theorem C13 (x : Fr) : (C x)[13]? = some (.int .i64 x.fg) := rfl
theorem C14 (x : Fr) : (C x)[14]? = some (.int .i64 x.ct) := rfl
theorem C15 (x : Fr) : (C x)[15]? = some (.int .i64 x.ky) := rfl
theorem C16 (x : Fr) : (C x)[16]? = some (.int .i64 x.cn) := rfl
theorem C17 (x : Fr) : (C x)[17]? = some (.string x.bo) := rfl
theorem Csize (x : Fr) : (C x).size = 18 := rfl
theorem v_cells (x : Fr) : (v x).cells = C x := rfl
theorem v_match (x : Fr) : Value.cells.match_1 (fun _ => Array Value) (v x) (fun cs => cs) (fun u => #[u]) = C x := rfl
theorem v_agg (x : Fr) : v x = .agg (C x) := rfl
theorem C_ones (x : Fr) : (C x).all (·.oneCell') = true := by simp [C, Value.oneCell']
/-- The load of a whole frame, a word. -/
noncomputable def LoadF (a : Addr) : Sem Value := loadVar 25 a
theorem loadF (a : Addr) : loadVar 25 a = LoadF a := rfl
noncomputable def StoreF (a : Addr) (u : Value) : Sem Unit := storeVar 25 a u
theorem storeF (a : Addr) (u : Value) : storeVar 25 a u = StoreF a u := rfl
theorem sz : (Tryd.prog.info? 25).map (·.size) = some 18 := by kernel_rfl
theorem Box.loadF {W : World} {b : Nat} {x : Fr} (h : Box W b x) : (LoadF ⟨b, 0, none⟩).run Tryd.prog W = .ok (v x) W := by
  exact run_loadVar_row W b 25 25 (C x) (0, 0) _ h Tryd.underlying25 rfl sz
theorem Box.all {W : World} {b : Nat} {x : Fr} (h : Box W b x) : ∀ j : Nat, W.cell? ⟨b, j, none⟩ = (C x)[j]? := fun j => cell_of_row W b j (C x) _ _ h
theorem Box.newC (W : World) (x : Fr) : Box (W.alloc (.cells (C x) 25)) W.heap.size x := Box.new W x rfl
theorem Box.allocC {W : World} {b : Nat} {x : Fr} (h : Box W b x) (o : Obj) : Box (W.alloc o) b x := h.below ((Below.refl _ _).alloc (Nat.le_refl _) _) h.lt
theorem loadF_new (W : World) (x : Fr) : (LoadF ⟨W.heap.size, 0, none⟩).run Tryd.prog (W.alloc (.cells (C x) 25)) = .ok (v x) (W.alloc (.cells (C x) 25)) := (Box.newC W x).loadF
/-- The zero frame. -/
def zf : Fr := ⟨0, false, false, false, false, false, false, 0, 0, 0, 0, 0, 0, 0, 0, 0, 0, ⟨#[]⟩⟩
theorem C_zf : C zf = #[.int .i64 0, .bool false, .bool false, .bool false, .bool false, .bool false, .bool false, .int .i64 0, .int .i64 0, .int .u64 0, .int .u64 0, .int .u64 0, .int .i64 0, .int .i64 0, .int .i64 0, .int .i64 0, .int .i64 0, .string ⟨#[]⟩] := rfl
theorem v_zf : (.agg #[.int .i64 0, .bool false, .bool false, .bool false, .bool false, .bool false, .bool false, .int .i64 0, .int .i64 0, .int .u64 0, .int .u64 0, .int .u64 0, .int .i64 0, .int .i64 0, .int .i64 0, .int .i64 0, .int .i64 0, .string ⟨#[]⟩] : Value) = v zf := rfl
theorem storeF_new (W : World) (x y : Fr) : (StoreF ⟨W.heap.size, 0, none⟩ (v y)).run Tryd.prog (W.alloc (.cells (C x) 25)) = .ok () (W.alloc (.cells (C y) 25)) :=
  run_storeVar_new W 25 (C x) (C y) sz rfl (C_ones y)
theorem storeF_zero (W : World) (y : Fr) : (StoreF ⟨W.heap.size, 0, none⟩ (v y)).run Tryd.prog (W.alloc (.cells #[.int .i64 0, .bool false, .bool false, .bool false, .bool false, .bool false, .bool false, .int .i64 0, .int .i64 0, .int .u64 0, .int .u64 0, .int .u64 0, .int .i64 0, .int .i64 0, .int .i64 0, .int .i64 0, .int .i64 0, .string ⟨#[]⟩] 25)) = .ok () (W.alloc (.cells (C y) 25)) := storeF_new W zf y
theorem Box.set0 {W : World} {b : Nat} {x : Fr} (h : Box W b x) (u : Int) : Box (W.setCell ⟨b, 0, none⟩ (.int .i64 u)) b { x with kd := u } := by
  unfold Box at *; simp [World.setCell, Array.getElem?_modify, h]
theorem Box.set1 {W : World} {b : Nat} {x : Fr} (h : Box W b x) (u : Bool) : Box (W.setCell ⟨b, 1, none⟩ (.bool u)) b { x with rt := u } := by
  unfold Box at *; simp [World.setCell, Array.getElem?_modify, h]
theorem Box.set2 {W : World} {b : Nat} {x : Fr} (h : Box W b x) (u : Bool) : Box (W.setCell ⟨b, 2, none⟩ (.bool u)) b { x with mo := u } := by
  unfold Box at *; simp [World.setCell, Array.getElem?_modify, h]
theorem Box.set3 {W : World} {b : Nat} {x : Fr} (h : Box W b x) (u : Bool) : Box (W.setCell ⟨b, 3, none⟩ (.bool u)) b { x with pw := u } := by
  unfold Box at *; simp [World.setCell, Array.getElem?_modify, h]
theorem Box.set4 {W : World} {b : Nat} {x : Fr} (h : Box W b x) (u : Bool) : Box (W.setCell ⟨b, 4, none⟩ (.bool u)) b { x with st := u } := by
  unfold Box at *; simp [World.setCell, Array.getElem?_modify, h]
theorem Box.set5 {W : World} {b : Nat} {x : Fr} (h : Box W b x) (u : Bool) : Box (W.setCell ⟨b, 5, none⟩ (.bool u)) b { x with la := u } := by
  unfold Box at *; simp [World.setCell, Array.getElem?_modify, h]
theorem Box.set6 {W : World} {b : Nat} {x : Fr} (h : Box W b x) (u : Bool) : Box (W.setCell ⟨b, 6, none⟩ (.bool u)) b { x with jo := u } := by
  unfold Box at *; simp [World.setCell, Array.getElem?_modify, h]
theorem Box.set7 {W : World} {b : Nat} {x : Fr} (h : Box W b x) (u : Int) : Box (W.setCell ⟨b, 7, none⟩ (.int .i64 u)) b { x with po := u } := by
  unfold Box at *; simp [World.setCell, Array.getElem?_modify, h]
theorem Box.set8 {W : World} {b : Nat} {x : Fr} (h : Box W b x) (u : Int) : Box (W.setCell ⟨b, 8, none⟩ (.int .i64 u)) b { x with du := u } := by
  unfold Box at *; simp [World.setCell, Array.getElem?_modify, h]
theorem Box.set9 {W : World} {b : Nat} {x : Fr} (h : Box W b x) (u : Int) : Box (W.setCell ⟨b, 9, none⟩ (.int .u64 u)) b { x with ta := u } := by
  unfold Box at *; simp [World.setCell, Array.getElem?_modify, h]
theorem Box.set10 {W : World} {b : Nat} {x : Fr} (h : Box W b x) (u : Int) : Box (W.setCell ⟨b, 10, none⟩ (.int .u64 u)) b { x with fa := u } := by
  unfold Box at *; simp [World.setCell, Array.getElem?_modify, h]
theorem Box.set11 {W : World} {b : Nat} {x : Fr} (h : Box W b x) (u : Int) : Box (W.setCell ⟨b, 11, none⟩ (.int .u64 u)) b { x with th := u } := by
  unfold Box at *; simp [World.setCell, Array.getElem?_modify, h]
theorem Box.set12 {W : World} {b : Nat} {x : Fr} (h : Box W b x) (u : Int) : Box (W.setCell ⟨b, 12, none⟩ (.int .i64 u)) b { x with sq := u } := by
  unfold Box at *; simp [World.setCell, Array.getElem?_modify, h]
theorem Box.set13 {W : World} {b : Nat} {x : Fr} (h : Box W b x) (u : Int) : Box (W.setCell ⟨b, 13, none⟩ (.int .i64 u)) b { x with fg := u } := by
  unfold Box at *; simp [World.setCell, Array.getElem?_modify, h]
theorem Box.set14 {W : World} {b : Nat} {x : Fr} (h : Box W b x) (u : Int) : Box (W.setCell ⟨b, 14, none⟩ (.int .i64 u)) b { x with ct := u } := by
  unfold Box at *; simp [World.setCell, Array.getElem?_modify, h]
theorem Box.set15 {W : World} {b : Nat} {x : Fr} (h : Box W b x) (u : Int) : Box (W.setCell ⟨b, 15, none⟩ (.int .i64 u)) b { x with ky := u } := by
  unfold Box at *; simp [World.setCell, Array.getElem?_modify, h]
theorem Box.set16 {W : World} {b : Nat} {x : Fr} (h : Box W b x) (u : Int) : Box (W.setCell ⟨b, 16, none⟩ (.int .i64 u)) b { x with cn := u } := by
  unfold Box at *; simp [World.setCell, Array.getElem?_modify, h]
theorem Box.set17 {W : World} {b : Nat} {x : Fr} (h : Box W b x) (u : ByteArray) : Box (W.setCell ⟨b, 17, none⟩ (.string u)) b { x with bo := u } := by
  unfold Box at *; simp [World.setCell, Array.getElem?_modify, h]
theorem Box.other {W : World} {b : Nat} {x : Fr} (h : Box W b x) {a : Addr} (ha : b ≠ a.block) (u : Value) : Box (W.setCell a u) b x := (Below.heap_setCell _ _ _ _ ha).trans h
end Go.Proofs.YthpilpcjnpnodaaDoor.Fr_
