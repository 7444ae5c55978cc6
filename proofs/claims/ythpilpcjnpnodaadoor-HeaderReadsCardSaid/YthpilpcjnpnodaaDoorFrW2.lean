/-
  FRAMES AS WORDS, more: a literal frame folded, the store of a whole frame, a field set among the cells.
-/
import Derived.Test.YthpilpcjnpnodaaDoorFrW
namespace Go.Proofs.YthpilpcjnpnodaaDoor.Fr_
open Go.ChangeShapes Go.WideShapes Go.RowKit Go.Deep Go.Hd
theorem fold_v (kd : Int) (rt : Bool) (mo : Bool) (pw : Bool) (st : Bool) (la : Bool) (jo : Bool) (po : Int) (du : Int) (ta : Int) (fa : Int) (th : Int) (sq : Int) (fg : Int) (ct : Int) (ky : Int) (cn : Int) (bo : ByteArray) : (.agg #[.int .i64 kd, .bool rt, .bool mo, .bool pw, .bool st, .bool la, .bool jo, .int .i64 po, .int .i64 du, .int .u64 ta, .int .u64 fa, .int .u64 th, .int .i64 sq, .int .i64 fg, .int .i64 ct, .int .i64 ky, .int .i64 cn, .string bo] : Value) = v ⟨kd, rt, mo, pw, st, la, jo, po, du, ta, fa, th, sq, fg, ct, ky, cn, bo⟩ := rfl
theorem Box.storeF {W : World} {b : Nat} {x : Fr} (h : Box W b x) (y : Fr) : (StoreF ⟨b, 0, none⟩ (v y)).run Tryd.prog W = .ok () (W.setRow b (C y)) := run_storeVar_row W b 25 25 (C x) (C y) h sz rfl (C_ones y)
theorem Box.setRow {W : World} {b : Nat} {x : Fr} (h : Box W b x) (y : Fr) : Box (W.setRow b (C y)) b y := by
  unfold Box at *; simp [World.setRow, Array.getElem?_modify, h]; rfl
theorem setRow_other {W : World} {b g : Nat} (h : g ≠ b) (c : Array Value) : (W.setRow b c).heap[g]? = W.heap[g]? := by
  simp only [World.setRow, Array.getElem?_modify]; rw [if_neg (fun e => h e.symm)]
theorem setC0 (x : Fr) (u : Int) : (C x).setIfInBounds 0 (.int .i64 u) = C { x with kd := u } := rfl
theorem setC1 (x : Fr) (u : Bool) : (C x).setIfInBounds 1 (.bool u) = C { x with rt := u } := rfl
theorem setC2 (x : Fr) (u : Bool) : (C x).setIfInBounds 2 (.bool u) = C { x with mo := u } := rfl
theorem setC3 (x : Fr) (u : Bool) : (C x).setIfInBounds 3 (.bool u) = C { x with pw := u } := rfl
theorem setC4 (x : Fr) (u : Bool) : (C x).setIfInBounds 4 (.bool u) = C { x with st := u } := rfl
theorem setC5 (x : Fr) (u : Bool) : (C x).setIfInBounds 5 (.bool u) = C { x with la := u } := rfl
theorem setC6 (x : Fr) (u : Bool) : (C x).setIfInBounds 6 (.bool u) = C { x with jo := u } := rfl
theorem setC7 (x : Fr) (u : Int) : (C x).setIfInBounds 7 (.int .i64 u) = C { x with po := u } := rfl
theorem setC8 (x : Fr) (u : Int) : (C x).setIfInBounds 8 (.int .i64 u) = C { x with du := u } := rfl
theorem setC9 (x : Fr) (u : Int) : (C x).setIfInBounds 9 (.int .u64 u) = C { x with ta := u } := rfl
theorem setC10 (x : Fr) (u : Int) : (C x).setIfInBounds 10 (.int .u64 u) = C { x with fa := u } := rfl
theorem setC11 (x : Fr) (u : Int) : (C x).setIfInBounds 11 (.int .u64 u) = C { x with th := u } := rfl
theorem setC12 (x : Fr) (u : Int) : (C x).setIfInBounds 12 (.int .i64 u) = C { x with sq := u } := rfl
theorem setC13 (x : Fr) (u : Int) : (C x).setIfInBounds 13 (.int .i64 u) = C { x with fg := u } := rfl
theorem setC14 (x : Fr) (u : Int) : (C x).setIfInBounds 14 (.int .i64 u) = C { x with ct := u } := rfl
theorem setC15 (x : Fr) (u : Int) : (C x).setIfInBounds 15 (.int .i64 u) = C { x with ky := u } := rfl
theorem setC16 (x : Fr) (u : Int) : (C x).setIfInBounds 16 (.int .i64 u) = C { x with cn := u } := rfl
theorem setC17 (x : Fr) (u : ByteArray) : (C x).setIfInBounds 17 (.string u) = C { x with bo := u } := rfl
end Go.Proofs.YthpilpcjnpnodaaDoor.Fr_
