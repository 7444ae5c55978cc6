/-
  BODIES AS WORDS, more: the plan inside loaded and stored as a word; a body in its own block beside all that was there.
-/
import Derived.Test.YtcpfkikifhcdmaaMgW
import Derived.Test.YtcpfkikifhcdmaaWrAll
import Derived.Test.YtcpfkikifhcdmaaRdTot
import Derived.Deep.MidRow
import Derived.DeepKeys
namespace Go.Proofs.Ytcpfkikifhcdmaa.Bd_
open Go.ChangeShapes Go.WideShapes Go.RowKit Go.Deep Go.Mg Go.Wr

def PC (a p l : Int) : Array Value := #[.int .i64 a, .int .i64 p, .int .i64 l]
noncomputable def LoadP (a : Addr) : Sem Value := loadVar 25 a
theorem loadP (a : Addr) : loadVar 25 a = LoadP a := rfl
theorem szP : (Try.prog.info? 25).map (·.size) = some 3 := by kernel_rfl
theorem Box.range {W : World} {b : Nat} {x : Bd} (h : Box W b x) (o : Nat) (cs : List Value) (hc : ∀ j v, cs[j]? = some v → (C x)[o + j]? = some v) : W.rangeAt b o cs := fun j v hv => (h.all (o + j)).trans (hc j v hv)
theorem nth {n : Nat} {cs : List Value} {f : Nat → Option Value} (hn : cs.length = n) (h : ∀ j, j < n → cs[j]? = f j) : ∀ j v, cs[j]? = some v → f j = some v := fun j v hv => by
  have hj : j < cs.length := (List.getElem?_eq_some_iff.1 hv).1
  rw [← h j (by omega), hv]
theorem Box.loadP {W : World} {b : Nat} {x : Bd} (h : Box W b x) : (LoadP ⟨b, 14, none⟩).run Try.prog W = .ok (.agg #[.int .i64 x.pf, .int .i64 x.pp, .int .i64 x.pl]) W :=
  run_loadVar_mid W b 14 25 (PC x.pf x.pp x.pl).toList _ (h.range 14 _ (nth (n := 3) rfl (fun j hj => by match j, hj with | 0, _ => rfl | 1, _ => rfl | 2, _ => rfl))) Try.underlying25 rfl szP
theorem loadP_of {W : World} {b o : Nat} {c p l : Int} (h0 : W.cell? ⟨b, o, none⟩ = some (.int .i64 c)) (h1 : W.cell? ⟨b, o + 1, none⟩ = some (.int .i64 p)) (h2 : W.cell? ⟨b, o + 2, none⟩ = some (.int .i64 l)) : (LoadP ⟨b, o, none⟩).run Try.prog W = .ok (.agg #[.int .i64 c, .int .i64 p, .int .i64 l]) W :=
  run_loadVar_mid W b o 25 (PC c p l).toList _ (nth (n := 3) (f := fun j => W.cell? ⟨b, o + j, none⟩) rfl (fun j hj => by match j, hj with | 0, _ => exact h0.symm | 1, _ => exact h1.symm | 2, _ => exact h2.symm)) Try.underlying25 rfl szP
theorem Box.there {W : World} {b : Nat} {x : Bd} (h : Box W b x) (o n : Nat) (ho : o + n ≤ 17) : W.there b o n := fun j hj => by
  refine ⟨?_, h.frozen _⟩
  rw [h.all (o + j)]
  have : o + j < (C x).size := by rw [Csize]; omega
  rw [Array.getElem?_eq_getElem this]; rfl
noncomputable def StoreP (a : Addr) (u : Value) : Sem Unit := storeVar 25 a u
theorem storeP (a : Addr) (u : Value) : storeVar 25 a u = StoreP a u := rfl
/-- The world behind a store into the plan of a body. -/
def setP (W : World) (b : Nat) (a p l : Int) : World := W.setCells b 14 (PC a p l).toList
theorem Box.storeP {W : World} {b : Nat} {x : Bd} (h : Box W b x) (a p l : Int) : (StoreP ⟨b, 14, none⟩ (.agg #[.int .i64 a, .int .i64 p, .int .i64 l])).run Try.prog W = .ok () (setP W b a p l) :=
  run_storeVar_mid W b 14 25 (PC a p l) (h.there 14 3 (by decide)) szP (by simp [PC, Value.oneCell'])
theorem Box.setP {W : World} {b : Nat} {x : Bd} (h : Box W b x) (a p l : Int) : Box (setP W b a p l) b { x with pf := a, pp := p, pl := l } :=
  (((h.set14 a).set15 p).set16 l)
theorem but_setP (W : World) (b : Nat) (a p l : Int) : But b W (setP W b a p l) :=
  ((But.set1 b 14 W (.int .i64 a)).trans (But.set1 b 15 _ (.int .i64 p))).trans (But.set1 b 16 _ (.int .i64 l))
end Go.Proofs.Ytcpfkikifhcdmaa.Bd_

namespace Go.Proofs.Ytcpfkikifhcdmaa
open Go.RowKit Go.Mg
/-- A body in a block of its own, beside all that was there. -/
structure Stb (w : World) (b : Bd) (wi : World) : Prop where
  box : Bd_.Box wi w.heap.size b
  bel : Below w.heap.size w wi
theorem Stb.keep {w wi w' : World} {b : Bd} (h : Stb w b wi) (hb : Below wi.heap.size wi w') : Stb w b w' := ⟨h.box.below hb h.box.lt, h.bel.trans (hb.mono h.bel.size)⟩
theorem Stb.keep' {w : World} {b : Bd} (wi w' : World) (h : Stb w b wi) (hb : Below wi.heap.size wi w') : Stb w b w' := h.keep hb
theorem Stb.drew {w wi : World} {b : Bd} (h : Stb w b wi) : Stb w b wi.drew := h.keep (Below.refl _ _).drew
theorem Stb.new (w : World) (b : Bd) : Stb w b (w.alloc (.cells (Bd_.C b) 27)) := ⟨Bd_.Box.new w b, (Below.refl _ _).alloc (Nat.le_refl _) _⟩

end Go.Proofs.Ytcpfkikifhcdmaa
