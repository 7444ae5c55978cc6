/-
  FRAMES HANDED BACK out of a result's cell: alone, beside a value, beside two; the state of such a cell.
-/
import Derived.Test.YtacbhbejchjbiaaDoorFrW
import Derived.Test.YtacbhbejchjbiaaDoorWrAll
namespace Go.Proofs.YtacbhbejchjbiaaDoor
open Go.RowKit Go.Hd Go.Wr

/-- A frame that lies in the result's cell is handed back. -/
theorem ret_frame {fn : Func} {p : Tmp} (hr : fn.results = #[.cell p 34]) {tmps : Array Value} {ds : _} {w : World} {g : Nat} {y : Fr} {R : Ending → World → Prop} (hp : tmps.getD p undef = .pointer (some ⟨g, 0, none⟩)) (hb : Fr_.Box w g y) (hd : ds = []) (hR : R (.returned (Fr_.v y)) w) :
    bodyPost Tryd.prog fn R .ret ⟨tmps, ds⟩ w :=
  bodyPost_ret (results_cell_row hr tmps w g 34 (Fr_.C y) (0, 0) _ hp hb Tryd.underlying34 rfl Fr_.sz) hd hR

/-- A frame that lies in the result's cell is handed back, with two numbers. -/
theorem ret_three {fn : Func} {p q r : Tmp} (hr : fn.results = #[.cell p 34, .tmp q, .tmp r]) {tmps : Array Value} {ds : _} {w : World} {g : Nat} {y : Fr} {vq vr : Value} {R : Ending → World → Prop} (hp : tmps.getD p undef = .pointer (some ⟨g, 0, none⟩)) (hq : tmps.getD q undef = vq) (hr' : tmps.getD r undef = vr) (hb : Fr_.Box w g y) (hd : ds = []) (hR : R (.returned (.tuple #[Fr_.v y, vq, vr])) w) :
    bodyPost Tryd.prog fn R .ret ⟨tmps, ds⟩ w := by
  refine bodyPost_ret (v := .tuple #[Fr_.v y, vq, vr]) ?_ hd hR
  have hp' : tmps[p]?.getD undef = .pointer (some ⟨g, 0, none⟩) := by simpa using hp
  have hq' : tmps[q]?.getD undef = vq := by simpa using hq
  have hr'' : tmps[r]?.getD undef = vr := by simpa using hr'
  have hl := run_loadVar_row w g 34 34 (Fr_.C y) (0, 0) _ hb Tryd.underlying34 rfl Fr_.sz
  simp [results, hr, hp', hq', hr'', asAddr, hl]
  rfl

/-- The result's cell holds the zero frame, and what was there before stands. -/
structure Gst (wb : World) (r : Nat) (wi : World) : Prop where
  res : Fr_.Box wi r Fr_.zf
  bel : Below wb.heap.size wb wi
  re : wb.heap.size ≤ r
theorem Gst.keep {wb wi w' : World} {r : Nat} (h : Gst wb r wi) (hb : Below wi.heap.size wi w') : Gst wb r w' := ⟨h.res.below hb h.res.lt, h.bel.trans (hb.mono h.bel.size), h.re⟩
theorem Gst.new (w : World) : Gst w w.heap.size (w.alloc (.cells (Fr_.C Fr_.zf) 34)) := ⟨Fr_.Box.newC w Fr_.zf, (Below.refl _ _).alloc (Nat.le_refl _) _, Nat.le_refl _⟩
theorem Gst.fin {wb wi : World} {r : Nat} (h : Gst wb r wi) (y : Fr) : Below wb.heap.size wb (wi.setRow r (Fr_.C y)) := below_setRow h.bel h.re
/-- A frame and a value. -/
theorem ret_two {fn : Func} {p q : Tmp} (hr : fn.results = #[.cell p 34, .tmp q]) {tmps : Array Value} {ds : _} {w : World} {g : Nat} {y : Fr} {vq : Value} {R : Ending → World → Prop} (hp : tmps.getD p undef = .pointer (some ⟨g, 0, none⟩)) (hq : tmps.getD q undef = vq) (hb : Fr_.Box w g y) (hd : ds = []) (hR : R (.returned (.tuple #[Fr_.v y, vq])) w) :
    bodyPost Tryd.prog fn R .ret ⟨tmps, ds⟩ w := by
  refine bodyPost_ret (v := .tuple #[Fr_.v y, vq]) ?_ hd hR
  have hp' : tmps[p]?.getD undef = .pointer (some ⟨g, 0, none⟩) := by simpa using hp
  have hq' : tmps[q]?.getD undef = vq := by simpa using hq
  have hl := run_loadVar_row w g 34 34 (Fr_.C y) (0, 0) _ hb Tryd.underlying34 rfl Fr_.sz
  simp [results, hr, hp', hq', asAddr, hl]
  rfl
theorem Gst.but {wb wi w' : World} {r b : Nat} (h : Gst wb r wi) (hb : But b wi w') (hne : r ≠ b) (hle : wb.heap.size ≤ b) : Gst wb r w' :=
  ⟨(hb.block r h.res.lt hne).trans h.res, h.bel.trans (hb.below h.bel.size hle), h.re⟩
/-- A new Writer. -/
theorem wr_new (w : World) : Wr (w.alloc (.cells #[.int .i64 0, .pointer none, .string ⟨#[]⟩] 50)) w.heap.size [] := ⟨none, ⟨#[]⟩, [], Blk.new _ _ _ _ rfl, .nil, rfl⟩
end Go.Proofs.YtacbhbejchjbiaaDoor
