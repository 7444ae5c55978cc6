/-
  OF NO PROGRAM: a block with known cells, and what a call that writes one block leaves as it was.
-/
import Derived.WalkKit
import Derived.Deep.OwnRows
namespace Go.Wr
open Go.RowKit

/-- Block b holds these cells, none of them frozen. -/
def Blk (w : World) (b : Nat) (t : TypeId) (vs : List Value) : Prop := w.heap[b]? = some (.cells vs.toArray t (0, 0))

namespace Blk
variable {w w' : World} {b : Nat} {t : TypeId} {vs : List Value}
theorem cell (h : Blk w b t vs) (i : Nat) (v : Value) (hv : vs[i]? = some v) : w.cell? ⟨b, i, none⟩ = some v := by
  unfold Blk at h
  simp [World.cell?, h, hv]
theorem frozen (h : Blk w b t vs) (i : Nat) : w.frozen? ⟨b, i, none⟩ = false := by
  unfold Blk at h
  simp [World.frozen?, h]
theorem lt (h : Blk w b t vs) : b < w.heap.size := (Array.getElem?_eq_some_iff.1 h).1
theorem of_block (h : Blk w b t vs) (e : w'.heap[b]? = w.heap[b]?) : Blk w' b t vs := e.trans h
theorem set (h : Blk w b t vs) (i : Nat) (v : Value) : Blk (w.setCell ⟨b, i, none⟩ v) b t (vs.set i v) := by
  unfold Blk at *
  simp [World.setCell, Array.getElem?_modify, h]
theorem setOther (h : Blk w b t vs) {a : Addr} (ha : b ≠ a.block) (v : Value) : Blk (w.setCell a v) b t vs := h.of_block (Below.heap_setCell _ _ _ _ ha)
theorem alloc (h : Blk w b t vs) (o : Obj) : Blk (w.alloc o) b t vs := h.of_block (Below.heap_alloc _ _ _ h.lt)
theorem drew (h : Blk w b t vs) : Blk w.drew b t vs := h
theorem new (w : World) (g : Nat) (t : TypeId) (vs : List Value) (h : g = w.heap.size) : Blk (w.alloc (.cells vs.toArray t (0, 0))) g t vs := by
  subst h
  show (w.heap.push _)[w.heap.size]? = _
  rw [Array.getElem?_push, if_pos rfl]
end Blk

/-- All blocks but b that were there are as they were; the streams too. -/
structure But (b : Nat) (w w' : World) : Prop where
  os : w'.os = w.os
  tape : w'.tape = w.tape
  output : w'.output = w.output
  size : w.heap.size ≤ w'.heap.size
  block : ∀ k, k < w.heap.size → k ≠ b → w'.heap[k]? = w.heap[k]?

namespace But
variable {b B : Nat} {a w w' : World}
theorem refl (b : Nat) (w : World) : But b w w := ⟨rfl, rfl, rfl, Nat.le_refl _, fun _ _ _ => rfl⟩
theorem trans {c : World} (h : But b a w) (k : But b w c) : But b a c :=
  ⟨k.os.trans h.os, k.tape.trans h.tape, k.output.trans h.output, Nat.le_trans h.size k.size, fun i hi hb => (k.block i (Nat.lt_of_lt_of_le hi h.size) hb).trans (h.block i hi hb)⟩
theorem drew (h : But b a w) : But b a w.drew := ⟨h.os, h.tape, h.output, h.size, h.block⟩
theorem alloc (h : But b a w) (o : Obj) : But b a (w.alloc o) :=
  h.trans ⟨rfl, rfl, rfl, by simp, fun k hk _ => Below.heap_alloc _ _ _ (by omega)⟩
theorem setCell (h : But b a w) {p : Addr} (hp : p.block = b ∨ a.heap.size ≤ p.block) (u : Value) : But b a (w.setCell p u) :=
  ⟨h.os, h.tape, h.output, by simpa [World.setCell] using h.size, fun k hk hb => (Below.heap_setCell _ _ _ _ (by omega)).trans (h.block k hk hb)⟩
theorem set1 (r i : Nat) (w : World) (v : Value) : But r w (w.setCell ⟨r, i, none⟩ v) := (But.refl r w).setCell (p := ⟨r, i, none⟩) (.inl rfl) v
theorem of_below (h : Below B a w) (hB : a.heap.size ≤ B) : But b a w := ⟨h.os, h.tape, h.output, h.size, fun k hk _ => h.block k (by omega)⟩
theorem below (h : But b a w) (hB : B ≤ a.heap.size) (hb : B ≤ b) : Below B a w := ⟨h.os, h.tape, h.output, h.size, fun k hk => h.block k (by omega) (by omega)⟩
theorem cell (h : But b a w) {p : Addr} (hp : p.block < a.heap.size) (hb : p.block ≠ b) : w.cell? p = a.cell? p := World.cell?_of_block (w := a) (h.block p.block hp hb)
theorem blk {t : TypeId} {vs : List Value} {g : Nat} (h : But b a w) (hg : Blk a g t vs) (hb : g ≠ b) : Blk w g t vs := hg.of_block (h.block g hg.lt hb)
theorem grown {row : Option Nat} (h : But b a w) (hg : w.grownBy w' row) (hr : ∀ k, row = some k → k = b ∨ a.heap.size ≤ k) : But b a w' :=
  ⟨hg.os.trans h.os, hg.tape.trans h.tape, hg.output.trans h.output, Nat.le_trans h.size hg.size, fun k hk hb => (hg.block k (Nat.lt_of_lt_of_le hk h.size) (fun e => by have := hr k e.symm; omega)).trans (h.block k hk hb)⟩
end But
end Go.Wr
