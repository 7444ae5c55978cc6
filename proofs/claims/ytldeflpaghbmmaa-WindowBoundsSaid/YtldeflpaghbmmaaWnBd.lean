/-
  What WindowBounds holds between its calls.
-/
import Derived.Test.YtldeflpaghbmmaaWnWait
namespace Go.Proofs.Ytldeflpaghbmmaa
open Go.RowKit Go.Wn Go.Sq Go.Wr

/-- The state in its cell, which identifiers are open in a row of bools. -/
structure Bd (W : World) (B g : Nat) (x : Wn) (s : St) (f : Int → Bool) (w : World) : Prop where
  bx : Ww_.Box w B x
  lies : Lies w x s
  nt : ∀ j : Nat, j < 41 → w.cell? ⟨g, j, none⟩ = some (.bool (f j)) ∧ w.frozen? ⟨g, j, none⟩ = false
  bel : Below W.heap.size W w
  hB : W.heap.size ≤ B
  hg : W.heap.size ≤ g
  lt : g < w.heap.size
  ne : B ≠ g
  nb : ∀ bb off, x.sa = some ⟨bb, off, none⟩ → bb ≠ B ∧ bb ≠ g
theorem Bd.keep {W w w' : World} {B g : Nat} {x : Wn} {s : St} {f : Int → Bool} (h : Bd W B g x s f w) (hb : Below w.heap.size w w') : Bd W B g x s f w' :=
  ⟨h.bx.below hb h.bx.lt, h.lies.below hb, fun j hj => ⟨(hb.cell h.lt).trans (h.nt j hj).1, (hb.frozen h.lt).trans (h.nt j hj).2⟩, h.bel.trans (hb.mono h.bel.size), h.hB, h.hg, Nat.lt_of_lt_of_le h.lt hb.size, h.ne, h.nb⟩
theorem Bd.congr {W w : World} {B g : Nat} {x : Wn} {s : St} {f f' : Int → Bool} (h : Bd W B g x s f w) (e : ∀ j : Nat, j < 41 → f' j = f j) : Bd W B g x s f' w :=
  { h with nt := fun j hj => by rw [e j hj]; exact h.nt j hj }
theorem sl_cell22 {w : World} {sa : Option Addr} {l : List Sn} {c : Nat} {a : Addr} {u : Value} (h : Sn_.Sl w sa l c) (hf : ∀ bb off, sa = some ⟨bb, off, none⟩ → bb ≠ a.block) : Sn_.Sl (w.setCell a u) sa l c :=
  ⟨h.lies.block (by simp [World.setCell]) (fun bb off e => Below.heap_setCell _ _ _ _ (hf bb off e)), h.le, h.nil⟩
theorem is_cell22 {w : World} {sa : Option Addr} {l : List Int} {c : Nat} {a : Addr} {u : Value} (h : Is_.Sl w sa l c) (hf : ∀ bb off, sa = some ⟨bb, off, none⟩ → bb ≠ a.block) : Is_.Sl (w.setCell a u) sa l c :=
  ⟨h.lies.block (by simp [World.setCell]) (fun bb off e => Below.heap_setCell _ _ _ _ (hf bb off e)), h.le, h.nil⟩
theorem lies_cell22 {w : World} {x : Wn} {s : St} {a : Addr} {u : Value} (h : Lies w x s) (hf : ∀ bb off, x.sa = some ⟨bb, off, none⟩ → bb ≠ a.block) : Lies (w.setCell a u) x s :=
  ⟨h.nx, h.sz, h.rq, h.n, sl_cell22 h.sl hf⟩
theorem lies_row22 {w : World} {x : Wn} {s : St} {r : Nat} {c : Array Value} (h : Lies w x s) (hf : 0 < s.l.length → ∀ bb off, x.sa = some ⟨bb, off, none⟩ → bb ≠ r) : Lies (w.setRow r c) x s := by
  refine ⟨h.nx, h.sz, h.rq, h.n, ?_⟩
  rcases Nat.eq_zero_or_pos s.l.length with h0 | h0
  · have hl := List.length_eq_zero_iff.1 h0
    exact ⟨by rw [hl]; exact Sn_.At.nil _ _, h.sl.le, h.sl.nil⟩
  · exact ⟨h.sl.lies.block (by simp [World.setRow]) (fun bb off e => Ww_.setRow_other (hf h0 bb off e) _), h.sl.le, h.sl.nil⟩
theorem is_rowne22 {w : World} {sa : Option Addr} {l : List Int} {c0 r : Nat} {c : Array Value} (h : Is_.Sl w sa l c0) (hf : 0 < l.length → ∀ bb off, sa = some ⟨bb, off, none⟩ → bb ≠ r) : Is_.Sl (w.setRow r c) sa l c0 := by
  rcases Nat.eq_zero_or_pos l.length with h0 | h0
  · have hl := List.length_eq_zero_iff.1 h0
    exact ⟨by rw [hl]; exact Is_.At.nil _ _, h.le, h.nil⟩
  · exact ⟨h.lies.block (by simp [World.setRow]) (fun bb off e => Ww_.setRow_other (hf h0 bb off e) _), h.le, h.nil⟩
def setF (f : Int → Bool) (k : Nat) (v : Bool) (j : Int) : Bool := if j = (k : Int) then v else f j
theorem nt_mark {w : World} {g : Nat} {f : Int → Bool} (h : ∀ j : Nat, j < 41 → w.cell? ⟨g, j, none⟩ = some (.bool (f j)) ∧ w.frozen? ⟨g, j, none⟩ = false) (k : Nat) (v : Bool) : ∀ j : Nat, j < 41 → (w.setCell ⟨g, k, none⟩ (.bool v)).cell? ⟨g, j, none⟩ = some (.bool (setF f k v j)) ∧ (w.setCell ⟨g, k, none⟩ (.bool v)).frozen? ⟨g, j, none⟩ = false := fun j hj => by
  refine ⟨?_, (World.frozen?_setCell _ _ _ _).trans (h j hj).2⟩
  by_cases e : j = k
  · subst e
    rw [World.cell?_setCell_same _ _ _ (h j hj).1]; simp [setF]
  · rw [World.cell?_setCell_other _ _ _ _ (fun hh => e (congrArg Addr.off hh).symm), (h j hj).1]
    have : ¬ (j : Int) = (k : Int) := by omega
    simp [this, setF]
theorem Bd.mark {W w : World} {B g : Nat} {x : Wn} {s : St} {f : Int → Bool} (h : Bd W B g x s f w) (k : Nat) (v : Bool) : Bd W B g x s (setF f k v) (w.setCell ⟨g, k, none⟩ (.bool v)) :=
  ⟨h.bx.other h.ne _, lies_cell22 h.lies (fun bb off e => (h.nb bb off e).2), nt_mark h.nt k v, h.bel.setCell h.hg _, h.hB, h.hg, by have := h.lt; simpa [World.setCell] using this, h.ne, h.nb⟩

/-- And the next state in a cell of its own, the identifiers that are gone. -/
structure Iw (W : World) (B g : Nat) (x : Wn) (s : St) (f : Int → Bool) (gt : Nat) (y : Wn) (t : St) (sa : Option Addr) (G : List Int) (c : Nat) (w : World) : Prop where
  b : Bd W B g x s f w
  bt : Ww_.Box w gt y
  lt : Lies w y t
  il : Is_.Sl w sa G c
  ngt : gt ≠ B ∧ gt ≠ g
  ny : ∀ bb off, y.sa = some ⟨bb, off, none⟩ → bb ≠ B ∧ bb ≠ g
  ni : ∀ bb off, sa = some ⟨bb, off, none⟩ → bb ≠ g
theorem Iw.keep {W w w' : World} {B g gt : Nat} {x y : Wn} {s t : St} {f : Int → Bool} {sa : Option Addr} {G : List Int} {c : Nat} (h : Iw W B g x s f gt y t sa G c w) (hb : Below w.heap.size w w') : Iw W B g x s f gt y t sa G c w' :=
  ⟨h.b.keep hb, h.bt.below hb h.bt.lt, h.lt.below hb, h.il.below hb, h.ngt, h.ny, h.ni⟩
theorem Iw.kp {W : World} {B g gt : Nat} {x y : Wn} {s t : St} {f : Int → Bool} {sa : Option Addr} {G : List Int} {c : Nat} (w w' : World) (h : Iw W B g x s f gt y t sa G c w) (hb : Below w.heap.size w w') : Iw W B g x s f gt y t sa G c w' := h.keep hb
theorem Iw.congr {W w : World} {B g gt : Nat} {x y : Wn} {s t : St} {f f' : Int → Bool} {sa : Option Addr} {G : List Int} {c : Nat} (h : Iw W B g x s f gt y t sa G c w) (e : ∀ j : Nat, j < 41 → f' j = f j) : Iw W B g x s f' gt y t sa G c w := { h with b := h.b.congr e }
theorem Iw.mark {W w : World} {B g gt : Nat} {x y : Wn} {s t : St} {f : Int → Bool} {sa : Option Addr} {G : List Int} {c : Nat} (h : Iw W B g x s f gt y t sa G c w) (k : Nat) (v : Bool) : Iw W B g x s (setF f k v) gt y t sa G c (w.setCell ⟨g, k, none⟩ (.bool v)) :=
  ⟨h.b.mark k v, h.bt.other h.ngt.2 _, lies_cell22 h.lt (fun bb off e => (h.ny bb off e).2), is_cell22 h.il (fun bb off e => h.ni bb off e), h.ngt, h.ny, h.ni⟩
/-- The next state is laid into the state's cell. -/
theorem Iw.fin {W w : World} {B g gt : Nat} {x y : Wn} {s t : St} {f : Int → Bool} {sa : Option Addr} {G : List Int} {c : Nat} (h : Iw W B g x s f gt y t sa G c w) : (Ww_.StoreF ⟨B, 0, none⟩ (Ww_.v y)).run Try.prog w = .ok () (w.setRow B (Ww_.C y)) ∧ Bd W B g y t f (w.setRow B (Ww_.C y)) :=
  ⟨h.b.bx.storeF y, h.b.bx.setRow y, lies_row22 h.lt (fun _ bb off e => (h.ny bb off e).1), fun j hj => ⟨(World.cell?_of_block (w := w) (Ww_.setRow_other (Ne.symm h.b.ne) _)).trans (h.b.nt j hj).1, by
      have e : (w.setRow B (Ww_.C y)).heap[g]? = w.heap[g]? := Ww_.setRow_other (Ne.symm h.b.ne) _
      have := (h.b.nt j hj).2
      unfold World.frozen? at this ⊢
      rw [e]; exact this⟩, below_row22 h.b.bel h.b.hB _, h.b.hB, h.b.hg, by have := h.b.lt; simpa [World.setRow] using this, h.b.ne, h.ny⟩

/-- The cell for the next state is made; what lay before is kept. -/
structure Am (W : World) (B g : Nat) (x : Wn) (s : St) (f : Int → Bool) (gt : Nat) (w : World) : Prop where
  fm : ∃ wb, Bd W B g x s f wb ∧ wb.heap.size ≤ gt ∧ Below wb.heap.size wb w
  bx : Ww_.Box w gt zw
theorem Am.keep {W : World} {B g : Nat} {x : Wn} {s : St} {f : Int → Bool} {gt : Nat} {wi wj : World} (h : Am W B g x s f gt wi) (hb : Below wi.heap.size wi wj) : Am W B g x s f gt wj := by
  obtain ⟨wb, h1, h2, h3⟩ := h.fm
  exact ⟨⟨wb, h1, h2, h3.trans (hb.mono h3.size)⟩, h.bx.below hb h.bx.lt⟩
theorem Am.b {W : World} {B g : Nat} {x : Wn} {s : St} {f : Int → Bool} {gt : Nat} {w : World} (h : Am W B g x s f gt w) : Bd W B g x s f w := by
  obtain ⟨wb, h1, h2, h3⟩ := h.fm
  exact h1.keep h3
theorem Bd.new {W : World} {B g : Nat} {x : Wn} {s : St} {f : Int → Bool} {w : World} (h : Bd W B g x s f w) : ∃ gt w', w.heap.size = gt ∧ w.alloc (.cells #[.int .i64 0, .int .i64 0, .slice none 0 0, .bool false] 29) = w' ∧ Am W B g x s f gt w' :=
  ⟨_, _, rfl, rfl, ⟨w, h, Nat.le_refl _, (Below.refl _ _).alloc (Nat.le_refl _) _⟩, Ww_.Box.new w zw⟩
/-- What step gave lies there. -/
structure Ay (W : World) (B g : Nat) (x : Wn) (s : St) (f : Int → Bool) (y : Wn) (t : St) (sa : Option Addr) (G : List Int) (c : Nat) (w : World) : Prop where
  b : Bd W B g x s f w
  lt : Lies w y t
  il : Is_.Sl w sa G c
  ny : ∀ bb off, y.sa = some ⟨bb, off, none⟩ → bb ≠ B ∧ bb ≠ g
  ni : ∀ bb off, sa = some ⟨bb, off, none⟩ → bb ≠ g
structure Ax (W : World) (B g : Nat) (x : Wn) (s : St) (f : Int → Bool) (gt : Nat) (y : Wn) (t : St) (sa : Option Addr) (G : List Int) (c : Nat) (w : World) : Prop where
  am : Am W B g x s f gt w
  ay : Ay W B g x s f y t sa G c w
  n1 : 0 < t.l.length → ∀ bb off, y.sa = some ⟨bb, off, none⟩ → bb ≠ gt
  n2 : 0 < G.length → ∀ bb off, sa = some ⟨bb, off, none⟩ → bb ≠ gt
theorem Bd.call {W : World} {B g : Nat} {x : Wn} {s : St} {f : Int → Bool} {wi wj : World} {n : Nat} {y : Wn} {sa : Option Addr} {G : List Int} {c : Nat} {put : Bool} {t : St} (h : Bd W B g x s f wi) (p : StepPost s n x wi y sa G c put t wj) : Ay W B g x s f y t sa G c wj := by
  have h1 := h.bx.lt
  have h2 := h.lt
  refine ⟨h.keep p.bel, p.lies, p.ids, fun bb off e => ?_, fun bb off e => by have := p.fg bb off e; omega⟩
  rcases p.fx with ⟨rfl, -⟩ | hf
  · exact h.nb bb off e
  · have := hf bb off e
    exact ⟨by omega, by omega⟩
theorem Am.call {W : World} {B g : Nat} {x : Wn} {s : St} {f : Int → Bool} {gt : Nat} {wi wj : World} {n : Nat} {y : Wn} {sa : Option Addr} {G : List Int} {c : Nat} {put : Bool} {t : St} (h : Am W B g x s f gt wi) (p : StepPost s n x wi y sa G c put t wj) : Ax W B g x s f gt y t sa G c wj := by
  have hlt := h.bx.lt
  refine ⟨h.keep p.bel, h.b.call p, fun h0 bb off e => ?_, fun _ bb off e => by have := p.fg bb off e; omega⟩
  rcases p.fx with ⟨rfl, rfl⟩ | hf
  · obtain ⟨wb, h1, h2, h3⟩ := h.fm
    obtain ⟨b', o', e', hl, -⟩ := h1.lies.sl.lies 0 h0
    rw [e] at e'; cases e'; omega
  · have := hf bb off e; omega
theorem Ay.new {W : World} {B g : Nat} {x : Wn} {s : St} {f : Int → Bool} {y : Wn} {t : St} {sa : Option Addr} {G : List Int} {c : Nat} {w : World} (h : Ay W B g x s f y t sa G c w) : ∃ gt w', w.heap.size = gt ∧ w.alloc (.cells #[.int .i64 0, .int .i64 0, .slice none 0 0, .bool false] 29) = w' ∧ Ax W B g x s f gt y t sa G c w' := by
  have hb : Below w.heap.size w (w.alloc (.cells #[.int .i64 0, .int .i64 0, .slice none 0 0, .bool false] 29)) := (Below.refl _ _).alloc (Nat.le_refl _) _
  refine ⟨_, _, rfl, rfl, ⟨⟨w, h.b, Nat.le_refl _, hb⟩, Ww_.Box.new w zw⟩, ⟨h.b.keep hb, h.lt.below hb, h.il.below hb, h.ny, h.ni⟩, fun h0 bb off e => ?_, fun h0 bb off e => ?_⟩
  · obtain ⟨b', o', e', hl, -⟩ := h.lt.sl.lies 0 h0
    rw [e] at e'; cases e'; omega
  · obtain ⟨b', o', e', hl, -⟩ := h.il.lies 0 h0
    rw [e] at e'; cases e'; omega
theorem Ax.store {W : World} {B g : Nat} {x : Wn} {s : St} {f : Int → Bool} {gt : Nat} {y : Wn} {t : St} {sa : Option Addr} {G : List Int} {c : Nat} {w : World} (h : Ax W B g x s f gt y t sa G c w) : ∃ w', (Ww_.StoreF ⟨gt, 0, none⟩ (Ww_.v y)).run Try.prog w = .ok () w' ∧ Iw W B g x s f gt y t sa G c w' := by
  obtain ⟨⟨wb, h1, h2, h3⟩, hbx⟩ := h.am
  have k1 := h1.bx.lt
  have k2 := h1.lt
  exact ⟨_, hbx.storeF y, h1.keep (below_row22 h3 h2 _), hbx.setRow y, lies_row22 h.ay.lt h.n1, is_rowne22 h.ay.il h.n2, ⟨by omega, by omega⟩, h.ay.ny, h.ay.ni⟩
end Go.Proofs.Ytldeflpaghbmmaa
