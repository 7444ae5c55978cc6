/-
  A flat struct, api.Item: its value; a slice of such; what is owned; how arguments are opened (written by gen_struct.py).
-/
import Derived.Test.YtaljdjabppiglaaRows
import Derived.Test.YtaljdjabppiglaaQuMath
import Derived.OpenShut
import Derived.ProofKit
import Derived.Deep.Slices
import Derived.Deep.OwnRows
import Derived.Below
import Derived.WalkKit
namespace Go.Proofs.Ytaljdjabppiglaa.It_
open Go.ChangeShapes Go.WideShapes Go.RowKit Go.Deep Go.Qu

instance : Inhabited It := ⟨⟨0, 0, 0, 0, ⟨#[]⟩, 0, 0⟩⟩
/-- The cells of one. -/
def cs (x : It) : List Value := [.int .i64 x.id, .int .i64 x.cat, .int .u64 x.to, .int .u64 x.fr, .string x.da, .int .i64 x.bo, .int .i64 x.li]
/-- One as a value. -/
def v (x : It) : Value := .agg #[.int .i64 x.id, .int .i64 x.cat, .int .u64 x.to, .int .u64 x.fr, .string x.da, .int .i64 x.bo, .int .i64 x.li]
/-- They lie behind the address. -/
def At (W : World) (sa : Option Addr) (l : List It) : Prop :=
  ∀ i (h : i < l.length), ∃ b off, sa = some ⟨b, off, none⟩ ∧ b < W.heap.size ∧ W.cell? ⟨b, off + i * 7, none⟩ = some (.int .i64 l[i].id) ∧ W.cell? ⟨b, off + i * 7 + 1, none⟩ = some (.int .i64 l[i].cat) ∧ W.cell? ⟨b, off + i * 7 + 2, none⟩ = some (.int .u64 l[i].to) ∧ W.cell? ⟨b, off + i * 7 + 3, none⟩ = some (.int .u64 l[i].fr) ∧ W.cell? ⟨b, off + i * 7 + 4, none⟩ = some (.string l[i].da) ∧ W.cell? ⟨b, off + i * 7 + 5, none⟩ = some (.int .i64 l[i].bo) ∧ W.cell? ⟨b, off + i * 7 + 6, none⟩ = some (.int .i64 l[i].li)
theorem At.below {W W' : World} {sa : Option Addr} {l : List It} (h : At W sa l) (hb : Below W.heap.size W W') : At W' sa l := by
  intro i hi
  obtain ⟨b, off, e, hl, h0, h1, h2, h3, h4, h5, h6⟩ := h i hi
  exact ⟨b, off, e, Nat.lt_of_lt_of_le hl hb.size, (hb.cell hl).trans h0, (hb.cell hl).trans h1, (hb.cell hl).trans h2, (hb.cell hl).trans h3, (hb.cell hl).trans h4, (hb.cell hl).trans h5, (hb.cell hl).trans h6⟩
/-- Behind whatever leaves the block of the slice as it was. -/
theorem At.block {W W' : World} {sa : Option Addr} {l : List It} (h : At W sa l) (hs : W.heap.size ≤ W'.heap.size) (hb : ∀ b off, sa = some ⟨b, off, none⟩ → W'.heap[b]? = W.heap[b]?) : At W' sa l := by
  intro i hi
  obtain ⟨b, off, e, hl, h0, h1, h2, h3, h4, h5, h6⟩ := h i hi
  exact ⟨b, off, e, Nat.lt_of_lt_of_le hl hs, (World.cell?_of_block (w := W) (hb b off e)).trans h0, (World.cell?_of_block (w := W) (hb b off e)).trans h1, (World.cell?_of_block (w := W) (hb b off e)).trans h2, (World.cell?_of_block (w := W) (hb b off e)).trans h3, (World.cell?_of_block (w := W) (hb b off e)).trans h4, (World.cell?_of_block (w := W) (hb b off e)).trans h5, (World.cell?_of_block (w := W) (hb b off e)).trans h6⟩
theorem At.drew {W : World} {sa : Option Addr} {l : List It} (h : At W sa l) : At W.drew sa l := h
theorem At.nil (W : World) (sa : Option Addr) : At W sa [] := fun i hi => absurd hi (Nat.not_lt_zero i)
/-- A slice of them: it lies there, its capacity holds it, and a nil one has none. -/
structure Sl (W : World) (sa : Option Addr) (l : List It) (c : Nat) : Prop where
  lies : At W sa l
  le : l.length ≤ c
  nil : sa = none → c = 0
theorem Sl.below {W W' : World} {sa : Option Addr} {l : List It} {c : Nat} (h : Sl W sa l c) (hb : Below W.heap.size W W') : Sl W' sa l c := ⟨h.lies.below hb, h.le, h.nil⟩
theorem Sl.drew {W : World} {sa : Option Addr} {l : List It} {c : Nat} (h : Sl W sa l c) : Sl W.drew sa l c := ⟨h.lies.drew, h.le, h.nil⟩
theorem Sl.none (W : World) : Sl W Option.none ([] : List It) 0 := ⟨At.nil _ _, Nat.le_refl _, fun _ => rfl⟩

def flat (l : List It) : List Value := l.flatMap cs
theorem flat_len (l : List It) : (flat l).length = l.length * 7 := by
  unfold flat
  induction l with
  | nil => rfl
  | cons s l ih => rw [List.flatMap_cons, List.length_append, ih]; simp [cs]; omega
theorem flat_cell (l : List It) : ∀ (i : Nat) (h : i < l.length) (j : Nat), j < 7 → (flat l)[i * 7 + j]? = (cs l[i])[j]? := by
  induction l with
  | nil => intro i h; cases h
  | cons s l ih =>
    intro i h j hj
    have e : flat (s :: l) = cs s ++ flat l := List.flatMap_cons ..
    rw [e]
    cases i with
    | zero => rw [Nat.zero_mul, Nat.zero_add, List.getElem?_append_left (by simpa [cs] using hj)]; rfl
    | succ i =>
      rw [List.getElem?_append_right (by simp [cs]; omega), show (i + 1) * 7 + j - (cs s).length = i * 7 + j by simp [cs]; omega]
      exact ih i (by simpa using h) j hj
theorem flat_append (l m : List It) : flat (l ++ m) = flat l ++ flat m := List.flatMap_append
theorem flat_snoc (l : List It) (x : It) : flat (l ++ [x]) = flat l ++ cs x := by rw [flat_append]; unfold flat; rw [List.flatMap_cons, List.flatMap_nil, List.append_nil]
theorem flat_set (l : List It) (x : It) : ∀ i, i < l.length → flat (l.set i x) = ((((((((flat l).set (i * 7) (.int .i64 x.id)).set (i * 7 + 1) (.int .i64 x.cat)).set (i * 7 + 2) (.int .u64 x.to)).set (i * 7 + 3) (.int .u64 x.fr)).set (i * 7 + 4) (.string x.da)).set (i * 7 + 5) (.int .i64 x.bo)).set (i * 7 + 6) (.int .i64 x.li)) := by
  induction l with
  | nil => intro i h; cases h
  | cons s l ih =>
    intro i h
    cases i with
    | zero => rfl
    | succ i =>
      have e : flat ((s :: l).set (i + 1) x) = cs s ++ flat (l.set i x) := List.flatMap_cons ..
      have e' : flat (s :: l) = cs s ++ flat l := List.flatMap_cons ..
      have hl : (cs s).length = 7 := rfl
      rw [e, e', ih i (by simpa using h)]
      rw [List.set_append_right _ _ (by omega), hl, show (i + 1) * 7 - 7 = i * 7 by omega]
      rw [List.set_append_right _ _ (by omega), hl, show (i + 1) * 7 + 1 - 7 = i * 7 + 1 by omega]
      rw [List.set_append_right _ _ (by omega), hl, show (i + 1) * 7 + 2 - 7 = i * 7 + 2 by omega]
      rw [List.set_append_right _ _ (by omega), hl, show (i + 1) * 7 + 3 - 7 = i * 7 + 3 by omega]
      rw [List.set_append_right _ _ (by omega), hl, show (i + 1) * 7 + 4 - 7 = i * 7 + 4 by omega]
      rw [List.set_append_right _ _ (by omega), hl, show (i + 1) * 7 + 5 - 7 = i * 7 + 5 by omega]
      rw [List.set_append_right _ _ (by omega), hl, show (i + 1) * 7 + 6 - 7 = i * 7 + 6 by omega]
theorem flat_one (x : It) : ∀ u ∈ cs x, u.oneCell' = true := by intro u hu; simp [cs] at hu; rcases hu with rfl | rfl | rfl | rfl | rfl | rfl | rfl <;> rfl
theorem flat_ones (l : List It) : ∀ u ∈ flat l, u.oneCell' = true := by
  intro u hu
  obtain ⟨x, -, hx⟩ := List.mem_flatMap.1 hu
  exact flat_one x u hx

theorem info : (Try.prog.info? 28).map (fun i => (i.zero, i.size, i.bytes)) = some (some (.agg #[.int .i64 0, .int .i64 0, .int .u64 0, .int .u64 0, .string ⟨#[]⟩, .int .i64 0, .int .i64 0]), 7, 64) := by kernel_rfl
/-- What is owned lies behind its address. -/
theorem at_owns {l : List It} {base cap : Nat} {v0 : Option Addr} {wr : World} (h : wr.ownsRow base 28 7 (.slice v0 l.length cap) l.length (flat l)) : At wr v0 l := by
  intro i hi
  have h0 := h
  obtain ⟨_, ⟨h1, h2⟩ | ⟨g, cap', cur, h1, hb, hh, hn, hc, hs, ht⟩⟩ := h
  · omega
  · injection h1 with e1 e2 e3
    subst e1
    have e : ∀ j : Nat, (⟨g, 0, none⟩ : Addr).add j = ⟨g, j, none⟩ := fun j => by unfold Addr.add; split <;> simp_all
    have c0 := h0.cells (g := g) rfl (i * 7 + 0) _ (flat_cell l i hi 0 (by decide))
    have c1 := h0.cells (g := g) rfl (i * 7 + 1) _ (flat_cell l i hi 1 (by decide))
    have c2 := h0.cells (g := g) rfl (i * 7 + 2) _ (flat_cell l i hi 2 (by decide))
    have c3 := h0.cells (g := g) rfl (i * 7 + 3) _ (flat_cell l i hi 3 (by decide))
    have c4 := h0.cells (g := g) rfl (i * 7 + 4) _ (flat_cell l i hi 4 (by decide))
    have c5 := h0.cells (g := g) rfl (i * 7 + 5) _ (flat_cell l i hi 5 (by decide))
    have c6 := h0.cells (g := g) rfl (i * 7 + 6) _ (flat_cell l i hi 6 (by decide))
    rw [e] at c0 c1 c2 c3 c4 c5 c6
    refine ⟨g, 0, rfl, (Array.getElem?_eq_some_iff.1 hh).1, ?_, ?_, ?_, ?_, ?_, ?_, ?_⟩
    · rw [Nat.zero_add]; exact c0
    · rw [Nat.zero_add]; exact c1
    · rw [Nat.zero_add]; exact c2
    · rw [Nat.zero_add]; exact c3
    · rw [Nat.zero_add]; exact c4
    · rw [Nat.zero_add]; exact c5
    · rw [Nat.zero_add]; exact c6
theorem sl_owns {l : List It} {base cap : Nat} {v0 : Option Addr} {wr : World} (h : wr.ownsRow base 28 7 (.slice v0 l.length cap) l.length (flat l)) : Sl wr v0 l cap := by
  refine ⟨at_owns h, ?_, ?_⟩
  · obtain ⟨_, ⟨h1, h2⟩ | ⟨g, cap', cur, h1, hb, hh, hn, -⟩⟩ := h
    · omega
    · injection h1 with e1 e2 e3; omega
  · rintro rfl
    obtain ⟨_, ⟨h1, h2⟩ | ⟨g, cap', cur, h1, -⟩⟩ := h
    · injection h1 with e1 e2 e3
    · injection h1 with e1 e2 e3; exact absurd e1 (by simp)
theorem slice_form {base n size : Nat} {e : TypeId} {u : Value} {wr : World} {xs : List Value} (h : wr.ownsRow base e size u n xs) : ∃ v0 cap, u = .slice v0 n cap := by
  obtain ⟨_, ⟨h1, h2⟩ | ⟨g, cap, cur, h1, _⟩⟩ := h
  · exact ⟨none, 0, by rw [h1, h2]⟩
  · exact ⟨_, _, h1⟩
theorem owns_lit (w : World) (l : List It) {base : Nat} (hb : base ≤ w.heap.size) (hl : l.length ≤ maxLen) : (w.alloc (.cells (flat l).toArray 28)).ownsRow base 28 7 (.slice (some ⟨w.heap.size, 0, none⟩) l.length l.length) l.length (flat l) := by
  have := World.ownsRow_lit (e := 28) (size := 7) w (flat l).toArray l.length hb hl (by rw [List.size_toArray, flat_len])
  exact this
theorem sl_lit (w : World) (l : List It) (hl : l.length ≤ maxLen) : Sl (w.alloc (.cells (flat l).toArray 28)) (some ⟨w.heap.size, 0, none⟩) l l.length := sl_owns (owns_lit w l (base := 0) (Nat.zero_le _) hl)
theorem at_lit (w : World) (l : List It) (hl : l.length ≤ maxLen) : At (w.alloc (.cells (flat l).toArray 28)) (some ⟨w.heap.size, 0, none⟩) l := at_owns (owns_lit w l (base := 0) (Nat.zero_le _) hl)
/-- The cells in order, behind an address. -/
theorem At.cells {W : World} {b off : Nat} {l : List It} (h : At W (some ⟨b, off, none⟩) l) : ∀ j u, (flat l)[j]? = some u → W.cell? ((⟨b, off, none⟩ : Addr).add j) = some u := by
  intro j u hu
  have hj : j < l.length * 7 := by have := (List.getElem?_eq_some_iff.1 hu).1; rwa [flat_len] at this
  have hi : j / 7 < l.length := by omega
  obtain ⟨b', off', e, -, h0, h1, h2, h3, h4, h5, h6⟩ := h (j / 7) hi
  cases e
  have hm : j % 7 < 7 := Nat.mod_lt _ (by decide)
  have hje : j = j / 7 * 7 + j % 7 := by omega
  have hc := flat_cell l (j / 7) hi (j % 7) hm
  rw [← hje, hu] at hc
  rw [Addr.add_lit]
  generalize hq : j / 7 = q at *
  generalize hr : j % 7 = r at *
  subst hje
  match r, hm with
  | 0, _ => rw [show off + (q * 7 + 0) = off + q * 7 by omega, h0, hc]; rfl
  | 1, _ => rw [show off + (q * 7 + 1) = off + q * 7 + 1 by omega, h1, hc]; rfl
  | 2, _ => rw [show off + (q * 7 + 2) = off + q * 7 + 2 by omega, h2, hc]; rfl
  | 3, _ => rw [show off + (q * 7 + 3) = off + q * 7 + 3 by omega, h3, hc]; rfl
  | 4, _ => rw [show off + (q * 7 + 4) = off + q * 7 + 4 by omega, h4, hc]; rfl
  | 5, _ => rw [show off + (q * 7 + 5) = off + q * 7 + 5 by omega, h5, hc]; rfl
  | 6, _ => rw [show off + (q * 7 + 6) = off + q * 7 + 6 by omega, h6, hc]; rfl

/-- What is appended out of a slice of them. -/
theorem Sl.news {W : World} {sa : Option Addr} {l : List It} {c : Nat} (h : Sl W sa l c) : ∀ ad, sa = some ad → ∀ j u, (flat l)[j]? = some u → W.cell? (ad.add j) = some u := by
  intro ad had j u hu
  have hj : 0 < l.length := by have := (List.getElem?_eq_some_iff.1 hu).1; rw [flat_len] at this; omega
  obtain ⟨b, off, e, -⟩ := h.lies 0 hj
  have e2 : ad = ⟨b, off, Option.none⟩ := Option.some.inj (had.symm.trans e)
  subst e2
  subst had
  exact h.lies.cells j u hu
/-- A block of its own holds one. -/
def Box (W : World) (b : Nat) (x : It) : Prop := W.heap[b]? = some (.cells #[.int .i64 x.id, .int .i64 x.cat, .int .u64 x.to, .int .u64 x.fr, .string x.da, .int .i64 x.bo, .int .i64 x.li] 28 (0, 0))
theorem Box.lt {W : World} {b : Nat} {x : It} (h : Box W b x) : b < W.heap.size := (Array.getElem?_eq_some_iff.1 h).1
theorem Box.below {W W' : World} {b B : Nat} {x : It} (h : Box W b x) (hb : Below B W W') (hlt : b < B) : Box W' b x := (hb.block b hlt).trans h
theorem Box.drew {W : World} {b : Nat} {x : It} (h : Box W b x) : Box W.drew b x := h
theorem Box.new (W : World) (x : It) {b : Nat} (hb : b = W.heap.size) : Box (W.alloc (.cells #[.int .i64 x.id, .int .i64 x.cat, .int .u64 x.to, .int .u64 x.fr, .string x.da, .int .i64 x.bo, .int .i64 x.li] 28)) b x := by
  subst hb
  show (W.heap.push _)[W.heap.size]? = _
  rw [Array.getElem?_push, if_pos rfl]
theorem Box.cell {W : World} {b : Nat} {x : It} (h : Box W b x) (j : Nat) : W.cell? ⟨b, j, none⟩ = (cs x)[j]? := by
  unfold Box at h
  simp [World.cell?, h, cs]
theorem Box.cells {W : World} {b : Nat} {x : It} (h : Box W b x) : W.cell? ⟨b, 0, none⟩ = some (.int .i64 x.id) ∧ W.cell? ⟨b, 1, none⟩ = some (.int .i64 x.cat) ∧ W.cell? ⟨b, 2, none⟩ = some (.int .u64 x.to) ∧ W.cell? ⟨b, 3, none⟩ = some (.int .u64 x.fr) ∧ W.cell? ⟨b, 4, none⟩ = some (.string x.da) ∧ W.cell? ⟨b, 5, none⟩ = some (.int .i64 x.bo) ∧ W.cell? ⟨b, 6, none⟩ = some (.int .i64 x.li) :=
  ⟨h.cell 0, h.cell 1, h.cell 2, h.cell 3, h.cell 4, h.cell 5, h.cell 6⟩
theorem Box.frozen {W : World} {b : Nat} {x : It} (h : Box W b x) (j : Nat) : W.frozen? ⟨b, j, none⟩ = false := by
  unfold Box at h
  simp [World.frozen?, h]
/-- The load of the whole, as the walk meets it. -/
theorem Box.load {W : World} {b : Nat} {x : It} (h : Box W b x) : (loadCellsFrom ⟨b, 0, none⟩ 0 7 #[]).run Try.prog W = .ok #[.int .i64 x.id, .int .i64 x.cat, .int .u64 x.to, .int .u64 x.fr, .string x.da, .int .i64 x.bo, .int .i64 x.li] W :=
  run_loadCells_list (P := Try.prog) W ⟨b, 0, none⟩ (cs x) (fun j v hj => by rw [Addr.add_lit, Nat.zero_add, h.cell j]; exact hj)
theorem fields : ∃ f0 f1 f2 f3 f4 f5 f6 : Field, Try.prog.underlying 28 = some (.struct #[f0, f1, f2, f3, f4, f5, f6]) ∧ f0.type = 3 ∧ f1.type = 3 ∧ f2.type = 26 ∧ f3.type = 26 ∧ f4.type = 9 ∧ f5.type = 3 ∧ f6.type = 3 ∧
    f0.offset = 0 ∧ f1.offset = 1 ∧ f2.offset = 2 ∧ f3.offset = 3 ∧ f4.offset = 4 ∧ f5.offset = 5 ∧ f6.offset = 6 := ⟨_, _, _, _, _, _, _, Try.underlying28, rfl, rfl, rfl, rfl, rfl, rfl, rfl, rfl, rfl, rfl, rfl, rfl, rfl, rfl⟩
theorem cellsAll : Try.prog.cellsOf 28 = 7 := by kernel_rfl
theorem cellsOf0 : Try.prog.cellsOf 3 = 1 := by kernel_rfl
theorem cellsOf1 : Try.prog.cellsOf 26 = 1 := by kernel_rfl
theorem cellsOf2 : Try.prog.cellsOf 9 = 1 := by kernel_rfl

section opening
variable {H : Type} {enc : TypeId × Value → H} {W : World} {base b0 : Nat} {sp : Nat → Bool} {held : Bool}

/-- The cells of one that came in. -/
theorem cells {fuel : Nat} {cl : List Value} {x : DataW H × List MemPlace} (h : DataW.trod enc Try.prog W base sp held fuel 28 cl = some x) :
    ∃ x : It, cl = cs x ∧ (Lit.int .i64 x.id).wf = true ∧ (Lit.int .i64 x.cat).wf = true ∧ (Lit.int .u64 x.to).wf = true ∧ (Lit.int .u64 x.fr).wf = true ∧ (Lit.int .i64 x.bo).wf = true ∧ (Lit.int .i64 x.li).wf = true := by
  obtain ⟨f0, f1, f2, f3, f4, f5, f6, hu, t0, t1, t2, t3, t4, t5, t6, o0, o1, o2, o3, o4, o5, o6⟩ := fields
  obtain ⟨xs, m, _, _, hl, hn, hf⟩ := DataW.trod_struct hu h
  rw [cellsAll] at hl
  have ex : ∀ i, i < 7 → ∃ y, xs[i]? = some y := fun i hi => ⟨_, List.getElem?_eq_getElem (by rw [hn]; exact hi)⟩
  have g0 := hf 0 f0 rfl
  have g1 := hf 1 f1 rfl
  have g2 := hf 2 f2 rfl
  have g3 := hf 3 f3 rfl
  have g4 := hf 4 f4 rfl
  have g5 := hf 5 f5 rfl
  have g6 := hf 6 f6 rfl
  obtain ⟨y0, e0⟩ := ex 0 (by omega)
  obtain ⟨y1, e1⟩ := ex 1 (by omega)
  obtain ⟨y2, e2⟩ := ex 2 (by omega)
  obtain ⟨y3, e3⟩ := ex 3 (by omega)
  obtain ⟨y4, e4⟩ := ex 4 (by omega)
  obtain ⟨y5, e5⟩ := ex 5 (by omega)
  obtain ⟨y6, e6⟩ := ex 6 (by omega)
  rw [e0, t0, o0, cellsOf0] at g0
  rw [e1, t1, o1, cellsOf0] at g1
  rw [e2, t2, o2, cellsOf1] at g2
  rw [e3, t3, o3, cellsOf1] at g3
  rw [e4, t4, o4, cellsOf2] at g4
  rw [e5, t5, o5, cellsOf0] at g5
  rw [e6, t6, o6, cellsOf0] at g6
  obtain ⟨a0, c0, -, w0⟩ := DataW.trod_int Try.underlying3 g0
  obtain ⟨a1, c1, -, w1⟩ := DataW.trod_int Try.underlying3 g1
  obtain ⟨a2, c2, -, w2⟩ := DataW.trod_int Try.underlying26 g2
  obtain ⟨a3, c3, -, w3⟩ := DataW.trod_int Try.underlying26 g3
  obtain ⟨a4, c4, -⟩ := DataW.trod_string Try.underlying9 g4
  obtain ⟨a5, c5, -, w5⟩ := DataW.trod_int Try.underlying3 g5
  obtain ⟨a6, c6, -, w6⟩ := DataW.trod_int Try.underlying3 g6
  match cl, hl with
  | [z0, z1, z2, z3, z4, z5, z6], _ =>
    simp at c0 c1 c2 c3 c4 c5 c6
    exact ⟨⟨a0, a1, a2, a3, a4, a5, a6⟩, by simp [cs, c0, c1, c2, c3, c4, c5, c6], w0, w1, w2, w3, w5, w6⟩

/-- One by value. -/
theorem open_one {u : Value} {d : DataW H} {ps : List MemPlace} (hv : Value.okWide Try.prog W .any b0 28 u) (hd : DataW.Trod enc Try.prog W base sp held 28 u d ps) :
    ∃ x : It, u = v x ∧ (Lit.int .i64 x.id).wf = true ∧ (Lit.int .i64 x.cat).wf = true ∧ (Lit.int .u64 x.to).wf = true ∧ (Lit.int .u64 x.fr).wf = true ∧ (Lit.int .i64 x.bo).wf = true ∧ (Lit.int .i64 x.li).wf = true := by
  obtain ⟨f0, f1, f2, f3, f4, f5, f6, hu, _⟩ := fields
  obtain ⟨cl, rfl, hsz⟩ := okWide_struct hu hv
  obtain ⟨fuel, hf⟩ := hd
  obtain ⟨x, hx, hw⟩ := cells hf
  refine ⟨x, ?_, hw⟩
  simp only [Value.cells, cs] at hx
  unfold v
  congr 1
  rw [← hx]

set_option maxRecDepth 100000 in
/-- A slice of them. -/
theorem open_all {u : Value} {d : DataW H} {ps : List MemPlace} (hv : Value.okWide Try.prog W .any b0 24 u) (hd : DataW.Trod enc Try.prog W 0 sp held 24 u d ps) :
    ∃ (sa : Option Addr) (l : List It) (c : Nat), u = .slice sa l.length c ∧ Sl W sa l c ∧ l.length ≤ maxLen ∧ ∀ x ∈ l, (Lit.int .i64 x.id).wf = true ∧ (Lit.int .i64 x.cat).wf = true ∧ (Lit.int .u64 x.to).wf = true ∧ (Lit.int .u64 x.fr).wf = true ∧ (Lit.int .i64 x.bo).wf = true ∧ (Lit.int .i64 x.li).wf = true := by
  obtain ⟨sa, len, c, rfl⟩ := okWide_slice Try.underlying24 hv
  obtain ⟨fuel, hf⟩ := hd
  rcases open_slice Try.underlying24 hf with ⟨hcs, -⟩ | ⟨a, len', cap, m, n, D, Pl, hcs, -, hl, hml, hm, -, hel⟩
  · simp [Value.cells] at hcs
    obtain ⟨rfl, rfl, rfl⟩ := hcs
    exact ⟨none, [], 0, rfl, Sl.none _, Nat.zero_le _, fun x hx => absurd hx List.not_mem_nil⟩
  · simp [Value.cells] at hcs
    obtain ⟨rfl, rfl, rfl⟩ := hcs
    have hle : len ≤ m := by rw [hm]; split <;> omega
    have key : ∀ i, i < len → ∃ x : It, ∃ b off, a = ⟨b, off, none⟩ ∧ b < W.heap.size ∧ W.cell? ⟨b, off + i * 7, none⟩ = some (.int .i64 x.id) ∧ W.cell? ⟨b, off + i * 7 + 1, none⟩ = some (.int .i64 x.cat) ∧ W.cell? ⟨b, off + i * 7 + 2, none⟩ = some (.int .u64 x.to) ∧ W.cell? ⟨b, off + i * 7 + 3, none⟩ = some (.int .u64 x.fr) ∧ W.cell? ⟨b, off + i * 7 + 4, none⟩ = some (.string x.da) ∧ W.cell? ⟨b, off + i * 7 + 5, none⟩ = some (.int .i64 x.bo) ∧ W.cell? ⟨b, off + i * 7 + 6, none⟩ = some (.int .i64 x.li) ∧ (Lit.int .i64 x.id).wf = true ∧ (Lit.int .i64 x.cat).wf = true ∧ (Lit.int .u64 x.to).wf = true ∧ (Lit.int .u64 x.fr).wf = true ∧ (Lit.int .i64 x.bo).wf = true ∧ (Lit.int .i64 x.li).wf = true := by
      intro i hi
      obtain ⟨cs', h1, h2⟩ := hel i (by omega)
      obtain ⟨cs0, h10, h20⟩ := hel 0 (by omega)
      obtain ⟨x0, rfl, -⟩ := cells h20
      obtain ⟨x, rfl, hw⟩ := cells h2
      obtain ⟨-, -, hc⟩ := World.cells?_some h1
      obtain ⟨-, -, hc0⟩ := World.cells?_some h10
      rw [cellsAll] at hc hc0
      obtain ⟨b, off, spot⟩ := a
      have hspot : spot = none := by
        have := hc0 0 (by omega)
        exact World.cell?_spot (a := ⟨b, off, spot⟩) (v := .int .i64 x0.id) (by simpa [Addr.add, cs] using this)
      subst hspot
      have ad : ∀ j, ((⟨b, off, none⟩ : Addr).add (i * 7)).add j = ⟨b, off + i * 7 + j, none⟩ := fun j => by
        unfold Addr.add; split <;> split <;> simp_all
      have g : ∀ j, j < 7 → W.cell? ⟨b, off + i * 7 + j, none⟩ = (cs x)[j]? := fun j hj => by rw [← ad]; exact hc j hj
      have g0 := g 0 (by omega)
      exact ⟨x, b, off, rfl, World.block_lt_of_cell? _ _ g0, g0, g 1 (by omega), g 2 (by omega), g 3 (by omega), g 4 (by omega), g 5 (by omega), g 6 (by omega), hw⟩
    obtain ⟨O, hO⟩ := choose_lt (α := It) (n := len) (p := fun i x => ∃ b off, a = ⟨b, off, none⟩ ∧ b < W.heap.size ∧ W.cell? ⟨b, off + i * 7, none⟩ = some (.int .i64 x.id) ∧ W.cell? ⟨b, off + i * 7 + 1, none⟩ = some (.int .i64 x.cat) ∧ W.cell? ⟨b, off + i * 7 + 2, none⟩ = some (.int .u64 x.to) ∧ W.cell? ⟨b, off + i * 7 + 3, none⟩ = some (.int .u64 x.fr) ∧ W.cell? ⟨b, off + i * 7 + 4, none⟩ = some (.string x.da) ∧ W.cell? ⟨b, off + i * 7 + 5, none⟩ = some (.int .i64 x.bo) ∧ W.cell? ⟨b, off + i * 7 + 6, none⟩ = some (.int .i64 x.li) ∧ (Lit.int .i64 x.id).wf = true ∧ (Lit.int .i64 x.cat).wf = true ∧ (Lit.int .u64 x.to).wf = true ∧ (Lit.int .u64 x.fr).wf = true ∧ (Lit.int .i64 x.bo).wf = true ∧ (Lit.int .i64 x.li).wf = true) key
    refine ⟨some a, (List.range len).map O, c, by simp, ⟨fun i hi => ?_, by rw [List.length_map, List.length_range]; omega, fun h => absurd h (by simp)⟩, by rw [List.length_map, List.length_range]; omega, fun x hx => ?_⟩
    · have hi' : i < len := by simpa using hi
      obtain ⟨b, off, ha, hlt, q0, q1, q2, q3, q4, q5, q6, -⟩ := hO i hi'
      refine ⟨b, off, by rw [ha], ?_⟩
      simpa using And.intro hlt ⟨q0, q1, q2, q3, q4, q5, q6⟩
    · obtain ⟨i, hi, rfl⟩ := List.mem_map.1 hx
      obtain ⟨b, off, -, -, -, -, -, -, -, -, -, hw⟩ := hO i (List.mem_range.1 hi)
      exact hw
end opening
end Go.Proofs.Ytaljdjabppiglaa.It_
