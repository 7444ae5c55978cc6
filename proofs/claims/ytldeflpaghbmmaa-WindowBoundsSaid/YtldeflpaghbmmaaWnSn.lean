/-
  A flat struct, api.Sent: its value; a slice of such; what is owned; how arguments are opened (written by gen_struct.py).
-/
import Derived.Test.YtldeflpaghbmmaaRows
import Derived.Test.YtldeflpaghbmmaaWnMath
import Derived.OpenShut
import Derived.ProofKit
import Derived.Deep.Slices
import Derived.Deep.OwnRows
import Derived.Below
import Derived.WalkKit
namespace Go.Proofs.Ytldeflpaghbmmaa.Sn_
open Go.ChangeShapes Go.WideShapes Go.RowKit Go.Deep Go.Wn

instance : Inhabited Sn := ⟨⟨0, 0, 0, false, ⟨#[]⟩⟩⟩
/-- The cells of one. -/
def cs (x : Sn) : List Value := [.int .i64 x.id, .int .i64 x.q, .int .i64 x.tr, .bool x.dn, .string x.da]
/-- One as a value. -/
def v (x : Sn) : Value := .agg #[.int .i64 x.id, .int .i64 x.q, .int .i64 x.tr, .bool x.dn, .string x.da]
/-- They lie behind the address. -/
def At (W : World) (sa : Option Addr) (l : List Sn) : Prop :=
  ∀ i (h : i < l.length), ∃ b off, sa = some ⟨b, off, none⟩ ∧ b < W.heap.size ∧ W.cell? ⟨b, off + i * 5, none⟩ = some (.int .i64 l[i].id) ∧ W.cell? ⟨b, off + i * 5 + 1, none⟩ = some (.int .i64 l[i].q) ∧ W.cell? ⟨b, off + i * 5 + 2, none⟩ = some (.int .i64 l[i].tr) ∧ W.cell? ⟨b, off + i * 5 + 3, none⟩ = some (.bool l[i].dn) ∧ W.cell? ⟨b, off + i * 5 + 4, none⟩ = some (.string l[i].da)
theorem At.below {W W' : World} {sa : Option Addr} {l : List Sn} (h : At W sa l) (hb : Below W.heap.size W W') : At W' sa l := by
  intro i hi
  obtain ⟨b, off, e, hl, h0, h1, h2, h3, h4⟩ := h i hi
  exact ⟨b, off, e, Nat.lt_of_lt_of_le hl hb.size, (hb.cell hl).trans h0, (hb.cell hl).trans h1, (hb.cell hl).trans h2, (hb.cell hl).trans h3, (hb.cell hl).trans h4⟩
/-- Behind whatever leaves the block of the slice as it was. -/
theorem At.block {W W' : World} {sa : Option Addr} {l : List Sn} (h : At W sa l) (hs : W.heap.size ≤ W'.heap.size) (hb : ∀ b off, sa = some ⟨b, off, none⟩ → W'.heap[b]? = W.heap[b]?) : At W' sa l := by
  intro i hi
  obtain ⟨b, off, e, hl, h0, h1, h2, h3, h4⟩ := h i hi
  exact ⟨b, off, e, Nat.lt_of_lt_of_le hl hs, (World.cell?_of_block (w := W) (hb b off e)).trans h0, (World.cell?_of_block (w := W) (hb b off e)).trans h1, (World.cell?_of_block (w := W) (hb b off e)).trans h2, (World.cell?_of_block (w := W) (hb b off e)).trans h3, (World.cell?_of_block (w := W) (hb b off e)).trans h4⟩
theorem At.drew {W : World} {sa : Option Addr} {l : List Sn} (h : At W sa l) : At W.drew sa l := h
theorem At.nil (W : World) (sa : Option Addr) : At W sa [] := fun i hi => absurd hi (Nat.not_lt_zero i)
/-- A slice of them: it lies there, its capacity holds it, and a nil one has none. -/
structure Sl (W : World) (sa : Option Addr) (l : List Sn) (c : Nat) : Prop where
  lies : At W sa l
  le : l.length ≤ c
  nil : sa = none → c = 0
theorem Sl.below {W W' : World} {sa : Option Addr} {l : List Sn} {c : Nat} (h : Sl W sa l c) (hb : Below W.heap.size W W') : Sl W' sa l c := ⟨h.lies.below hb, h.le, h.nil⟩
theorem Sl.drew {W : World} {sa : Option Addr} {l : List Sn} {c : Nat} (h : Sl W sa l c) : Sl W.drew sa l c := ⟨h.lies.drew, h.le, h.nil⟩
theorem Sl.none (W : World) : Sl W Option.none ([] : List Sn) 0 := ⟨At.nil _ _, Nat.le_refl _, fun _ => rfl⟩

def flat (l : List Sn) : List Value := l.flatMap cs
theorem flat_len (l : List Sn) : (flat l).length = l.length * 5 := by
  unfold flat
  induction l with
  | nil => rfl
  | cons s l ih => rw [List.flatMap_cons, List.length_append, ih]; simp [cs]; omega
theorem flat_cell (l : List Sn) : ∀ (i : Nat) (h : i < l.length) (j : Nat), j < 5 → (flat l)[i * 5 + j]? = (cs l[i])[j]? := by
  induction l with
  | nil => intro i h; cases h
  | cons s l ih =>
    intro i h j hj
    have e : flat (s :: l) = cs s ++ flat l := List.flatMap_cons ..
    rw [e]
    cases i with
    | zero => rw [Nat.zero_mul, Nat.zero_add, List.getElem?_append_left (by simpa [cs] using hj)]; rfl
    | succ i =>
      rw [List.getElem?_append_right (by simp [cs]; omega), show (i + 1) * 5 + j - (cs s).length = i * 5 + j by simp [cs]; omega]
      exact ih i (by simpa using h) j hj
theorem flat_append (l m : List Sn) : flat (l ++ m) = flat l ++ flat m := List.flatMap_append
theorem flat_snoc (l : List Sn) (x : Sn) : flat (l ++ [x]) = flat l ++ cs x := by rw [flat_append]; unfold flat; rw [List.flatMap_cons, List.flatMap_nil, List.append_nil]
theorem flat_set (l : List Sn) (x : Sn) : ∀ i, i < l.length → flat (l.set i x) = ((((((flat l).set (i * 5) (.int .i64 x.id)).set (i * 5 + 1) (.int .i64 x.q)).set (i * 5 + 2) (.int .i64 x.tr)).set (i * 5 + 3) (.bool x.dn)).set (i * 5 + 4) (.string x.da)) := by
  induction l with
  | nil => intro i h; cases h
  | cons s l ih =>
    intro i h
    cases i with
    | zero => rfl
    | succ i =>
      have e : flat ((s :: l).set (i + 1) x) = cs s ++ flat (l.set i x) := List.flatMap_cons ..
      have e' : flat (s :: l) = cs s ++ flat l := List.flatMap_cons ..
      have hl : (cs s).length = 5 := rfl
      rw [e, e', ih i (by simpa using h)]
      rw [List.set_append_right _ _ (by omega), hl, show (i + 1) * 5 - 5 = i * 5 by omega]
      rw [List.set_append_right _ _ (by omega), hl, show (i + 1) * 5 + 1 - 5 = i * 5 + 1 by omega]
      rw [List.set_append_right _ _ (by omega), hl, show (i + 1) * 5 + 2 - 5 = i * 5 + 2 by omega]
      rw [List.set_append_right _ _ (by omega), hl, show (i + 1) * 5 + 3 - 5 = i * 5 + 3 by omega]
      rw [List.set_append_right _ _ (by omega), hl, show (i + 1) * 5 + 4 - 5 = i * 5 + 4 by omega]
theorem flat_one (x : Sn) : ∀ u ∈ cs x, u.oneCell' = true := by intro u hu; simp [cs] at hu; rcases hu with rfl | rfl | rfl | rfl | rfl <;> rfl
theorem flat_ones (l : List Sn) : ∀ u ∈ flat l, u.oneCell' = true := by
  intro u hu
  obtain ⟨x, -, hx⟩ := List.mem_flatMap.1 hu
  exact flat_one x u hx

theorem info : (Try.prog.info? 76).map (fun i => (i.zero, i.size, i.bytes)) = some (some (.agg #[.int .i64 0, .int .i64 0, .int .i64 0, .bool false, .string ⟨#[]⟩]), 5, 48) := by kernel_rfl
/-- What is owned lies behind its address. -/
theorem at_owns {l : List Sn} {base cap : Nat} {v0 : Option Addr} {wr : World} (h : wr.ownsRow base 76 5 (.slice v0 l.length cap) l.length (flat l)) : At wr v0 l := by
  intro i hi
  have h0 := h
  obtain ⟨_, ⟨h1, h2⟩ | ⟨g, cap', cur, h1, hb, hh, hn, hc, hs, ht⟩⟩ := h
  · omega
  · injection h1 with e1 e2 e3
    subst e1
    have e : ∀ j : Nat, (⟨g, 0, none⟩ : Addr).add j = ⟨g, j, none⟩ := fun j => by unfold Addr.add; split <;> simp_all
    have c0 := h0.cells (g := g) rfl (i * 5 + 0) _ (flat_cell l i hi 0 (by decide))
    have c1 := h0.cells (g := g) rfl (i * 5 + 1) _ (flat_cell l i hi 1 (by decide))
    have c2 := h0.cells (g := g) rfl (i * 5 + 2) _ (flat_cell l i hi 2 (by decide))
    have c3 := h0.cells (g := g) rfl (i * 5 + 3) _ (flat_cell l i hi 3 (by decide))
    have c4 := h0.cells (g := g) rfl (i * 5 + 4) _ (flat_cell l i hi 4 (by decide))
    rw [e] at c0 c1 c2 c3 c4
    refine ⟨g, 0, rfl, (Array.getElem?_eq_some_iff.1 hh).1, ?_, ?_, ?_, ?_, ?_⟩
    · rw [Nat.zero_add]; exact c0
    · rw [Nat.zero_add]; exact c1
    · rw [Nat.zero_add]; exact c2
    · rw [Nat.zero_add]; exact c3
    · rw [Nat.zero_add]; exact c4
theorem sl_owns {l : List Sn} {base cap : Nat} {v0 : Option Addr} {wr : World} (h : wr.ownsRow base 76 5 (.slice v0 l.length cap) l.length (flat l)) : Sl wr v0 l cap := by
  refine ⟨at_owns h, ?_, ?_⟩
  · obtain ⟨_, ⟨h1, h2⟩ | ⟨g, cap', cur, h1, hb, hh, hn, -⟩⟩ := h
    · omega
    · injection h1 with e1 e2 e3; omega
  · rintro rfl
    obtain ⟨_, ⟨h1, h2⟩ | ⟨g, cap', cur, h1, -⟩⟩ := h
    · injection h1 with e1 e2 e3
    · injection h1 with e1 e2 e3; exact absurd e1 (by simp)
theorem slice_form {base n size : Nat} {e : TypeId} {u : Value} {wr : World} {xs : List Value} (h : wr.ownsRow base e size u n xs) : ∃ v0 cap, u = .slice v0 n cap := by
  obtain ⟨_, ⟨h1, h2⟩ | ⟨g, cap, cur, h1, _⟩⟩ := h
  · exact ⟨none, 0, by rw [h1, h2]⟩
  · exact ⟨_, _, h1⟩
theorem owns_lit (w : World) (l : List Sn) {base : Nat} (hb : base ≤ w.heap.size) (hl : l.length ≤ maxLen) : (w.alloc (.cells (flat l).toArray 76)).ownsRow base 76 5 (.slice (some ⟨w.heap.size, 0, none⟩) l.length l.length) l.length (flat l) := by
  have := World.ownsRow_lit (e := 76) (size := 5) w (flat l).toArray l.length hb hl (by rw [List.size_toArray, flat_len])
  exact this
theorem sl_lit (w : World) (l : List Sn) (hl : l.length ≤ maxLen) : Sl (w.alloc (.cells (flat l).toArray 76)) (some ⟨w.heap.size, 0, none⟩) l l.length := sl_owns (owns_lit w l (base := 0) (Nat.zero_le _) hl)
theorem at_lit (w : World) (l : List Sn) (hl : l.length ≤ maxLen) : At (w.alloc (.cells (flat l).toArray 76)) (some ⟨w.heap.size, 0, none⟩) l := at_owns (owns_lit w l (base := 0) (Nat.zero_le _) hl)
/-- The cells in order, behind an address. -/
theorem At.cells {W : World} {b off : Nat} {l : List Sn} (h : At W (some ⟨b, off, none⟩) l) : ∀ j u, (flat l)[j]? = some u → W.cell? ((⟨b, off, none⟩ : Addr).add j) = some u := by
  intro j u hu
  have hj : j < l.length * 5 := by have := (List.getElem?_eq_some_iff.1 hu).1; rwa [flat_len] at this
  have hi : j / 5 < l.length := by omega
  obtain ⟨b', off', e, -, h0, h1, h2, h3, h4⟩ := h (j / 5) hi
  cases e
  have hm : j % 5 < 5 := Nat.mod_lt _ (by decide)
  have hje : j = j / 5 * 5 + j % 5 := by omega
  have hc := flat_cell l (j / 5) hi (j % 5) hm
  rw [← hje, hu] at hc
  rw [Addr.add_lit]
  generalize hq : j / 5 = q at *
  generalize hr : j % 5 = r at *
  subst hje
  match r, hm with
  | 0, _ => rw [show off + (q * 5 + 0) = off + q * 5 by omega, h0, hc]; rfl
  | 1, _ => rw [show off + (q * 5 + 1) = off + q * 5 + 1 by omega, h1, hc]; rfl
  | 2, _ => rw [show off + (q * 5 + 2) = off + q * 5 + 2 by omega, h2, hc]; rfl
  | 3, _ => rw [show off + (q * 5 + 3) = off + q * 5 + 3 by omega, h3, hc]; rfl
  | 4, _ => rw [show off + (q * 5 + 4) = off + q * 5 + 4 by omega, h4, hc]; rfl

/-- What is appended out of a slice of them. -/
theorem Sl.news {W : World} {sa : Option Addr} {l : List Sn} {c : Nat} (h : Sl W sa l c) : ∀ ad, sa = some ad → ∀ j u, (flat l)[j]? = some u → W.cell? (ad.add j) = some u := by
  intro ad had j u hu
  have hj : 0 < l.length := by have := (List.getElem?_eq_some_iff.1 hu).1; rw [flat_len] at this; omega
  obtain ⟨b, off, e, -⟩ := h.lies 0 hj
  have e2 : ad = ⟨b, off, Option.none⟩ := Option.some.inj (had.symm.trans e)
  subst e2
  subst had
  exact h.lies.cells j u hu
/-- A block of its own holds one. -/
def Box (W : World) (b : Nat) (x : Sn) : Prop := W.heap[b]? = some (.cells #[.int .i64 x.id, .int .i64 x.q, .int .i64 x.tr, .bool x.dn, .string x.da] 76 (0, 0))
theorem Box.lt {W : World} {b : Nat} {x : Sn} (h : Box W b x) : b < W.heap.size := (Array.getElem?_eq_some_iff.1 h).1
theorem Box.below {W W' : World} {b B : Nat} {x : Sn} (h : Box W b x) (hb : Below B W W') (hlt : b < B) : Box W' b x := (hb.block b hlt).trans h
theorem Box.drew {W : World} {b : Nat} {x : Sn} (h : Box W b x) : Box W.drew b x := h
theorem Box.new (W : World) (x : Sn) {b : Nat} (hb : b = W.heap.size) : Box (W.alloc (.cells #[.int .i64 x.id, .int .i64 x.q, .int .i64 x.tr, .bool x.dn, .string x.da] 76)) b x := by
  subst hb
  show (W.heap.push _)[W.heap.size]? = _
  rw [Array.getElem?_push, if_pos rfl]
theorem Box.cell {W : World} {b : Nat} {x : Sn} (h : Box W b x) (j : Nat) : W.cell? ⟨b, j, none⟩ = (cs x)[j]? := by
  unfold Box at h
  simp [World.cell?, h, cs]
theorem Box.cells {W : World} {b : Nat} {x : Sn} (h : Box W b x) : W.cell? ⟨b, 0, none⟩ = some (.int .i64 x.id) ∧ W.cell? ⟨b, 1, none⟩ = some (.int .i64 x.q) ∧ W.cell? ⟨b, 2, none⟩ = some (.int .i64 x.tr) ∧ W.cell? ⟨b, 3, none⟩ = some (.bool x.dn) ∧ W.cell? ⟨b, 4, none⟩ = some (.string x.da) :=
  ⟨h.cell 0, h.cell 1, h.cell 2, h.cell 3, h.cell 4⟩
theorem Box.frozen {W : World} {b : Nat} {x : Sn} (h : Box W b x) (j : Nat) : W.frozen? ⟨b, j, none⟩ = false := by
  unfold Box at h
  simp [World.frozen?, h]
/-- The load of the whole, as the walk meets it. -/
theorem Box.load {W : World} {b : Nat} {x : Sn} (h : Box W b x) : (loadCellsFrom ⟨b, 0, none⟩ 0 5 #[]).run Try.prog W = .ok #[.int .i64 x.id, .int .i64 x.q, .int .i64 x.tr, .bool x.dn, .string x.da] W :=
  run_loadCells_list (P := Try.prog) W ⟨b, 0, none⟩ (cs x) (fun j v hj => by rw [Addr.add_lit, Nat.zero_add, h.cell j]; exact hj)
theorem fields : ∃ f0 f1 f2 f3 f4 : Field, Try.prog.underlying 76 = some (.struct #[f0, f1, f2, f3, f4]) ∧ f0.type = 3 ∧ f1.type = 3 ∧ f2.type = 3 ∧ f3.type = 4 ∧ f4.type = 9 ∧
    f0.offset = 0 ∧ f1.offset = 1 ∧ f2.offset = 2 ∧ f3.offset = 3 ∧ f4.offset = 4 := ⟨_, _, _, _, _, Try.underlying76, rfl, rfl, rfl, rfl, rfl, rfl, rfl, rfl, rfl, rfl⟩
theorem cellsAll : Try.prog.cellsOf 76 = 5 := by kernel_rfl
theorem cellsOf0 : Try.prog.cellsOf 3 = 1 := by kernel_rfl
theorem cellsOf1 : Try.prog.cellsOf 4 = 1 := by kernel_rfl
theorem cellsOf2 : Try.prog.cellsOf 9 = 1 := by kernel_rfl

section opening
variable {H : Type} {enc : TypeId × Value → H} {W : World} {base b0 : Nat} {sp : Nat → Bool} {held : Bool}

/-- The cells of one that came in. -/
theorem cells {fuel : Nat} {cl : List Value} {x : DataW H × List MemPlace} (h : DataW.trod enc Try.prog W base sp held fuel 76 cl = some x) :
    ∃ x : Sn, cl = cs x ∧ (Lit.int .i64 x.id).wf = true ∧ (Lit.int .i64 x.q).wf = true ∧ (Lit.int .i64 x.tr).wf = true := by
  obtain ⟨f0, f1, f2, f3, f4, hu, t0, t1, t2, t3, t4, o0, o1, o2, o3, o4⟩ := fields
  obtain ⟨xs, m, _, _, hl, hn, hf⟩ := DataW.trod_struct hu h
  rw [cellsAll] at hl
  have ex : ∀ i, i < 5 → ∃ y, xs[i]? = some y := fun i hi => ⟨_, List.getElem?_eq_getElem (by rw [hn]; exact hi)⟩
  have g0 := hf 0 f0 rfl
  have g1 := hf 1 f1 rfl
  have g2 := hf 2 f2 rfl
  have g3 := hf 3 f3 rfl
  have g4 := hf 4 f4 rfl
  obtain ⟨y0, e0⟩ := ex 0 (by omega)
  obtain ⟨y1, e1⟩ := ex 1 (by omega)
  obtain ⟨y2, e2⟩ := ex 2 (by omega)
  obtain ⟨y3, e3⟩ := ex 3 (by omega)
  obtain ⟨y4, e4⟩ := ex 4 (by omega)
  rw [e0, t0, o0, cellsOf0] at g0
  rw [e1, t1, o1, cellsOf0] at g1
  rw [e2, t2, o2, cellsOf0] at g2
  rw [e3, t3, o3, cellsOf1] at g3
  rw [e4, t4, o4, cellsOf2] at g4
  obtain ⟨a0, c0, -, w0⟩ := DataW.trod_int Try.underlying3 g0
  obtain ⟨a1, c1, -, w1⟩ := DataW.trod_int Try.underlying3 g1
  obtain ⟨a2, c2, -, w2⟩ := DataW.trod_int Try.underlying3 g2
  obtain ⟨a3, c3, -⟩ := DataW.trod_bool Try.underlying4 g3
  obtain ⟨a4, c4, -⟩ := DataW.trod_string Try.underlying9 g4
  match cl, hl with
  | [z0, z1, z2, z3, z4], _ =>
    simp at c0 c1 c2 c3 c4
    exact ⟨⟨a0, a1, a2, a3, a4⟩, by simp [cs, c0, c1, c2, c3, c4], w0, w1, w2⟩

/-- One by value. -/
theorem open_one {u : Value} {d : DataW H} {ps : List MemPlace} (hv : Value.okWide Try.prog W .any b0 76 u) (hd : DataW.Trod enc Try.prog W base sp held 76 u d ps) :
    ∃ x : Sn, u = v x ∧ (Lit.int .i64 x.id).wf = true ∧ (Lit.int .i64 x.q).wf = true ∧ (Lit.int .i64 x.tr).wf = true := by
  obtain ⟨f0, f1, f2, f3, f4, hu, _⟩ := fields
  obtain ⟨cl, rfl, hsz⟩ := okWide_struct hu hv
  obtain ⟨fuel, hf⟩ := hd
  obtain ⟨x, hx, hw⟩ := cells hf
  refine ⟨x, ?_, hw⟩
  simp only [Value.cells, cs] at hx
  unfold v
  congr 1
  rw [← hx]

set_option maxRecDepth 100000 in
/-- A slice of them. -/
theorem open_all {u : Value} {d : DataW H} {ps : List MemPlace} (hv : Value.okWide Try.prog W .any b0 22 u) (hd : DataW.Trod enc Try.prog W 0 sp held 22 u d ps) :
    ∃ (sa : Option Addr) (l : List Sn) (c : Nat), u = .slice sa l.length c ∧ Sl W sa l c ∧ l.length ≤ maxLen ∧ ∀ x ∈ l, (Lit.int .i64 x.id).wf = true ∧ (Lit.int .i64 x.q).wf = true ∧ (Lit.int .i64 x.tr).wf = true := by
  obtain ⟨sa, len, c, rfl⟩ := okWide_slice Try.underlying22 hv
  obtain ⟨fuel, hf⟩ := hd
  rcases open_slice Try.underlying22 hf with ⟨hcs, -⟩ | ⟨a, len', cap, m, n, D, Pl, hcs, -, hl, hml, hm, -, hel⟩
  · simp [Value.cells] at hcs
    obtain ⟨rfl, rfl, rfl⟩ := hcs
    exact ⟨none, [], 0, rfl, Sl.none _, Nat.zero_le _, fun x hx => absurd hx List.not_mem_nil⟩
  · simp [Value.cells] at hcs
    obtain ⟨rfl, rfl, rfl⟩ := hcs
    have hle : len ≤ m := by rw [hm]; split <;> omega
    have key : ∀ i, i < len → ∃ x : Sn, ∃ b off, a = ⟨b, off, none⟩ ∧ b < W.heap.size ∧ W.cell? ⟨b, off + i * 5, none⟩ = some (.int .i64 x.id) ∧ W.cell? ⟨b, off + i * 5 + 1, none⟩ = some (.int .i64 x.q) ∧ W.cell? ⟨b, off + i * 5 + 2, none⟩ = some (.int .i64 x.tr) ∧ W.cell? ⟨b, off + i * 5 + 3, none⟩ = some (.bool x.dn) ∧ W.cell? ⟨b, off + i * 5 + 4, none⟩ = some (.string x.da) ∧ (Lit.int .i64 x.id).wf = true ∧ (Lit.int .i64 x.q).wf = true ∧ (Lit.int .i64 x.tr).wf = true := by
      intro i hi
      obtain ⟨cs', h1, h2⟩ := hel i (by omega)
      obtain ⟨cs0, h10, h20⟩ := hel 0 (by omega)
      obtain ⟨x0, rfl, -⟩ := cells h20
      obtain ⟨x, rfl, hw⟩ := cells h2
      obtain ⟨-, -, hc⟩ := World.cells?_some h1
      obtain ⟨-, -, hc0⟩ := World.cells?_some h10
      rw [cellsAll] at hc hc0
      obtain ⟨b, off, spot⟩ := a
      have hspot : spot = none := by
        have := hc0 0 (by omega)
        exact World.cell?_spot (a := ⟨b, off, spot⟩) (v := .int .i64 x0.id) (by simpa [Addr.add, cs] using this)
      subst hspot
      have ad : ∀ j, ((⟨b, off, none⟩ : Addr).add (i * 5)).add j = ⟨b, off + i * 5 + j, none⟩ := fun j => by
        unfold Addr.add; split <;> split <;> simp_all
      have g : ∀ j, j < 5 → W.cell? ⟨b, off + i * 5 + j, none⟩ = (cs x)[j]? := fun j hj => by rw [← ad]; exact hc j hj
      have g0 := g 0 (by omega)
      exact ⟨x, b, off, rfl, World.block_lt_of_cell? _ _ g0, g0, g 1 (by omega), g 2 (by omega), g 3 (by omega), g 4 (by omega), hw⟩
    obtain ⟨O, hO⟩ := choose_lt (α := Sn) (n := len) (p := fun i x => ∃ b off, a = ⟨b, off, none⟩ ∧ b < W.heap.size ∧ W.cell? ⟨b, off + i * 5, none⟩ = some (.int .i64 x.id) ∧ W.cell? ⟨b, off + i * 5 + 1, none⟩ = some (.int .i64 x.q) ∧ W.cell? ⟨b, off + i * 5 + 2, none⟩ = some (.int .i64 x.tr) ∧ W.cell? ⟨b, off + i * 5 + 3, none⟩ = some (.bool x.dn) ∧ W.cell? ⟨b, off + i * 5 + 4, none⟩ = some (.string x.da) ∧ (Lit.int .i64 x.id).wf = true ∧ (Lit.int .i64 x.q).wf = true ∧ (Lit.int .i64 x.tr).wf = true) key
    refine ⟨some a, (List.range len).map O, c, by simp, ⟨fun i hi => ?_, by rw [List.length_map, List.length_range]; omega, fun h => absurd h (by simp)⟩, by rw [List.length_map, List.length_range]; omega, fun x hx => ?_⟩
    · have hi' : i < len := by simpa using hi
      obtain ⟨b, off, ha, hlt, q0, q1, q2, q3, q4, -⟩ := hO i hi'
      refine ⟨b, off, by rw [ha], ?_⟩
      simpa using And.intro hlt ⟨q0, q1, q2, q3, q4⟩
    · obtain ⟨i, hi, rfl⟩ := List.mem_map.1 hx
      obtain ⟨b, off, -, -, -, -, -, -, -, hw⟩ := hO i (List.mem_range.1 hi)
      exact hw
end opening
end Go.Proofs.Ytldeflpaghbmmaa.Sn_
