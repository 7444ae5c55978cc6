/-
  A flat struct, api.Frame: its value; a slice of such; what is owned; how arguments are opened (written by gen_struct.py).
  FRAMES AS WORDS: the cells of a frame, the load and the store of a whole frame in one step.
  FRAMES AS WORDS, more: a literal frame folded, the store of a whole frame, a field set among the cells.
-/
import Derived.Test.YtacbhbejchjbiaaDoorRows
import Derived.Test.YtacbhbejchjbiaaDoorHdFrame
import Derived.OpenShut
import Derived.ProofKit
import Derived.Deep.Slices
import Derived.Deep.OwnRows
import Derived.Below
import Derived.WalkKit
import Derived.Test.YtacbhbejchjbiaaDoorHdMath
import Derived.Deep.WholeRow
import Derived.Lib.Hide
namespace Go.Proofs.YtacbhbejchjbiaaDoor.Fr_
open Go.ChangeShapes Go.WideShapes Go.RowKit Go.Deep Go.Hd

instance : Inhabited Fr := ⟨⟨0, false, false, false, false, false, false, 0, 0, 0, 0, 0, 0, 0, 0, 0, 0, ⟨#[]⟩⟩⟩
/-- The cells of one. -/
def cs (x : Fr) : List Value := [.int .i64 x.kd, .bool x.rt, .bool x.mo, .bool x.pw, .bool x.st, .bool x.la, .bool x.jo, .int .i64 x.po, .int .i64 x.du, .int .u64 x.ta, .int .u64 x.fa, .int .u64 x.th, .int .i64 x.sq, .int .i64 x.fg, .int .i64 x.ct, .int .i64 x.ky, .int .i64 x.cn, .string x.bo]
/-- One as a value. -/
def v (x : Fr) : Value := .agg #[.int .i64 x.kd, .bool x.rt, .bool x.mo, .bool x.pw, .bool x.st, .bool x.la, .bool x.jo, .int .i64 x.po, .int .i64 x.du, .int .u64 x.ta, .int .u64 x.fa, .int .u64 x.th, .int .i64 x.sq, .int .i64 x.fg, .int .i64 x.ct, .int .i64 x.ky, .int .i64 x.cn, .string x.bo]
/-- They lie behind the address. -/
def At (W : World) (sa : Option Addr) (l : List Fr) : Prop :=
  ∀ i (h : i < l.length), ∃ b off, sa = some ⟨b, off, none⟩ ∧ b < W.heap.size ∧ W.cell? ⟨b, off + i * 18, none⟩ = some (.int .i64 l[i].kd) ∧ W.cell? ⟨b, off + i * 18 + 1, none⟩ = some (.bool l[i].rt) ∧ W.cell? ⟨b, off + i * 18 + 2, none⟩ = some (.bool l[i].mo) ∧ W.cell? ⟨b, off + i * 18 + 3, none⟩ = some (.bool l[i].pw) ∧ W.cell? ⟨b, off + i * 18 + 4, none⟩ = some (.bool l[i].st) ∧ W.cell? ⟨b, off + i * 18 + 5, none⟩ = some (.bool l[i].la) ∧ W.cell? ⟨b, off + i * 18 + 6, none⟩ = some (.bool l[i].jo) ∧ W.cell? ⟨b, off + i * 18 + 7, none⟩ = some (.int .i64 l[i].po) ∧ W.cell? ⟨b, off + i * 18 + 8, none⟩ = some (.int .i64 l[i].du) ∧ W.cell? ⟨b, off + i * 18 + 9, none⟩ = some (.int .u64 l[i].ta) ∧ W.cell? ⟨b, off + i * 18 + 10, none⟩ = some (.int .u64 l[i].fa) ∧ W.cell? ⟨b, off + i * 18 + 11, none⟩ = some (.int .u64 l[i].th) ∧ W.cell? ⟨b, off + i * 18 + 12, none⟩ = some (.int .i64 l[i].sq) ∧ W.cell? ⟨b, off + i * 18 + 13, none⟩ = some (.int .i64 l[i].fg) ∧ W.cell? ⟨b, off + i * 18 + 14, none⟩ = some (.int .i64 l[i].ct) ∧ W.cell? ⟨b, off + i * 18 + 15, none⟩ = some (.int .i64 l[i].ky) ∧ W.cell? ⟨b, off + i * 18 + 16, none⟩ = some (.int .i64 l[i].cn) ∧ W.cell? ⟨b, off + i * 18 + 17, none⟩ = some (.string l[i].bo)
theorem At.below {W W' : World} {sa : Option Addr} {l : List Fr} (h : At W sa l) (hb : Below W.heap.size W W') : At W' sa l := by
  intro i hi
  obtain ⟨b, off, e, hl, h0, h1, h2, h3, h4, h5, h6, h7, h8, h9, h10, h11, h12, h13, h14, h15, h16, h17⟩ := h i hi
  exact ⟨b, off, e, Nat.lt_of_lt_of_le hl hb.size, (hb.cell hl).trans h0, (hb.cell hl).trans h1, (hb.cell hl).trans h2, (hb.cell hl).trans h3, (hb.cell hl).trans h4, (hb.cell hl).trans h5, (hb.cell hl).trans h6, (hb.cell hl).trans h7, (hb.cell hl).trans h8, (hb.cell hl).trans h9, (hb.cell hl).trans h10, (hb.cell hl).trans h11, (hb.cell hl).trans h12, (hb.cell hl).trans h13, (hb.cell hl).trans h14, (hb.cell hl).trans h15, (hb.cell hl).trans h16, (hb.cell hl).trans h17⟩
/-- Behind whatever leaves the block of the slice as it was. -/
theorem At.block {W W' : World} {sa : Option Addr} {l : List Fr} (h : At W sa l) (hs : W.heap.size ≤ W'.heap.size) (hb : ∀ b off, sa = some ⟨b, off, none⟩ → W'.heap[b]? = W.heap[b]?) : At W' sa l := by
  intro i hi
  obtain ⟨b, off, e, hl, h0, h1, h2, h3, h4, h5, h6, h7, h8, h9, h10, h11, h12, h13, h14, h15, h16, h17⟩ := h i hi
  exact ⟨b, off, e, Nat.lt_of_lt_of_le hl hs, (World.cell?_of_block (w := W) (hb b off e)).trans h0, (World.cell?_of_block (w := W) (hb b off e)).trans h1, (World.cell?_of_block (w := W) (hb b off e)).trans h2, (World.cell?_of_block (w := W) (hb b off e)).trans h3, (World.cell?_of_block (w := W) (hb b off e)).trans h4, (World.cell?_of_block (w := W) (hb b off e)).trans h5, (World.cell?_of_block (w := W) (hb b off e)).trans h6, (World.cell?_of_block (w := W) (hb b off e)).trans h7, (World.cell?_of_block (w := W) (hb b off e)).trans h8, (World.cell?_of_block (w := W) (hb b off e)).trans h9, (World.cell?_of_block (w := W) (hb b off e)).trans h10, (World.cell?_of_block (w := W) (hb b off e)).trans h11, (World.cell?_of_block (w := W) (hb b off e)).trans h12, (World.cell?_of_block (w := W) (hb b off e)).trans h13, (World.cell?_of_block (w := W) (hb b off e)).trans h14, (World.cell?_of_block (w := W) (hb b off e)).trans h15, (World.cell?_of_block (w := W) (hb b off e)).trans h16, (World.cell?_of_block (w := W) (hb b off e)).trans h17⟩
theorem At.drew {W : World} {sa : Option Addr} {l : List Fr} (h : At W sa l) : At W.drew sa l := h
theorem At.nil (W : World) (sa : Option Addr) : At W sa [] := fun i hi => absurd hi (Nat.not_lt_zero i)
/-- A slice of them: it lies there, its capacity holds it, and a nil one has none. -/
structure Sl (W : World) (sa : Option Addr) (l : List Fr) (c : Nat) : Prop where
  lies : At W sa l
  le : l.length ≤ c
  nil : sa = none → c = 0
theorem Sl.below {W W' : World} {sa : Option Addr} {l : List Fr} {c : Nat} (h : Sl W sa l c) (hb : Below W.heap.size W W') : Sl W' sa l c := ⟨h.lies.below hb, h.le, h.nil⟩
theorem Sl.drew {W : World} {sa : Option Addr} {l : List Fr} {c : Nat} (h : Sl W sa l c) : Sl W.drew sa l c := ⟨h.lies.drew, h.le, h.nil⟩
theorem Sl.none (W : World) : Sl W Option.none ([] : List Fr) 0 := ⟨At.nil _ _, Nat.le_refl _, fun _ => rfl⟩

def flat (l : List Fr) : List Value := l.flatMap cs
theorem flat_len (l : List Fr) : (flat l).length = l.length * 18 := by
  unfold flat
  induction l with
  | nil => rfl
  | cons s l ih => rw [List.flatMap_cons, List.length_append, ih]; simp [cs]; omega
theorem flat_cell (l : List Fr) : ∀ (i : Nat) (h : i < l.length) (j : Nat), j < 18 → (flat l)[i * 18 + j]? = (cs l[i])[j]? := by
  induction l with
  | nil => intro i h; cases h
  | cons s l ih =>
    intro i h j hj
    have e : flat (s :: l) = cs s ++ flat l := List.flatMap_cons ..
    rw [e]
    cases i with
    | zero => rw [Nat.zero_mul, Nat.zero_add, List.getElem?_append_left (by simpa [cs] using hj)]; rfl
    | succ i =>
      rw [List.getElem?_append_right (by simp [cs]; omega), show (i + 1) * 18 + j - (cs s).length = i * 18 + j by simp [cs]; omega]
      exact ih i (by simpa using h) j hj
theorem flat_append (l m : List Fr) : flat (l ++ m) = flat l ++ flat m := List.flatMap_append
theorem flat_snoc (l : List Fr) (x : Fr) : flat (l ++ [x]) = flat l ++ cs x := by rw [flat_append]; unfold flat; rw [List.flatMap_cons, List.flatMap_nil, List.append_nil]
theorem flat_one (x : Fr) : ∀ u ∈ cs x, u.oneCell' = true := by intro u hu; simp [cs] at hu; rcases hu with rfl | rfl | rfl | rfl | rfl | rfl | rfl | rfl | rfl | rfl | rfl | rfl | rfl | rfl | rfl | rfl | rfl | rfl <;> rfl
theorem flat_ones (l : List Fr) : ∀ u ∈ flat l, u.oneCell' = true := by
  intro u hu
  obtain ⟨x, -, hx⟩ := List.mem_flatMap.1 hu
  exact flat_one x u hx

theorem info : (Tryd.prog.info? 34).map (fun i => (i.zero, i.size, i.bytes)) = some (some (.agg #[.int .i64 0, .bool false, .bool false, .bool false, .bool false, .bool false, .bool false, .int .i64 0, .int .i64 0, .int .u64 0, .int .u64 0, .int .u64 0, .int .i64 0, .int .i64 0, .int .i64 0, .int .i64 0, .int .i64 0, .string ⟨#[]⟩]), 18, 112) := by kernel_rfl
/-- What is owned lies behind its address. -/
theorem at_owns {l : List Fr} {base cap : Nat} {v0 : Option Addr} {wr : World} (h : wr.ownsRow base 34 18 (.slice v0 l.length cap) l.length (flat l)) : At wr v0 l := by
  intro i hi
  have h0 := h
  obtain ⟨_, ⟨h1, h2⟩ | ⟨g, cap', cur, h1, hb, hh, hn, hc, hs, ht⟩⟩ := h
  · omega
  · injection h1 with e1 e2 e3
    subst e1
    have e : ∀ j : Nat, (⟨g, 0, none⟩ : Addr).add j = ⟨g, j, none⟩ := fun j => by unfold Addr.add; split <;> simp_all
    have c0 := h0.cells (g := g) rfl (i * 18 + 0) _ (flat_cell l i hi 0 (by decide))
    have c1 := h0.cells (g := g) rfl (i * 18 + 1) _ (flat_cell l i hi 1 (by decide))
    have c2 := h0.cells (g := g) rfl (i * 18 + 2) _ (flat_cell l i hi 2 (by decide))
    have c3 := h0.cells (g := g) rfl (i * 18 + 3) _ (flat_cell l i hi 3 (by decide))
    have c4 := h0.cells (g := g) rfl (i * 18 + 4) _ (flat_cell l i hi 4 (by decide))
    have c5 := h0.cells (g := g) rfl (i * 18 + 5) _ (flat_cell l i hi 5 (by decide))
    have c6 := h0.cells (g := g) rfl (i * 18 + 6) _ (flat_cell l i hi 6 (by decide))
    have c7 := h0.cells (g := g) rfl (i * 18 + 7) _ (flat_cell l i hi 7 (by decide))
    have c8 := h0.cells (g := g) rfl (i * 18 + 8) _ (flat_cell l i hi 8 (by decide))
    have c9 := h0.cells (g := g) rfl (i * 18 + 9) _ (flat_cell l i hi 9 (by decide))
    have c10 := h0.cells (g := g) rfl (i * 18 + 10) _ (flat_cell l i hi 10 (by decide))
    have c11 := h0.cells (g := g) rfl (i * 18 + 11) _ (flat_cell l i hi 11 (by decide))
    have c12 := h0.cells (g := g) rfl (i * 18 + 12) _ (flat_cell l i hi 12 (by decide))
    have c13 := h0.cells (g := g) rfl (i * 18 + 13) _ (flat_cell l i hi 13 (by decide))
    have c14 := h0.cells (g := g) rfl (i * 18 + 14) _ (flat_cell l i hi 14 (by decide))
    have c15 := h0.cells (g := g) rfl (i * 18 + 15) _ (flat_cell l i hi 15 (by decide))
    have c16 := h0.cells (g := g) rfl (i * 18 + 16) _ (flat_cell l i hi 16 (by decide))
    have c17 := h0.cells (g := g) rfl (i * 18 + 17) _ (flat_cell l i hi 17 (by decide))
    rw [e] at c0 c1 c2 c3 c4 c5 c6 c7 c8 c9 c10 c11 c12 c13 c14 c15 c16 c17
    refine ⟨g, 0, rfl, (Array.getElem?_eq_some_iff.1 hh).1, ?_, ?_, ?_, ?_, ?_, ?_, ?_, ?_, ?_, ?_, ?_, ?_, ?_, ?_, ?_, ?_, ?_, ?_⟩
    · rw [Nat.zero_add]; exact c0
    · rw [Nat.zero_add]; exact c1
    · rw [Nat.zero_add]; exact c2
    · rw [Nat.zero_add]; exact c3
    · rw [Nat.zero_add]; exact c4
    · rw [Nat.zero_add]; exact c5
    · rw [Nat.zero_add]; exact c6
    · rw [Nat.zero_add]; exact c7
    · rw [Nat.zero_add]; exact c8
    · rw [Nat.zero_add]; exact c9
    · rw [Nat.zero_add]; exact c10
    · rw [Nat.zero_add]; exact c11
    · rw [Nat.zero_add]; exact c12
    · rw [Nat.zero_add]; exact c13
    · rw [Nat.zero_add]; exact c14
    · rw [Nat.zero_add]; exact c15
    · rw [Nat.zero_add]; exact c16
    · rw [Nat.zero_add]; exact c17
theorem sl_owns {l : List Fr} {base cap : Nat} {v0 : Option Addr} {wr : World} (h : wr.ownsRow base 34 18 (.slice v0 l.length cap) l.length (flat l)) : Sl wr v0 l cap := by
  refine ⟨at_owns h, ?_, ?_⟩
  · obtain ⟨_, ⟨h1, h2⟩ | ⟨g, cap', cur, h1, hb, hh, hn, -⟩⟩ := h
    · omega
    · injection h1 with e1 e2 e3; omega
  · rintro rfl
    obtain ⟨_, ⟨h1, h2⟩ | ⟨g, cap', cur, h1, -⟩⟩ := h
    · injection h1 with e1 e2 e3
    · injection h1 with e1 e2 e3; exact absurd e1 (by simp)
theorem slice_form {base n size : Nat} {e : TypeId} {u : Value} {wr : World} {xs : List Value} (h : wr.ownsRow base e size u n xs) : ∃ v0 cap, u = .slice v0 n cap := by
  obtain ⟨_, ⟨h1, h2⟩ | ⟨g, cap, cur, h1, _⟩⟩ := h
  · exact ⟨none, 0, by rw [h1, h2]⟩
  · exact ⟨_, _, h1⟩
theorem owns_lit (w : World) (l : List Fr) {base : Nat} (hb : base ≤ w.heap.size) (hl : l.length ≤ maxLen) : (w.alloc (.cells (flat l).toArray 34)).ownsRow base 34 18 (.slice (some ⟨w.heap.size, 0, none⟩) l.length l.length) l.length (flat l) := by
  have := World.ownsRow_lit (e := 34) (size := 18) w (flat l).toArray l.length hb hl (by rw [List.size_toArray, flat_len])
  exact this
theorem sl_lit (w : World) (l : List Fr) (hl : l.length ≤ maxLen) : Sl (w.alloc (.cells (flat l).toArray 34)) (some ⟨w.heap.size, 0, none⟩) l l.length := sl_owns (owns_lit w l (base := 0) (Nat.zero_le _) hl)
theorem at_lit (w : World) (l : List Fr) (hl : l.length ≤ maxLen) : At (w.alloc (.cells (flat l).toArray 34)) (some ⟨w.heap.size, 0, none⟩) l := at_owns (owns_lit w l (base := 0) (Nat.zero_le _) hl)
/-- The cells in order, behind an address. -/
theorem At.cells {W : World} {b off : Nat} {l : List Fr} (h : At W (some ⟨b, off, none⟩) l) : ∀ j u, (flat l)[j]? = some u → W.cell? ((⟨b, off, none⟩ : Addr).add j) = some u := by
  intro j u hu
  have hj : j < l.length * 18 := by have := (List.getElem?_eq_some_iff.1 hu).1; rwa [flat_len] at this
  have hi : j / 18 < l.length := by omega
  obtain ⟨b', off', e, -, h0, h1, h2, h3, h4, h5, h6, h7, h8, h9, h10, h11, h12, h13, h14, h15, h16, h17⟩ := h (j / 18) hi
  cases e
  have hm : j % 18 < 18 := Nat.mod_lt _ (by decide)
  have hje : j = j / 18 * 18 + j % 18 := by omega
  have hc := flat_cell l (j / 18) hi (j % 18) hm
  rw [← hje, hu] at hc
  rw [Addr.add_lit]
  generalize hq : j / 18 = q at *
  generalize hr : j % 18 = r at *
  subst hje
  match r, hm with
  | 0, _ => rw [show off + (q * 18 + 0) = off + q * 18 by omega, h0, hc]; rfl
  | 1, _ => rw [show off + (q * 18 + 1) = off + q * 18 + 1 by omega, h1, hc]; rfl
  | 2, _ => rw [show off + (q * 18 + 2) = off + q * 18 + 2 by omega, h2, hc]; rfl
  | 3, _ => rw [show off + (q * 18 + 3) = off + q * 18 + 3 by omega, h3, hc]; rfl
  | 4, _ => rw [show off + (q * 18 + 4) = off + q * 18 + 4 by omega, h4, hc]; rfl
  | 5, _ => rw [show off + (q * 18 + 5) = off + q * 18 + 5 by omega, h5, hc]; rfl
  | 6, _ => rw [show off + (q * 18 + 6) = off + q * 18 + 6 by omega, h6, hc]; rfl
  | 7, _ => rw [show off + (q * 18 + 7) = off + q * 18 + 7 by omega, h7, hc]; rfl
  | 8, _ => rw [show off + (q * 18 + 8) = off + q * 18 + 8 by omega, h8, hc]; rfl
  | 9, _ => rw [show off + (q * 18 + 9) = off + q * 18 + 9 by omega, h9, hc]; rfl
  | 10, _ => rw [show off + (q * 18 + 10) = off + q * 18 + 10 by omega, h10, hc]; rfl
  | 11, _ => rw [show off + (q * 18 + 11) = off + q * 18 + 11 by omega, h11, hc]; rfl
  | 12, _ => rw [show off + (q * 18 + 12) = off + q * 18 + 12 by omega, h12, hc]; rfl
  | 13, _ => rw [show off + (q * 18 + 13) = off + q * 18 + 13 by omega, h13, hc]; rfl
  | 14, _ => rw [show off + (q * 18 + 14) = off + q * 18 + 14 by omega, h14, hc]; rfl
  | 15, _ => rw [show off + (q * 18 + 15) = off + q * 18 + 15 by omega, h15, hc]; rfl
  | 16, _ => rw [show off + (q * 18 + 16) = off + q * 18 + 16 by omega, h16, hc]; rfl
  | 17, _ => rw [show off + (q * 18 + 17) = off + q * 18 + 17 by omega, h17, hc]; rfl

/-- What is appended out of a slice of them. -/
theorem Sl.news {W : World} {sa : Option Addr} {l : List Fr} {c : Nat} (h : Sl W sa l c) : ∀ ad, sa = some ad → ∀ j u, (flat l)[j]? = some u → W.cell? (ad.add j) = some u := by
  intro ad had j u hu
  have hj : 0 < l.length := by have := (List.getElem?_eq_some_iff.1 hu).1; rw [flat_len] at this; omega
  obtain ⟨b, off, e, -⟩ := h.lies 0 hj
  have e2 : ad = ⟨b, off, Option.none⟩ := Option.some.inj (had.symm.trans e)
  subst e2
  subst had
  exact h.lies.cells j u hu
/-- A block of its own holds one. -/
def Box (W : World) (b : Nat) (x : Fr) : Prop := W.heap[b]? = some (.cells #[.int .i64 x.kd, .bool x.rt, .bool x.mo, .bool x.pw, .bool x.st, .bool x.la, .bool x.jo, .int .i64 x.po, .int .i64 x.du, .int .u64 x.ta, .int .u64 x.fa, .int .u64 x.th, .int .i64 x.sq, .int .i64 x.fg, .int .i64 x.ct, .int .i64 x.ky, .int .i64 x.cn, .string x.bo] 34 (0, 0))
theorem Box.lt {W : World} {b : Nat} {x : Fr} (h : Box W b x) : b < W.heap.size := (Array.getElem?_eq_some_iff.1 h).1
theorem Box.below {W W' : World} {b B : Nat} {x : Fr} (h : Box W b x) (hb : Below B W W') (hlt : b < B) : Box W' b x := (hb.block b hlt).trans h
theorem Box.drew {W : World} {b : Nat} {x : Fr} (h : Box W b x) : Box W.drew b x := h
theorem Box.new (W : World) (x : Fr) {b : Nat} (hb : b = W.heap.size) : Box (W.alloc (.cells #[.int .i64 x.kd, .bool x.rt, .bool x.mo, .bool x.pw, .bool x.st, .bool x.la, .bool x.jo, .int .i64 x.po, .int .i64 x.du, .int .u64 x.ta, .int .u64 x.fa, .int .u64 x.th, .int .i64 x.sq, .int .i64 x.fg, .int .i64 x.ct, .int .i64 x.ky, .int .i64 x.cn, .string x.bo] 34)) b x := by
  subst hb
  show (W.heap.push _)[W.heap.size]? = _
  rw [Array.getElem?_push, if_pos rfl]
theorem Box.cell {W : World} {b : Nat} {x : Fr} (h : Box W b x) (j : Nat) : W.cell? ⟨b, j, none⟩ = (cs x)[j]? := by
  unfold Box at h
  simp [World.cell?, h, cs]
theorem Box.cells {W : World} {b : Nat} {x : Fr} (h : Box W b x) : W.cell? ⟨b, 0, none⟩ = some (.int .i64 x.kd) ∧ W.cell? ⟨b, 1, none⟩ = some (.bool x.rt) ∧ W.cell? ⟨b, 2, none⟩ = some (.bool x.mo) ∧ W.cell? ⟨b, 3, none⟩ = some (.bool x.pw) ∧ W.cell? ⟨b, 4, none⟩ = some (.bool x.st) ∧ W.cell? ⟨b, 5, none⟩ = some (.bool x.la) ∧ W.cell? ⟨b, 6, none⟩ = some (.bool x.jo) ∧ W.cell? ⟨b, 7, none⟩ = some (.int .i64 x.po) ∧ W.cell? ⟨b, 8, none⟩ = some (.int .i64 x.du) ∧ W.cell? ⟨b, 9, none⟩ = some (.int .u64 x.ta) ∧ W.cell? ⟨b, 10, none⟩ = some (.int .u64 x.fa) ∧ W.cell? ⟨b, 11, none⟩ = some (.int .u64 x.th) ∧ W.cell? ⟨b, 12, none⟩ = some (.int .i64 x.sq) ∧ W.cell? ⟨b, 13, none⟩ = some (.int .i64 x.fg) ∧ W.cell? ⟨b, 14, none⟩ = some (.int .i64 x.ct) ∧ W.cell? ⟨b, 15, none⟩ = some (.int .i64 x.ky) ∧ W.cell? ⟨b, 16, none⟩ = some (.int .i64 x.cn) ∧ W.cell? ⟨b, 17, none⟩ = some (.string x.bo) :=
  ⟨h.cell 0, h.cell 1, h.cell 2, h.cell 3, h.cell 4, h.cell 5, h.cell 6, h.cell 7, h.cell 8, h.cell 9, h.cell 10, h.cell 11, h.cell 12, h.cell 13, h.cell 14, h.cell 15, h.cell 16, h.cell 17⟩
theorem Box.frozen {W : World} {b : Nat} {x : Fr} (h : Box W b x) (j : Nat) : W.frozen? ⟨b, j, none⟩ = false := by
  unfold Box at h
  simp [World.frozen?, h]
/-- The load of the whole, as the walk meets it. -/
theorem Box.load {W : World} {b : Nat} {x : Fr} (h : Box W b x) : (loadCellsFrom ⟨b, 0, none⟩ 0 18 #[]).run Tryd.prog W = .ok #[.int .i64 x.kd, .bool x.rt, .bool x.mo, .bool x.pw, .bool x.st, .bool x.la, .bool x.jo, .int .i64 x.po, .int .i64 x.du, .int .u64 x.ta, .int .u64 x.fa, .int .u64 x.th, .int .i64 x.sq, .int .i64 x.fg, .int .i64 x.ct, .int .i64 x.ky, .int .i64 x.cn, .string x.bo] W :=
  run_loadCells_list (P := Tryd.prog) W ⟨b, 0, none⟩ (cs x) (fun j v hj => by rw [Addr.add_lit, Nat.zero_add, h.cell j]; exact hj)
theorem fields : ∃ f0 f1 f2 f3 f4 f5 f6 f7 f8 f9 f10 f11 f12 f13 f14 f15 f16 f17 : Field, Tryd.prog.underlying 34 = some (.struct #[f0, f1, f2, f3, f4, f5, f6, f7, f8, f9, f10, f11, f12, f13, f14, f15, f16, f17]) ∧ f0.type = 3 ∧ f1.type = 4 ∧ f2.type = 4 ∧ f3.type = 4 ∧ f4.type = 4 ∧ f5.type = 4 ∧ f6.type = 4 ∧ f7.type = 3 ∧ f8.type = 3 ∧ f9.type = 32 ∧ f10.type = 32 ∧ f11.type = 32 ∧ f12.type = 3 ∧ f13.type = 3 ∧ f14.type = 3 ∧ f15.type = 3 ∧ f16.type = 3 ∧ f17.type = 9 ∧
    f0.offset = 0 ∧ f1.offset = 1 ∧ f2.offset = 2 ∧ f3.offset = 3 ∧ f4.offset = 4 ∧ f5.offset = 5 ∧ f6.offset = 6 ∧ f7.offset = 7 ∧ f8.offset = 8 ∧ f9.offset = 9 ∧ f10.offset = 10 ∧ f11.offset = 11 ∧ f12.offset = 12 ∧ f13.offset = 13 ∧ f14.offset = 14 ∧ f15.offset = 15 ∧ f16.offset = 16 ∧ f17.offset = 17 := ⟨_, _, _, _, _, _, _, _, _, _, _, _, _, _, _, _, _, _, Tryd.underlying34, rfl, rfl, rfl, rfl, rfl, rfl, rfl, rfl, rfl, rfl, rfl, rfl, rfl, rfl, rfl, rfl, rfl, rfl, rfl, rfl, rfl, rfl, rfl, rfl, rfl, rfl, rfl, rfl, rfl, rfl, rfl, rfl, rfl, rfl, rfl, rfl⟩
theorem cellsAll : Tryd.prog.cellsOf 34 = 18 := by kernel_rfl
theorem cellsOf0 : Tryd.prog.cellsOf 3 = 1 := by kernel_rfl
theorem cellsOf1 : Tryd.prog.cellsOf 4 = 1 := by kernel_rfl
theorem cellsOf2 : Tryd.prog.cellsOf 32 = 1 := by kernel_rfl
theorem cellsOf3 : Tryd.prog.cellsOf 9 = 1 := by kernel_rfl

section opening
variable {H : Type} {enc : TypeId × Value → H} {W : World} {base b0 : Nat} {sp : Nat → Bool} {held : Bool}

set_option maxRecDepth 100000 in
/-- The cells of one that came in. -/
theorem cells {fuel : Nat} {cl : List Value} {x : DataW H × List MemPlace} (h : DataW.trod enc Tryd.prog W base sp held fuel 34 cl = some x) :
    ∃ x : Fr, cl = cs x ∧ (Lit.int .i64 x.kd).wf = true ∧ (Lit.int .i64 x.po).wf = true ∧ (Lit.int .i64 x.du).wf = true ∧ (Lit.int .u64 x.ta).wf = true ∧ (Lit.int .u64 x.fa).wf = true ∧ (Lit.int .u64 x.th).wf = true ∧ (Lit.int .i64 x.sq).wf = true ∧ (Lit.int .i64 x.fg).wf = true ∧ (Lit.int .i64 x.ct).wf = true ∧ (Lit.int .i64 x.ky).wf = true ∧ (Lit.int .i64 x.cn).wf = true := by
  obtain ⟨f0, f1, f2, f3, f4, f5, f6, f7, f8, f9, f10, f11, f12, f13, f14, f15, f16, f17, hu, t0, t1, t2, t3, t4, t5, t6, t7, t8, t9, t10, t11, t12, t13, t14, t15, t16, t17, o0, o1, o2, o3, o4, o5, o6, o7, o8, o9, o10, o11, o12, o13, o14, o15, o16, o17⟩ := fields
  obtain ⟨xs, m, _, _, hl, hn, hf⟩ := DataW.trod_struct hu h
  rw [cellsAll] at hl
  have ex : ∀ i, i < 18 → ∃ y, xs[i]? = some y := fun i hi => ⟨_, List.getElem?_eq_getElem (by rw [hn]; exact hi)⟩
  have g0 := hf 0 f0 rfl
  have g1 := hf 1 f1 rfl
  have g2 := hf 2 f2 rfl
  have g3 := hf 3 f3 rfl
  have g4 := hf 4 f4 rfl
  have g5 := hf 5 f5 rfl
  have g6 := hf 6 f6 rfl
  have g7 := hf 7 f7 rfl
  have g8 := hf 8 f8 rfl
  have g9 := hf 9 f9 rfl
  have g10 := hf 10 f10 rfl
  have g11 := hf 11 f11 rfl
  have g12 := hf 12 f12 rfl
  have g13 := hf 13 f13 rfl
  have g14 := hf 14 f14 rfl
  have g15 := hf 15 f15 rfl
  have g16 := hf 16 f16 rfl
  have g17 := hf 17 f17 rfl
  obtain ⟨y0, e0⟩ := ex 0 (by omega)
  obtain ⟨y1, e1⟩ := ex 1 (by omega)
  obtain ⟨y2, e2⟩ := ex 2 (by omega)
  obtain ⟨y3, e3⟩ := ex 3 (by omega)
  obtain ⟨y4, e4⟩ := ex 4 (by omega)
  obtain ⟨y5, e5⟩ := ex 5 (by omega)
  obtain ⟨y6, e6⟩ := ex 6 (by omega)
  obtain ⟨y7, e7⟩ := ex 7 (by omega)
  obtain ⟨y8, e8⟩ := ex 8 (by omega)
  obtain ⟨y9, e9⟩ := ex 9 (by omega)
  obtain ⟨y10, e10⟩ := ex 10 (by omega)
  obtain ⟨y11, e11⟩ := ex 11 (by omega)
  obtain ⟨y12, e12⟩ := ex 12 (by omega)
  obtain ⟨y13, e13⟩ := ex 13 (by omega)
  obtain ⟨y14, e14⟩ := ex 14 (by omega)
  obtain ⟨y15, e15⟩ := ex 15 (by omega)
  obtain ⟨y16, e16⟩ := ex 16 (by omega)
  obtain ⟨y17, e17⟩ := ex 17 (by omega)
  rw [e0, t0, o0, cellsOf0] at g0
  rw [e1, t1, o1, cellsOf1] at g1
  rw [e2, t2, o2, cellsOf1] at g2
  rw [e3, t3, o3, cellsOf1] at g3
  rw [e4, t4, o4, cellsOf1] at g4
  rw [e5, t5, o5, cellsOf1] at g5
  rw [e6, t6, o6, cellsOf1] at g6
  rw [e7, t7, o7, cellsOf0] at g7
  rw [e8, t8, o8, cellsOf0] at g8
  rw [e9, t9, o9, cellsOf2] at g9
  rw [e10, t10, o10, cellsOf2] at g10
  rw [e11, t11, o11, cellsOf2] at g11
  rw [e12, t12, o12, cellsOf0] at g12
  rw [e13, t13, o13, cellsOf0] at g13
  rw [e14, t14, o14, cellsOf0] at g14
  rw [e15, t15, o15, cellsOf0] at g15
  rw [e16, t16, o16, cellsOf0] at g16
  rw [e17, t17, o17, cellsOf3] at g17
  obtain ⟨a0, c0, -, w0⟩ := DataW.trod_int Tryd.underlying3 g0
  obtain ⟨a1, c1, -⟩ := DataW.trod_bool Tryd.underlying4 g1
  obtain ⟨a2, c2, -⟩ := DataW.trod_bool Tryd.underlying4 g2
  obtain ⟨a3, c3, -⟩ := DataW.trod_bool Tryd.underlying4 g3
  obtain ⟨a4, c4, -⟩ := DataW.trod_bool Tryd.underlying4 g4
  obtain ⟨a5, c5, -⟩ := DataW.trod_bool Tryd.underlying4 g5
  obtain ⟨a6, c6, -⟩ := DataW.trod_bool Tryd.underlying4 g6
  obtain ⟨a7, c7, -, w7⟩ := DataW.trod_int Tryd.underlying3 g7
  obtain ⟨a8, c8, -, w8⟩ := DataW.trod_int Tryd.underlying3 g8
  obtain ⟨a9, c9, -, w9⟩ := DataW.trod_int Tryd.underlying32 g9
  obtain ⟨a10, c10, -, w10⟩ := DataW.trod_int Tryd.underlying32 g10
  obtain ⟨a11, c11, -, w11⟩ := DataW.trod_int Tryd.underlying32 g11
  obtain ⟨a12, c12, -, w12⟩ := DataW.trod_int Tryd.underlying3 g12
  obtain ⟨a13, c13, -, w13⟩ := DataW.trod_int Tryd.underlying3 g13
  obtain ⟨a14, c14, -, w14⟩ := DataW.trod_int Tryd.underlying3 g14
  obtain ⟨a15, c15, -, w15⟩ := DataW.trod_int Tryd.underlying3 g15
  obtain ⟨a16, c16, -, w16⟩ := DataW.trod_int Tryd.underlying3 g16
  obtain ⟨a17, c17, -⟩ := DataW.trod_string Tryd.underlying9 g17
  match cl, hl with
  | [z0, z1, z2, z3, z4, z5, z6, z7, z8, z9, z10, z11, z12, z13, z14, z15, z16, z17], _ =>
    simp at c0 c1 c2 c3 c4 c5 c6 c7 c8 c9 c10 c11 c12 c13 c14 c15 c16 c17
    exact ⟨⟨a0, a1, a2, a3, a4, a5, a6, a7, a8, a9, a10, a11, a12, a13, a14, a15, a16, a17⟩, by simp [cs, c0, c1, c2, c3, c4, c5, c6, c7, c8, c9, c10, c11, c12, c13, c14, c15, c16, c17], w0, w7, w8, w9, w10, w11, w12, w13, w14, w15, w16⟩

set_option maxRecDepth 100000 in
/-- One by value. -/
theorem open_one {u : Value} {d : DataW H} {ps : List MemPlace} (hv : Value.okWide Tryd.prog W .any b0 34 u) (hd : DataW.Trod enc Tryd.prog W base sp held 34 u d ps) :
    ∃ x : Fr, u = v x ∧ (Lit.int .i64 x.kd).wf = true ∧ (Lit.int .i64 x.po).wf = true ∧ (Lit.int .i64 x.du).wf = true ∧ (Lit.int .u64 x.ta).wf = true ∧ (Lit.int .u64 x.fa).wf = true ∧ (Lit.int .u64 x.th).wf = true ∧ (Lit.int .i64 x.sq).wf = true ∧ (Lit.int .i64 x.fg).wf = true ∧ (Lit.int .i64 x.ct).wf = true ∧ (Lit.int .i64 x.ky).wf = true ∧ (Lit.int .i64 x.cn).wf = true := by
  obtain ⟨f0, f1, f2, f3, f4, f5, f6, f7, f8, f9, f10, f11, f12, f13, f14, f15, f16, f17, hu, _⟩ := fields
  obtain ⟨cl, rfl, hsz⟩ := okWide_struct hu hv
  obtain ⟨fuel, hf⟩ := hd
  obtain ⟨x, hx, hw⟩ := cells hf
  refine ⟨x, ?_, hw⟩
  simp only [Value.cells, cs] at hx
  unfold v
  congr 1
  rw [← hx]

end opening
end Go.Proofs.YtacbhbejchjbiaaDoor.Fr_

namespace Go.Proofs.YtacbhbejchjbiaaDoor.Fr_
open Go.ChangeShapes Go.WideShapes Go.RowKit Go.Deep Go.Hd

/-- The cells of a frame, a word. -/
def C (x : Fr) : Array Value := #[.int .i64 x.kd, .bool x.rt, .bool x.mo, .bool x.pw, .bool x.st, .bool x.la, .bool x.jo, .int .i64 x.po, .int .i64 x.du, .int .u64 x.ta, .int .u64 x.fa, .int .u64 x.th, .int .i64 x.sq, .int .i64 x.fg, .int .i64 x.ct, .int .i64 x.ky, .int .i64 x.cn, .string x.bo]
theorem C0 (x : Fr) : (C x)[0]? = some (.int .i64 x.kd) := rfl
theorem C1 (x : Fr) : (C x)[1]? = some (.bool x.rt) := rfl
theorem C2 (x : Fr) : (C x)[2]? = some (.bool x.mo) := rfl
theorem C3 (x : Fr) : (C x)[3]? = some (.bool x.pw) := rfl
theorem C4 (x : Fr) : (C x)[4]? = some (.bool x.st) := rfl
theorem C5 (x : Fr) : (C x)[5]? = some (.bool x.la) := rfl
theorem C6 (x : Fr) : (C x)[6]? = some (.bool x.jo) := rfl
theorem C7 (x : Fr) : (C x)[7]? = some (.int .i64 x.po) := rfl
theorem C8 (x : Fr) : (C x)[8]? = some (.int .i64 x.du) := rfl
theorem C9 (x : Fr) : (C x)[9]? = some (.int .u64 x.ta) := rfl
theorem C10 (x : Fr) : (C x)[10]? = some (.int .u64 x.fa) := rfl
theorem C11 (x : Fr) : (C x)[11]? = some (.int .u64 x.th) := rfl
theorem C12 (x : Fr) : (C x)[12]? = some (.int .i64 x.sq) := rfl
theorem C13 (x : Fr) : (C x)[13]? = some (.int .i64 x.fg) := rfl
theorem C14 (x : Fr) : (C x)[14]? = some (.int .i64 x.ct) := rfl
theorem C15 (x : Fr) : (C x)[15]? = some (.int .i64 x.ky) := rfl
theorem C16 (x : Fr) : (C x)[16]? = some (.int .i64 x.cn) := rfl
theorem C17 (x : Fr) : (C x)[17]? = some (.string x.bo) := rfl
theorem Csize (x : Fr) : (C x).size = 18 := rfl
theorem v_cells (x : Fr) : (v x).cells = C x := rfl
theorem v_match (x : Fr) : Value.cells.match_1 (fun _ => Array Value) (v x) (fun cs => cs) (fun u => #[u]) = C x := rfl
theorem v_agg (x : Fr) : v x = .agg (C x) := rfl
theorem C_ones (x : Fr) : (C x).all (·.oneCell') = true := by simp [C, Value.oneCell']
/-- The load of a whole frame, a word. -/
noncomputable def LoadF (a : Addr) : Sem Value := loadVar 34 a
theorem loadF (a : Addr) : loadVar 34 a = LoadF a := rfl
noncomputable def StoreF (a : Addr) (u : Value) : Sem Unit := storeVar 34 a u
theorem storeF (a : Addr) (u : Value) : storeVar 34 a u = StoreF a u := rfl
theorem sz : (Tryd.prog.info? 34).map (·.size) = some 18 := by kernel_rfl
theorem Box.loadF {W : World} {b : Nat} {x : Fr} (h : Box W b x) : (LoadF ⟨b, 0, none⟩).run Tryd.prog W = .ok (v x) W := by
  exact run_loadVar_row W b 34 34 (C x) (0, 0) _ h Tryd.underlying34 rfl sz
theorem Box.all {W : World} {b : Nat} {x : Fr} (h : Box W b x) : ∀ j : Nat, W.cell? ⟨b, j, none⟩ = (C x)[j]? := fun j => cell_of_row W b j (C x) _ _ h
theorem Box.newC (W : World) (x : Fr) : Box (W.alloc (.cells (C x) 34)) W.heap.size x := Box.new W x rfl
theorem Box.allocC {W : World} {b : Nat} {x : Fr} (h : Box W b x) (o : Obj) : Box (W.alloc o) b x := h.below ((Below.refl _ _).alloc (Nat.le_refl _) _) h.lt
theorem loadF_new (W : World) (x : Fr) : (LoadF ⟨W.heap.size, 0, none⟩).run Tryd.prog (W.alloc (.cells (C x) 34)) = .ok (v x) (W.alloc (.cells (C x) 34)) := (Box.newC W x).loadF
/-- The zero frame. -/
def zf : Fr := ⟨0, false, false, false, false, false, false, 0, 0, 0, 0, 0, 0, 0, 0, 0, 0, ⟨#[]⟩⟩
theorem C_zf : C zf = #[.int .i64 0, .bool false, .bool false, .bool false, .bool false, .bool false, .bool false, .int .i64 0, .int .i64 0, .int .u64 0, .int .u64 0, .int .u64 0, .int .i64 0, .int .i64 0, .int .i64 0, .int .i64 0, .int .i64 0, .string ⟨#[]⟩] := rfl
theorem v_zf : (.agg #[.int .i64 0, .bool false, .bool false, .bool false, .bool false, .bool false, .bool false, .int .i64 0, .int .i64 0, .int .u64 0, .int .u64 0, .int .u64 0, .int .i64 0, .int .i64 0, .int .i64 0, .int .i64 0, .int .i64 0, .string ⟨#[]⟩] : Value) = v zf := rfl
theorem storeF_new (W : World) (x y : Fr) : (StoreF ⟨W.heap.size, 0, none⟩ (v y)).run Tryd.prog (W.alloc (.cells (C x) 34)) = .ok () (W.alloc (.cells (C y) 34)) :=
  run_storeVar_new W 34 (C x) (C y) sz rfl (C_ones y)
theorem storeF_zero (W : World) (y : Fr) : (StoreF ⟨W.heap.size, 0, none⟩ (v y)).run Tryd.prog (W.alloc (.cells #[.int .i64 0, .bool false, .bool false, .bool false, .bool false, .bool false, .bool false, .int .i64 0, .int .i64 0, .int .u64 0, .int .u64 0, .int .u64 0, .int .i64 0, .int .i64 0, .int .i64 0, .int .i64 0, .int .i64 0, .string ⟨#[]⟩] 34)) = .ok () (W.alloc (.cells (C y) 34)) := storeF_new W zf y
theorem Box.set0 {W : World} {b : Nat} {x : Fr} (h : Box W b x) (u : Int) : Box (W.setCell ⟨b, 0, none⟩ (.int .i64 u)) b { x with kd := u } := by
  unfold Box at *; simp [World.setCell, Array.getElem?_modify, h]
theorem Box.set1 {W : World} {b : Nat} {x : Fr} (h : Box W b x) (u : Bool) : Box (W.setCell ⟨b, 1, none⟩ (.bool u)) b { x with rt := u } := by
  unfold Box at *; simp [World.setCell, Array.getElem?_modify, h]
theorem Box.set2 {W : World} {b : Nat} {x : Fr} (h : Box W b x) (u : Bool) : Box (W.setCell ⟨b, 2, none⟩ (.bool u)) b { x with mo := u } := by
  unfold Box at *; simp [World.setCell, Array.getElem?_modify, h]
theorem Box.set3 {W : World} {b : Nat} {x : Fr} (h : Box W b x) (u : Bool) : Box (W.setCell ⟨b, 3, none⟩ (.bool u)) b { x with pw := u } := by
  unfold Box at *; simp [World.setCell, Array.getElem?_modify, h]
theorem Box.set4 {W : World} {b : Nat} {x : Fr} (h : Box W b x) (u : Bool) : Box (W.setCell ⟨b, 4, none⟩ (.bool u)) b { x with st := u } := by
  unfold Box at *; simp [World.setCell, Array.getElem?_modify, h]
theorem Box.set5 {W : World} {b : Nat} {x : Fr} (h : Box W b x) (u : Bool) : Box (W.setCell ⟨b, 5, none⟩ (.bool u)) b { x with la := u } := by
  unfold Box at *; simp [World.setCell, Array.getElem?_modify, h]
theorem Box.set6 {W : World} {b : Nat} {x : Fr} (h : Box W b x) (u : Bool) : Box (W.setCell ⟨b, 6, none⟩ (.bool u)) b { x with jo := u } := by
  unfold Box at *; simp [World.setCell, Array.getElem?_modify, h]
theorem Box.set7 {W : World} {b : Nat} {x : Fr} (h : Box W b x) (u : Int) : Box (W.setCell ⟨b, 7, none⟩ (.int .i64 u)) b { x with po := u } := by
  unfold Box at *; simp [World.setCell, Array.getElem?_modify, h]
theorem Box.set8 {W : World} {b : Nat} {x : Fr} (h : Box W b x) (u : Int) : Box (W.setCell ⟨b, 8, none⟩ (.int .i64 u)) b { x with du := u } := by
  unfold Box at *; simp [World.setCell, Array.getElem?_modify, h]
theorem Box.set9 {W : World} {b : Nat} {x : Fr} (h : Box W b x) (u : Int) : Box (W.setCell ⟨b, 9, none⟩ (.int .u64 u)) b { x with ta := u } := by
  unfold Box at *; simp [World.setCell, Array.getElem?_modify, h]
theorem Box.set10 {W : World} {b : Nat} {x : Fr} (h : Box W b x) (u : Int) : Box (W.setCell ⟨b, 10, none⟩ (.int .u64 u)) b { x with fa := u } := by
  unfold Box at *; simp [World.setCell, Array.getElem?_modify, h]
theorem Box.set11 {W : World} {b : Nat} {x : Fr} (h : Box W b x) (u : Int) : Box (W.setCell ⟨b, 11, none⟩ (.int .u64 u)) b { x with th := u } := by
  unfold Box at *; simp [World.setCell, Array.getElem?_modify, h]
theorem Box.set12 {W : World} {b : Nat} {x : Fr} (h : Box W b x) (u : Int) : Box (W.setCell ⟨b, 12, none⟩ (.int .i64 u)) b { x with sq := u } := by
  unfold Box at *; simp [World.setCell, Array.getElem?_modify, h]
theorem Box.set13 {W : World} {b : Nat} {x : Fr} (h : Box W b x) (u : Int) : Box (W.setCell ⟨b, 13, none⟩ (.int .i64 u)) b { x with fg := u } := by
  unfold Box at *; simp [World.setCell, Array.getElem?_modify, h]
theorem Box.set14 {W : World} {b : Nat} {x : Fr} (h : Box W b x) (u : Int) : Box (W.setCell ⟨b, 14, none⟩ (.int .i64 u)) b { x with ct := u } := by
  unfold Box at *; simp [World.setCell, Array.getElem?_modify, h]
theorem Box.set15 {W : World} {b : Nat} {x : Fr} (h : Box W b x) (u : Int) : Box (W.setCell ⟨b, 15, none⟩ (.int .i64 u)) b { x with ky := u } := by
  unfold Box at *; simp [World.setCell, Array.getElem?_modify, h]
theorem Box.set16 {W : World} {b : Nat} {x : Fr} (h : Box W b x) (u : Int) : Box (W.setCell ⟨b, 16, none⟩ (.int .i64 u)) b { x with cn := u } := by
  unfold Box at *; simp [World.setCell, Array.getElem?_modify, h]
theorem Box.set17 {W : World} {b : Nat} {x : Fr} (h : Box W b x) (u : ByteArray) : Box (W.setCell ⟨b, 17, none⟩ (.string u)) b { x with bo := u } := by
  unfold Box at *; simp [World.setCell, Array.getElem?_modify, h]
theorem Box.other {W : World} {b : Nat} {x : Fr} (h : Box W b x) {a : Addr} (ha : b ≠ a.block) (u : Value) : Box (W.setCell a u) b x := (Below.heap_setCell _ _ _ _ ha).trans h
end Go.Proofs.YtacbhbejchjbiaaDoor.Fr_

namespace Go.Proofs.YtacbhbejchjbiaaDoor.Fr_
open Go.ChangeShapes Go.WideShapes Go.RowKit Go.Deep Go.Hd
theorem fold_v (kd : Int) (rt : Bool) (mo : Bool) (pw : Bool) (st : Bool) (la : Bool) (jo : Bool) (po : Int) (du : Int) (ta : Int) (fa : Int) (th : Int) (sq : Int) (fg : Int) (ct : Int) (ky : Int) (cn : Int) (bo : ByteArray) : (.agg #[.int .i64 kd, .bool rt, .bool mo, .bool pw, .bool st, .bool la, .bool jo, .int .i64 po, .int .i64 du, .int .u64 ta, .int .u64 fa, .int .u64 th, .int .i64 sq, .int .i64 fg, .int .i64 ct, .int .i64 ky, .int .i64 cn, .string bo] : Value) = v ⟨kd, rt, mo, pw, st, la, jo, po, du, ta, fa, th, sq, fg, ct, ky, cn, bo⟩ := rfl
theorem Box.storeF {W : World} {b : Nat} {x : Fr} (h : Box W b x) (y : Fr) : (StoreF ⟨b, 0, none⟩ (v y)).run Tryd.prog W = .ok () (W.setRow b (C y)) := run_storeVar_row W b 34 34 (C x) (C y) h sz rfl (C_ones y)
theorem Box.setRow {W : World} {b : Nat} {x : Fr} (h : Box W b x) (y : Fr) : Box (W.setRow b (C y)) b y := by
  unfold Box at *; simp [World.setRow, Array.getElem?_modify, h]; rfl
theorem setRow_other {W : World} {b g : Nat} (h : g ≠ b) (c : Array Value) : (W.setRow b c).heap[g]? = W.heap[g]? := by
  simp only [World.setRow, Array.getElem?_modify]; rw [if_neg (fun e => h e.symm)]
theorem setC0 (x : Fr) (u : Int) : (C x).setIfInBounds 0 (.int .i64 u) = C { x with kd := u } := rfl
theorem setC1 (x : Fr) (u : Bool) : (C x).setIfInBounds 1 (.bool u) = C { x with rt := u } := rfl
theorem setC2 (x : Fr) (u : Bool) : (C x).setIfInBounds 2 (.bool u) = C { x with mo := u } := rfl
theorem setC3 (x : Fr) (u : Bool) : (C x).setIfInBounds 3 (.bool u) = C { x with pw := u } := rfl
theorem setC4 (x : Fr) (u : Bool) : (C x).setIfInBounds 4 (.bool u) = C { x with st := u } := rfl
theorem setC5 (x : Fr) (u : Bool) : (C x).setIfInBounds 5 (.bool u) = C { x with la := u } := rfl
theorem setC6 (x : Fr) (u : Bool) : (C x).setIfInBounds 6 (.bool u) = C { x with jo := u } := rfl
theorem setC7 (x : Fr) (u : Int) : (C x).setIfInBounds 7 (.int .i64 u) = C { x with po := u } := rfl
theorem setC8 (x : Fr) (u : Int) : (C x).setIfInBounds 8 (.int .i64 u) = C { x with du := u } := rfl
theorem setC9 (x : Fr) (u : Int) : (C x).setIfInBounds 9 (.int .u64 u) = C { x with ta := u } := rfl
theorem setC10 (x : Fr) (u : Int) : (C x).setIfInBounds 10 (.int .u64 u) = C { x with fa := u } := rfl
theorem setC11 (x : Fr) (u : Int) : (C x).setIfInBounds 11 (.int .u64 u) = C { x with th := u } := rfl
theorem setC12 (x : Fr) (u : Int) : (C x).setIfInBounds 12 (.int .i64 u) = C { x with sq := u } := rfl
theorem setC13 (x : Fr) (u : Int) : (C x).setIfInBounds 13 (.int .i64 u) = C { x with fg := u } := rfl
theorem setC14 (x : Fr) (u : Int) : (C x).setIfInBounds 14 (.int .i64 u) = C { x with ct := u } := rfl
theorem setC15 (x : Fr) (u : Int) : (C x).setIfInBounds 15 (.int .i64 u) = C { x with ky := u } := rfl
theorem setC16 (x : Fr) (u : Int) : (C x).setIfInBounds 16 (.int .i64 u) = C { x with cn := u } := rfl
theorem setC17 (x : Fr) (u : ByteArray) : (C x).setIfInBounds 17 (.string u) = C { x with bo := u } := rfl
end Go.Proofs.YtacbhbejchjbiaaDoor.Fr_
