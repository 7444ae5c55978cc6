/-
  SLICES OF THE REFERENCE's ENTRIES: a table as the reference has it.
-/
import Derived.Test.YtacjdgglfeemcaaHiEw
import Derived.Test.YtacjdgglfeemcaaHiProg
namespace Go.Proofs.Ytacjdgglfeemcaa
open Go.ChangeShapes Go.WideShapes Go.RowKit Go.Deep Go.Hi
namespace Es_
def e1 (x : Int × Fl) : En := ⟨x.1, x.2⟩
def ec (x : Int × Fl) : List Value := (Ew_.C (e1 x)).toList
theorem ec_len (x : Int × Fl) : (ec x).length = 16 := rfl
def flat (M : Tb) : List Value := M.flatMap ec
theorem flat_len (M : Tb) : (flat M).length = M.length * 16 := by
  unfold flat
  induction M with
  | nil => rfl
  | cons s l ih => rw [List.flatMap_cons, List.length_append, ih, ec_len]; simp; omega
theorem flat_snoc (M : Tb) (x : Int × Fl) : flat (M ++ [x]) = flat M ++ ec x := by
  unfold flat
  rw [List.flatMap_append, List.flatMap_cons, List.flatMap_nil, List.append_nil]
theorem flat_cell (M : Tb) : ∀ (i : Nat) (h : i < M.length) (j : Nat), j < 16 → (flat M)[i * 16 + j]? = (Ew_.C (e1 M[i]))[j]? := by
  induction M with
  | nil => intro i h; cases h
  | cons s l ih =>
    intro i h j hj
    have e : flat (s :: l) = ec s ++ flat l := List.flatMap_cons ..
    rw [e]
    cases i with
    | zero =>
      rw [Nat.zero_mul, Nat.zero_add, List.getElem?_append_left (by rw [ec_len]; exact hj)]
      unfold ec
      rw [Array.getElem?_toList]; rfl
    | succ i =>
      rw [List.getElem?_append_right (by rw [ec_len]; omega), show (i + 1) * 16 + j - (ec s).length = i * 16 + j by rw [ec_len]; omega]
      exact ih i (by simpa using h) j hj
theorem ec_one (x : Int × Fl) : ∀ u ∈ ec x, u.oneCell' = true := by
  intro u hu
  have := Ew_.C_ones (e1 x)
  rw [Array.all_eq_true_iff_forall_mem] at this
  exact this u (by unfold ec at hu; simpa using hu)
def At (W : World) (sa : Option Addr) (M : Tb) : Prop :=
  ∀ i (h : i < M.length), ∃ b off, sa = some ⟨b, off, none⟩ ∧ b < W.heap.size ∧ ∀ j, j < 16 → W.cell? ⟨b, off + i * 16 + j, none⟩ = (Ew_.C (e1 M[i]))[j]?
theorem At.below {W W' : World} {sa : Option Addr} {M : Tb} (h : At W sa M) (hb : Below W.heap.size W W') : At W' sa M := by
  intro i hi
  obtain ⟨b, off, e, hl, h0⟩ := h i hi
  exact ⟨b, off, e, Nat.lt_of_lt_of_le hl hb.size, fun j hj => (hb.cell hl).trans (h0 j hj)⟩
/-- Behind whatever turns another block alone. -/
theorem At.grown {W W' : World} {sa : Option Addr} {M : Tb} {r : Nat} (h : At W sa M) (hg : W.grownBy W' (some r)) (hr : ∀ b off, sa = some ⟨b, off, none⟩ → b ≠ r) : At W' sa M := by
  intro i hi
  obtain ⟨b, off, e, hl, h0⟩ := h i hi
  exact ⟨b, off, e, Nat.lt_of_lt_of_le hl hg.size, fun j hj => (World.cell?_of_block (w := W) (hg.block b hl (fun e' => hr b off e (by cases e'; rfl)))).trans (h0 j hj)⟩
theorem At.nil (W : World) (sa : Option Addr) : At W sa [] := fun i hi => absurd hi (Nat.not_lt_zero i)
theorem at_owns {M : Tb} {base cap : Nat} {v0 : Option Addr} {wr : World} (h : wr.ownsRow base 44 16 (.slice v0 M.length cap) M.length (flat M)) : At wr v0 M := by
  intro i hi
  have h0 := h
  obtain ⟨_, ⟨h1, h2⟩ | ⟨g, cap', cur, h1, hb, hh, hn, hc, hs, ht⟩⟩ := h
  · omega
  · injection h1 with q1 q2 q3
    subst q1
    refine ⟨g, 0, rfl, (Array.getElem?_eq_some_iff.1 hh).1, fun j hj => ?_⟩
    have hx := flat_cell M i hi j hj
    obtain ⟨u, hu⟩ : ∃ u, (Ew_.C (e1 M[i]))[j]? = some u := by
      have hz : j < (Ew_.C (e1 M[i])).size := by rw [Ew_.Csize]; exact hj
      exact ⟨_, Array.getElem?_eq_getElem hz⟩
    rw [hu] at hx
    have c0 := h0.cells (g := g) rfl (i * 16 + j) u hx
    rw [hu, Nat.zero_add]
    have e : (⟨g, 0, none⟩ : Addr).add (i * 16 + j) = ⟨g, i * 16 + j, none⟩ := by unfold Addr.add; split <;> simp_all
    rwa [e] at c0
theorem slice_form {base n size : Nat} {e : TypeId} {u : Value} {wr : World} {xs : List Value} (h : wr.ownsRow base e size u n xs) : ∃ v0 cap, u = .slice v0 n cap := by
  obtain ⟨_, ⟨h1, h2⟩ | ⟨g, cap, cur, h1, _⟩⟩ := h
  · exact ⟨none, 0, by rw [h1, h2]⟩
  · exact ⟨_, _, h1⟩
theorem owns_base {base n size : Nat} {e : TypeId} {c : Nat} {sa : Option Addr} {wr : World} {xs : List Value} (h : wr.ownsRow base e size (.slice sa n c) n xs) : ∀ b off, sa = some ⟨b, off, none⟩ → base ≤ b := by
  intro b off e0
  obtain ⟨_, ⟨h1, h2⟩ | ⟨g, cap, cur, h1, hb, _⟩⟩ := h
  · injection h1 with q1 q2 q3; rw [q1] at e0; cases e0
  · injection h1 with q1 q2 q3; rw [q1] at e0; cases e0; exact hb
theorem info : (Try.prog.info? 44).map (fun i => (i.zero, i.size, i.bytes)) = some (some (Ew_.v ze), 16, 128) := by kernel_rfl
/-- The loads. -/
theorem load {W : World} {b o : Nat} {x : Int × Fl} (h : ∀ j, j < 16 → W.cell? ⟨b, o + j, none⟩ = (Ew_.C (e1 x))[j]?) : (Ew_.LoadF ⟨b, o, none⟩).run Try.prog W = .ok (Ew_.v (e1 x)) W :=
  run_loadVar_mid W b o 44 (ec x) _ (fun j v hv => by
    have hj : j < 16 := by have := (List.getElem?_eq_some_iff.1 hv).1; rwa [ec_len] at this
    rw [h j hj]
    unfold ec at hv
    rwa [Array.getElem?_toList] at hv) Try.underlying44 rfl Ew_.sz
theorem peer {W : World} {b o : Nat} {x : Int × Fl} (h : ∀ j, j < 16 → W.cell? ⟨b, o + j, none⟩ = (Ew_.C (e1 x))[j]?) : W.cell? ⟨b, o, none⟩ = some (.int .u64 x.1) := h 0 (by decide)
theorem last {W : World} {b o : Nat} {x : Int × Fl} (h : ∀ j, j < 16 → W.cell? ⟨b, o + j, none⟩ = (Ew_.C (e1 x))[j]?) (k : Nat) (hk : k < 5) : (Lw_.LoadF ⟨b, o + 1 + k * 3, none⟩).run Try.prog W = .ok (Lw_.v (x.2.get k)) W :=
  run_loadVar_mid W b (o + 1 + k * 3) 23 (Lw_.C (x.2.get k)).toList _ (fun j v hv => by
    have hj : j < 3 := by have := (List.getElem?_eq_some_iff.1 hv).1; simpa [Lw_.C] using this
    rw [show o + 1 + k * 3 + j = o + (1 + k * 3 + j) by omega, h _ (by omega)]
    rw [Array.getElem?_toList] at hv
    rw [← hv]
    match k, hk, j, hj with
    | 0, _, 0, _ | 0, _, 1, _ | 0, _, 2, _ | 1, _, 0, _ | 1, _, 1, _ | 1, _, 2, _ | 2, _, 0, _ | 2, _, 1, _ | 2, _, 2, _ | 3, _, 0, _ | 3, _, 1, _ | 3, _, 2, _ | 4, _, 0, _ | 4, _, 1, _ | 4, _, 2, _ => rfl) Try.underlying23 rfl Lw_.sz
/-- The address of one of the five. -/
theorem ixo0 (B o : Nat) (w : World) : (Instr.indexAt 42 (.pointer (some ⟨B, o, none⟩)) (.int .i64 0)).run Try.prog w = .ok (.pointer (some ⟨B, o + 0 * 3, none⟩)) w := by kernel_rfl
theorem ixo1 (B o : Nat) (w : World) : (Instr.indexAt 42 (.pointer (some ⟨B, o, none⟩)) (.int .i64 1)).run Try.prog w = .ok (.pointer (some ⟨B, o + 1 * 3, none⟩)) w := by kernel_rfl
theorem ixo2 (B o : Nat) (w : World) : (Instr.indexAt 42 (.pointer (some ⟨B, o, none⟩)) (.int .i64 2)).run Try.prog w = .ok (.pointer (some ⟨B, o + 2 * 3, none⟩)) w := by kernel_rfl
theorem ixo3 (B o : Nat) (w : World) : (Instr.indexAt 42 (.pointer (some ⟨B, o, none⟩)) (.int .i64 3)).run Try.prog w = .ok (.pointer (some ⟨B, o + 3 * 3, none⟩)) w := by kernel_rfl
theorem ixo4 (B o : Nat) (w : World) : (Instr.indexAt 42 (.pointer (some ⟨B, o, none⟩)) (.int .i64 4)).run Try.prog w = .ok (.pointer (some ⟨B, o + 4 * 3, none⟩)) w := by kernel_rfl
theorem ixo (B o k : Nat) (hk : k < 5) (w : World) : (Instr.indexAt 42 (.pointer (some ⟨B, o, none⟩)) (.int .i64 (k : Int))).run Try.prog w = .ok (.pointer (some ⟨B, o + k * 3, none⟩)) w := by
  match k, hk with
  | 0, _ => exact ixo0 B o w
  | 1, _ => exact ixo1 B o w
  | 2, _ => exact ixo2 B o w
  | 3, _ => exact ixo3 B o w
  | 4, _ => exact ixo4 B o w
theorem news (W : World) (x : Int × Fl) : ∀ j u, (ec x)[j]? = some u → (W.alloc (.cells (Ew_.C (e1 x)) 44)).cell? ((⟨W.heap.size, 0, none⟩ : Addr).add j) = some u := by
  intro j u hj
  have h := (Ew_.Box.new W (e1 x)).all j
  rw [Addr.add_mid, Nat.zero_add, h, ← Array.getElem?_toList]
  exact hj
/-- A new slice of one entry, a word. -/
noncomputable def BuildE (ps : Array (Nat × Value)) : Sem Value := Instr.buildSlice 36 1 ps
theorem buildE (ps : Array (Nat × Value)) : Instr.buildSlice 36 1 ps = BuildE ps := rfl
theorem build_one (x : En) (W : World) : (BuildE #[(0, Ew_.v x)]).run Try.prog W = .ok (.slice (some ⟨W.heap.size, 0, none⟩) 1 1) (W.alloc (.cells (Ew_.C x) 44)) := by kernel_rfl
/-- An entry built, a word. -/
noncomputable def BuildR (ps : Array (Nat × Value)) : Sem Value := Instr.build 44 ps
theorem buildR (ps : Array (Nat × Value)) : Instr.build 44 ps = BuildR ps := rfl
theorem build_new (p : Int) (W : World) : (BuildR #[(0, .int .u64 p)]).run Try.prog W = .ok (Ew_.v ⟨p, zf⟩) W := by kernel_rfl
/-- What an append leaves. -/
theorem appended {wr w1 : World} {B : Nat} {v v' : Value} {n : Nat} {xs : List Value} {M : Tb} {x : Int × Fl} {o : Obj} (hown : wr.ownsRow B 44 16 v n xs) (hn : n = M.length) (hx : xs = flat M) (hB : B ≤ wr.heap.size)
    (h : w1.ownsRow B 44 16 v' (n + 1) (xs ++ ec x)) (hg : (wr.alloc o).grownBy w1 v.ownBlock) :
    w1.ownsRow B 44 16 v' (M ++ [x]).length (flat (M ++ [x])) ∧ Below B wr w1 := by
  refine ⟨?_, ((Below.refl _ _).alloc hB o).grown hg (by simp; omega) (fun j hj => (hown.lt j hj).1)⟩
  rw [flat_snoc, List.length_append, ← hn, ← hx]
  exact h
theorem owns_mono {w : World} {B B' size n : Nat} {e : TypeId} {v : Value} {xs : List Value} (h : w.ownsRow B e size v n xs) (hB : B' ≤ B) : w.ownsRow B' e size v n xs := by
  obtain ⟨h0, ⟨h1, h2⟩ | ⟨g, cap, cur, h1, hb, h3⟩⟩ := h
  · exact ⟨h0, .inl ⟨h1, h2⟩⟩
  · exact ⟨h0, .inr ⟨g, cap, cur, h1, Nat.le_trans hB hb, h3⟩⟩
/-- A row of another block stays while a cell of a block below it is written. -/
theorem owns_row {w w' : World} {B r size n : Nat} {e : TypeId} {v : Value} {xs : List Value} (h : w.ownsRow B e size v n xs) (hr : r < B) (hk : ∀ k, k ≠ r → w'.heap[k]? = w.heap[k]?) : w'.ownsRow B e size v n xs := by
  obtain ⟨h0, ⟨h1, h2⟩ | ⟨g, cap, cur, h1, hb, hh, h3⟩⟩ := h
  · exact ⟨h0, .inl ⟨h1, h2⟩⟩
  · exact ⟨h0, .inr ⟨g, cap, cur, h1, hb, (hk g (by omega)).trans hh, h3⟩⟩
/-- A store of one of the five. -/
def setE (W : World) (b k : Nat) (x : La) : World := W.setCells b (1 + k * 3) (Lw_.C x).toList
theorem store {W : World} {b : Nat} {en : En} (h : Ew_.Box W b en) (k : Nat) (hk : k < 5) (x : La) : (Lw_.StoreF ⟨b, 1 + k * 3, none⟩ (Lw_.v x)).run Try.prog W = .ok () (setE W b k x) :=
  run_storeVar_mid W b (1 + k * 3) 23 (Lw_.C x) (fun j hj => by
    have hj' : j < 3 := hj
    refine ⟨?_, h.frozen _⟩
    rw [h.all (1 + k * 3 + j)]
    have : 1 + k * 3 + j < (Ew_.C en).size := by rw [Ew_.Csize]; omega
    rw [Array.getElem?_eq_getElem this]; rfl) Lw_.sz (by simp [Lw_.C, Value.oneCell'])
theorem stored {W : World} {b : Nat} {p : Int} {F : Fl} (h : Ew_.Box W b ⟨p, F⟩) (k : Nat) (hk : k < 5) (x : La) : Ew_.Box (setE W b k x) b ⟨p, F.set k x⟩ := by
  match k, hk with
  | 0, _ => exact ((h.set1 x.v).set2 x.q).set3 x.f
  | 1, _ => exact ((h.set4 x.v).set5 x.q).set6 x.f
  | 2, _ => exact ((h.set7 x.v).set8 x.q).set9 x.f
  | 3, _ => exact ((h.set10 x.v).set11 x.q).set12 x.f
  | 4, _ => exact ((h.set13 x.v).set14 x.q).set15 x.f
theorem setE_size (W : World) (b k : Nat) (x : La) : (setE W b k x).heap.size = W.heap.size := by
  show (((W.setCell _ _).setCell _ _).setCell _ _).heap.size = _
  simp [World.setCell]
theorem setE_other (W : World) (b k : Nat) (x : La) (g : Nat) (hg : g ≠ b) : (setE W b k x).heap[g]? = W.heap[g]? := by
  show (((W.setCell ⟨b, _, none⟩ _).setCell ⟨b, _, none⟩ _).setCell ⟨b, _, none⟩ _).heap[g]? = _
  rw [Below.heap_setCell _ _ _ _ hg, Below.heap_setCell _ _ _ _ hg, Below.heap_setCell _ _ _ _ hg]
theorem setE_below {W w : World} {b B : Nat} (hb : Below B w W) (h : B ≤ b) (k : Nat) (x : La) : Below B w (setE W b k x) :=
  ((hb.setCell (p := ⟨b, 1 + k * 3, none⟩) h (.bool x.v)).setCell (p := ⟨b, 1 + k * 3 + 1, none⟩) h (.int .i64 x.q)).setCell (p := ⟨b, 1 + k * 3 + 1 + 1, none⟩) h (.int .i64 x.f)
end Es_
end Go.Proofs.Ytacjdgglfeemcaa
