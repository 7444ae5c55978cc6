/-
  Slices of plain values (strings, integers): they lie behind an address; what is owned; how an argument is opened (written by gen_plain.py).
-/
import Derived.Test.YtaljdjabppiglaaRows
import Derived.Test.YtaljdjabppiglaaQuMath
import Derived.OpenShut
import Derived.ProofKit
import Derived.SizedLaws
import Derived.Deep.Slices
import Derived.Deep.OwnRows
import Derived.Below
import Derived.WalkKit
namespace Go.Proofs.Ytaljdjabppiglaa.Us_
open Go.ChangeShapes Go.WideShapes Go.RowKit Go.Deep

def At (W : World) (sa : Option Addr) (l : List Int) : Prop :=
  ∀ i (h : i < l.length), ∃ b off, sa = some ⟨b, off, none⟩ ∧ b < W.heap.size ∧ W.cell? ⟨b, off + i, none⟩ = some (.int .u64 l[i])
theorem At.below {W W' : World} {sa : Option Addr} {l : List Int} (h : At W sa l) (hb : Below W.heap.size W W') : At W' sa l := by
  intro i hi
  obtain ⟨b, off, e, hl, h0⟩ := h i hi
  exact ⟨b, off, e, Nat.lt_of_lt_of_le hl hb.size, (hb.cell hl).trans h0⟩
theorem At.block {W W' : World} {sa : Option Addr} {l : List Int} (h : At W sa l) (hs : W.heap.size ≤ W'.heap.size) (hb : ∀ b off, sa = some ⟨b, off, none⟩ → W'.heap[b]? = W.heap[b]?) : At W' sa l := by
  intro i hi
  obtain ⟨b, off, e, hl, h0⟩ := h i hi
  exact ⟨b, off, e, Nat.lt_of_lt_of_le hl hs, (World.cell?_of_block (w := W) (hb b off e)).trans h0⟩
theorem At.drew {W : World} {sa : Option Addr} {l : List Int} (h : At W sa l) : At W.drew sa l := h
theorem At.nil (W : World) (sa : Option Addr) : At W sa [] := fun i hi => absurd hi (Nat.not_lt_zero i)
theorem At.take {W : World} {sa : Option Addr} {l : List Int} (h : At W sa l) (k : Nat) : At W sa (l.take k) := by
  intro i hi
  rw [List.length_take] at hi
  obtain ⟨b, off, e, hl, h0⟩ := h i (by omega)
  exact ⟨b, off, e, hl, by rw [List.getElem_take]; exact h0⟩
structure Sl (W : World) (sa : Option Addr) (l : List Int) (c : Nat) : Prop where
  lies : At W sa l
  le : l.length ≤ c
  nil : sa = none → c = 0
theorem Sl.below {W W' : World} {sa : Option Addr} {l : List Int} {c : Nat} (h : Sl W sa l c) (hb : Below W.heap.size W W') : Sl W' sa l c := ⟨h.lies.below hb, h.le, h.nil⟩
theorem Sl.drew {W : World} {sa : Option Addr} {l : List Int} {c : Nat} (h : Sl W sa l c) : Sl W.drew sa l c := ⟨h.lies.drew, h.le, h.nil⟩
theorem Sl.none (W : World) : Sl W Option.none ([] : List Int) 0 := ⟨At.nil _ _, Nat.le_refl _, fun _ => rfl⟩
/-- As values. -/
def vs (l : List Int) : List Value := l.map (Value.int .u64)
theorem vs_len (l : List Int) : (vs l).length = l.length := List.length_map ..
theorem vs_get (l : List Int) (i : Nat) (h : i < l.length) : (vs l)[i]? = some (.int .u64 l[i]) := by unfold vs; simp [h]
theorem vs_snoc (l : List Int) (x : Int) : vs (l ++ [x]) = vs l ++ [.int .u64 x] := by unfold vs; rw [List.map_append]; rfl
theorem info : (Try.prog.info? 26).map (fun i => (i.zero, i.size, i.bytes)) = some (some (.int .u64 0), 1, 8) := by kernel_rfl
theorem at_owns {l : List Int} {base cap : Nat} {v0 : Option Addr} {wr : World} (h : wr.ownsRow base 26 1 (.slice v0 l.length cap) l.length (vs l)) : At wr v0 l := by
  intro i hi
  have h0 := h
  obtain ⟨_, ⟨h1, h2⟩ | ⟨g, cap', cur, h1, hb, hh, hn, hc, hs, ht⟩⟩ := h
  · omega
  · injection h1 with e1 e2 e3
    subst e1
    have e : ∀ j : Nat, (⟨g, 0, none⟩ : Addr).add j = ⟨g, j, none⟩ := fun j => by unfold Addr.add; split <;> simp_all
    have c0 := h0.cells (g := g) rfl i _ (vs_get l i hi)
    rw [e] at c0
    exact ⟨g, 0, rfl, (Array.getElem?_eq_some_iff.1 hh).1, by rw [Nat.zero_add]; exact c0⟩
theorem sl_owns {l : List Int} {base cap : Nat} {v0 : Option Addr} {wr : World} (h : wr.ownsRow base 26 1 (.slice v0 l.length cap) l.length (vs l)) : Sl wr v0 l cap := by
  refine ⟨at_owns h, ?_, ?_⟩
  · obtain ⟨_, ⟨h1, h2⟩ | ⟨g, cap', cur, h1, hb, hh, hn, -⟩⟩ := h
    · omega
    · injection h1 with e1 e2 e3; omega
  · rintro rfl
    obtain ⟨_, ⟨h1, h2⟩ | ⟨g, cap', cur, h1, -⟩⟩ := h
    · injection h1 with e1 e2 e3
    · injection h1 with e1 e2 e3; exact absurd e1 (by simp)
theorem slice_form {base n size : Nat} {e : TypeId} {u : Value} {wr : World} {xs : List Value} (h : wr.ownsRow base e size u n xs) : ∃ v0 cap, u = .slice v0 n cap := by
  obtain ⟨_, ⟨h1, h2⟩ | ⟨g, cap, cur, h1, _⟩⟩ := h
  · exact ⟨none, 0, by rw [h1, h2]⟩
  · exact ⟨_, _, h1⟩
theorem owns_lit (w : World) (l : List Int) {base : Nat} (hb : base ≤ w.heap.size) (hl : l.length ≤ maxLen) : (w.alloc (.cells (vs l).toArray 26)).ownsRow base 26 1 (.slice (some ⟨w.heap.size, 0, none⟩) l.length l.length) l.length (vs l) := by
  have := World.ownsRow_lit (e := 26) (size := 1) w (vs l).toArray l.length hb hl (by rw [List.size_toArray, vs_len, Nat.mul_one])
  exact this
theorem sl_lit (w : World) (l : List Int) (hl : l.length ≤ maxLen) : Sl (w.alloc (.cells (vs l).toArray 26)) (some ⟨w.heap.size, 0, none⟩) l l.length := sl_owns (owns_lit w l (base := 0) (Nat.zero_le _) hl)
theorem cellsOf1 : Try.prog.cellsOf 26 = 1 := by kernel_rfl
section opening
variable {H : Type} {enc : TypeId × Value → H} {W : World} {b0 : Nat} {sp : Nat → Bool} {held : Bool}
theorem open_all {u : Value} {d : DataW H} {ps : List MemPlace} (hv : Value.okWide Try.prog W .any b0 45 u) (hd : DataW.Trod enc Try.prog W 0 sp held 45 u d ps) :
    ∃ (sa : Option Addr) (l : List Int) (c : Nat), u = .slice sa l.length c ∧ Sl W sa l c ∧ l.length ≤ maxLen ∧ ∀ x ∈ l, (Lit.int .u64 x).wf = true := by
  obtain ⟨sa, len, c, rfl⟩ := okWide_slice Try.underlying45 hv
  obtain ⟨fuel, hf⟩ := hd
  rcases open_slice1 Try.underlying45 cellsOf1 hf with ⟨hcs, -⟩ | ⟨a, len', cap, m, n, V, D, Pl, hcs, -, hl, hml, hm, hdx, hel⟩
  · simp [Value.cells] at hcs
    obtain ⟨rfl, rfl, rfl⟩ := hcs
    exact ⟨none, [], 0, rfl, Sl.none _, Nat.zero_le _, fun x hx => absurd hx List.not_mem_nil⟩
  · simp [Value.cells] at hcs
    obtain ⟨rfl, rfl, rfl⟩ := hcs
    have hle : len ≤ m := by rw [hm]; split <;> omega
    have key : ∀ i, i < len → ∃ x : Int, ∃ b off, a = ⟨b, off, none⟩ ∧ b < W.heap.size ∧ W.cell? ⟨b, off + i, none⟩ = some (.int .u64 x) ∧ (Lit.int .u64 x).wf = true := by
      intro i hi
      obtain ⟨g0, t0⟩ := hel i (by omega)
      obtain ⟨gz, tz⟩ := hel 0 (by omega)
      obtain ⟨x, hx, -, hw⟩ := DataW.trod_int Try.underlying26 t0
      obtain ⟨x0, hx0, -, -⟩ := DataW.trod_int Try.underlying26 tz
      simp at hx hx0
      rw [hx] at g0
      rw [hx0] at gz
      obtain ⟨b, off, spot⟩ := a
      have hspot : spot = none := World.cell?_spot (a := ⟨b, off, spot⟩) (v := .int .u64 x0) (by simpa [Addr.add] using gz)
      subst hspot
      rw [Addr.add_lit] at g0
      exact ⟨x, b, off, rfl, World.block_lt_of_cell? _ _ g0, g0, hw⟩
    obtain ⟨O, hO⟩ := choose_lt (α := Int) (n := len) (p := fun i x => ∃ b off, a = ⟨b, off, none⟩ ∧ b < W.heap.size ∧ W.cell? ⟨b, off + i, none⟩ = some (.int .u64 x) ∧ (Lit.int .u64 x).wf = true) key
    refine ⟨some a, (List.range len).map O, c, by simp, ⟨fun i hi => ?_, by rw [List.length_map, List.length_range]; omega, fun h => absurd h (by simp)⟩, by rw [List.length_map, List.length_range]; omega, fun x hx => ?_⟩
    · have hi' : i < len := by simpa using hi
      obtain ⟨b, off, ha, hlt, q0, -⟩ := hO i hi'
      refine ⟨b, off, by rw [ha], ?_⟩
      simpa using And.intro hlt q0
    · obtain ⟨i, hi, rfl⟩ := List.mem_map.1 hx
      obtain ⟨b, off, -, -, -, hw⟩ := hO i (List.mem_range.1 hi)
      exact hw
end opening
end Go.Proofs.Ytaljdjabppiglaa.Us_
