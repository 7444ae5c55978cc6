/-
  FOR THE LAW BundleFits: zeros made and converted, a row whose last packet's data are stored into.
-/
import Derived.Test.YtlkipjpjkiffjaaBuLives
import Derived.Test.YtlkipjpjkiffjaaAppStep
import Derived.Test.YtlkipjpjkiffjaaObv
import Derived.Deep.RegionHeld3
namespace Go.Proofs.Ytlkipjpjkiffjaa
open Go.RowKit Go.Bu Go.Wr Go.Ad Pk_

theorem made_zeros (m : Nat) : (madeCells (Value.int .u8 0).cells (m * 1)).toList = obv (zs m) := by
  unfold madeCells obv zs
  apply List.ext_getElem
  · simp
  · intro i h1 h2
    simp [Value.cells, Nat.mod_one]
theorem mk_zeros (w : World) (m : Nat) (hm : m ≤ 1024) : ∃ w', (Instr.makeSlice 40 (.int .i64 (m : Int)) (.int .i64 (m : Int))).run Try.prog w = .ok (.slice (some ⟨w.heap.size, 0, none⟩) m m) w' ∧
    (convert 40 9 (.slice (some ⟨w.heap.size, 0, none⟩) m m)).run Try.prog w' = .ok (.string (yz (zs m))) w' ∧ w.grownBy w' none := by
  obtain ⟨i0, hi, hz0, hz1, hz2⟩ := info_parts infoOctet
  obtain ⟨w', h1, h2, h3⟩ := run_make_full (P := Try.prog) w w.heap.size 40 5 i0 (.int .u8 0) 1 Try.underlying40 hi hz0 hz1 .i64 .i64 m (by rw [hz2]; omega) (by unfold maxLen; omega) (Nat.le_refl _)
  refine ⟨w', h1, ?_, h3⟩
  rw [made_zeros] at h2
  have e := zs_len m
  have h4 : w'.ownsRow w.heap.size 5 1 (.slice (some ⟨w.heap.size, 0, none⟩) (zs m).length m) (zs m).length (obv (zs m)) := by rw [e]; exact h2
  have h5 := obv_conv h4
  rw [e] at h5
  exact h5
theorem Oc.grown {w wi w' : World} {g : Nat} {p : Pk} {row : Option Nat} (h : Oc w g p wi) (hg : wi.grownBy w' row) (hr : ∀ j, row = some j → w.heap.size ≤ j ∧ j ≠ g) : Oc w g p w' :=
  ⟨(hg.block g h.box.lt (fun e => (hr g e.symm).2 rfl)).trans h.box, Below.grown h.bel hg h.bel.size (fun j hj => (hr j hj).1)⟩
theorem own_form {base n size : Nat} {e : TypeId} {v : Value} {wr : World} {xs : List Value} (h : wr.ownsRow base e size v (n + 1) xs) : ∃ g cap, v = .slice (some ⟨g, 0, none⟩) (n + 1) cap ∧ base ≤ g := by
  obtain ⟨h0, ⟨h1, h2⟩ | ⟨g, cap, cur, h1, h2, hh, h3⟩⟩ := h
  · exact absurd h2 (Nat.succ_ne_zero n)
  · exact ⟨g, cap, h1, h2⟩
theorem flat_last (l : List Pk) (q : Pk) (d : ByteArray) : (Pk_.flat (l ++ [q])).set (l.length * 3 + 2) (.string d) = Pk_.flat (l ++ [⟨q.to, q.fr, d⟩]) := by
  rw [flat_append, flat_append, List.set_append_right _ _ (by rw [flat_len]; omega), flat_len]
  rw [show l.length * 3 + 2 - l.length * 3 = 2 by omega]
  rfl
/-- The cell of the data of the last packet, and that it may be written. -/
theorem last_cell {W : World} {base cap g : Nat} {l : List Pk} {q : Pk} (h : W.ownsRow base 30 3 (.slice (some ⟨g, 0, none⟩) (l.length + 1) cap) (l.length + 1) (Pk_.flat (l ++ [q]))) :
    W.cell? ⟨g, l.length * 3 + 2, none⟩ = some (.string q.s) ∧ W.frozen? ⟨g, l.length * 3 + 2, none⟩ = false := by
  refine ⟨?_, h.frozenAt _⟩
  have hc := flat_cell (l ++ [q]) l.length (by simp) 2 (by decide)
  have := h.cells (g := g) rfl (l.length * 3 + 2) (.string q.s) (by rw [hc]; simp [cs])
  have e : (⟨g, 0, none⟩ : Addr).add (l.length * 3 + 2) = ⟨g, l.length * 3 + 2, none⟩ := by unfold Addr.add; split <;> simp_all
  rwa [e] at this
theorem at_last {W : World} {base cap g : Nat} {l : List Pk} {q : Pk} (h : W.ownsRow base 30 3 (.slice (some ⟨g, 0, none⟩) (l.length + 1) cap) (l.length + 1) (Pk_.flat (l ++ [q]))) : At W (some ⟨g, 0, none⟩) (l ++ [q]) := by
  have e : (l ++ [q]).length = l.length + 1 := by simp
  rw [← e] at h
  exact at_owns h
theorem enc_last {l : List Pk} (q : Pk) (hz : sz (l ++ [q])) (W : World) (base cap g : Nat) (h : W.ownsRow base 30 3 (.slice (some ⟨g, 0, none⟩) (l.length + 1) cap) (l.length + 1) (Pk_.flat (l ++ [q]))) :
    Calls Try.prog 12 #[.slice (some ⟨g, 0, none⟩) (l.length + 1) cap] W fun e w' => e = .returned (.tuple #[.string (encS (l ++ [q])), .int .i64 (encE (l ++ [q]))]) ∧ Below W.heap.size W w' := by
  have := buEncode_any (l ++ [q]) (some ⟨g, 0, none⟩) cap W (at_last h) hz
  rw [show (l ++ [q]).length = l.length + 1 by simp] at this
  exact this
end Go.Proofs.Ytlkipjpjkiffjaa
