/-
  A slice of packets cut at a place.
-/
import Derived.Test.YtaljdjabppiglaaQuIt
namespace Go.Proofs.Ytaljdjabppiglaa
open Go.RowKit Go.Qu

def cut23 (sa : Option Addr) (k c : Nat) : Option Addr := sa.map (fun a => if c = k then a else a.add (k * 7))
set_option maxRecDepth 100000 in
theorem head23 (sa : Option Addr) (n c k : Nat) (hk : k ≤ c) (h0 : sa = none → c = 0) (W : World) : (Instr.slice 24 (.slice sa n c) none (some (.int .i64 (k : Int))) none).run Try.prog W = .ok (.slice sa k c) W := by
  have h1 : (sizeOf (Try.prog.elem 24)).run Try.prog W = .ok 7 W := by kernel_rfl
  rw [run_slice_h W 24 sa n c (by kernel_rfl) .i64 (k : Int) (by omega) (by omega), h1]
  simp only [Result.andThen, sliced, Int.toNat_natCast, Nat.zero_mul, Nat.sub_zero]
  cases sa with
  | none => have := h0 rfl; subst this; simp
  | some a =>
    have ea : a.add 0 = a := by unfold Addr.add; rfl
    simp [ea]
set_option maxRecDepth 100000 in
theorem tail23 (sa : Option Addr) (n c k : Nat) (hk : k ≤ n) (h0 : sa = none → c = 0) (hn : n ≤ c) (W : World) : (Instr.slice 24 (.slice sa n c) (some (.int .i64 (k : Int))) none none).run Try.prog W = .ok (.slice (cut23 sa k c) (n - k) (c - k)) W := by
  have h1 : (sizeOf (Try.prog.elem 24)).run Try.prog W = .ok 7 W := by kernel_rfl
  rw [run_slice_l W 24 sa n c (by kernel_rfl) .i64 (k : Int) (by omega) (by omega), h1]
  simp only [Result.andThen, sliced, Int.toNat_natCast, cut23]
  cases sa with
  | none =>
    have := h0 rfl
    subst this
    obtain rfl : n = 0 := by omega
    obtain rfl : k = 0 := by omega
    simp
  | some a =>
    simp only [Option.map_some]
    congr 3
    split <;> rfl
theorem sl_take23 {W : World} {sa : Option Addr} {l : List It} {c : Nat} (h : It_.Sl W sa l c) (k : Nat) : It_.Sl W sa (l.take k) c := by
  refine ⟨fun i hi => ?_, by have := h.le; rw [List.length_take]; omega, h.nil⟩
  rw [List.length_take] at hi
  obtain ⟨b, off, e, hl, h0, h1, h2, h3, h4, h5, h6⟩ := h.lies i (by omega)
  exact ⟨b, off, e, hl, by rw [List.getElem_take]; exact h0, by rw [List.getElem_take]; exact h1, by rw [List.getElem_take]; exact h2, by rw [List.getElem_take]; exact h3, by rw [List.getElem_take]; exact h4, by rw [List.getElem_take]; exact h5, by rw [List.getElem_take]; exact h6⟩
theorem sl_drop23 {W : World} {sa : Option Addr} {l : List It} {c : Nat} (h : It_.Sl W sa l c) (k : Nat) (hk : k ≤ l.length) : It_.Sl W (cut23 sa k c) (l.drop k) (c - k) := by
  have hle := h.le
  refine ⟨fun i hi => ?_, by rw [List.length_drop]; omega, fun e => ?_⟩
  · rw [List.length_drop] at hi
    obtain ⟨b, off, e, hl, h0, h1, h2, h3, h4, h5, h6⟩ := h.lies (k + i) (by omega)
    subst e
    refine ⟨b, off + k * 7, ?_, hl, ?_, ?_, ?_, ?_, ?_, ?_, ?_⟩
    · unfold cut23
      rw [Option.map_some, if_neg (by omega), Addr.add_lit]
    · rw [List.getElem_drop, show off + k * 7 + i * 7 = off + (k + i) * 7 by omega]; exact h0
    · rw [List.getElem_drop, show off + k * 7 + i * 7 + 1 = off + (k + i) * 7 + 1 by omega]; exact h1
    · rw [List.getElem_drop, show off + k * 7 + i * 7 + 2 = off + (k + i) * 7 + 2 by omega]; exact h2
    · rw [List.getElem_drop, show off + k * 7 + i * 7 + 3 = off + (k + i) * 7 + 3 by omega]; exact h3
    · rw [List.getElem_drop, show off + k * 7 + i * 7 + 4 = off + (k + i) * 7 + 4 by omega]; exact h4
    · rw [List.getElem_drop, show off + k * 7 + i * 7 + 5 = off + (k + i) * 7 + 5 by omega]; exact h5
    · rw [List.getElem_drop, show off + k * 7 + i * 7 + 6 = off + (k + i) * 7 + 6 by omega]; exact h6
  · have : sa = none := by
      unfold cut23 at e
      cases sa with
      | none => rfl
      | some a => cases e
    have := h.nil this
    omega
end Go.Proofs.Ytaljdjabppiglaa
