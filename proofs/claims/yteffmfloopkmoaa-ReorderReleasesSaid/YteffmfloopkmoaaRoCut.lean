/-
  A slice of packets cut at a place.
-/
import Derived.Test.YteffmfloopkmoaaRoHd
namespace Go.Proofs.Yteffmfloopkmoaa
open Go.RowKit Go.Ro

def cut20 (sa : Option Addr) (k c : Nat) : Option Addr := sa.map (fun a => if c = k then a else a.add (k * 2))
set_option maxRecDepth 100000 in
theorem head20 (sa : Option Addr) (n c k : Nat) (hk : k ≤ c) (h0 : sa = none → c = 0) (W : World) : (Instr.slice 23 (.slice sa n c) none (some (.int .i64 (k : Int))) none).run Try.prog W = .ok (.slice sa k c) W := by
  have h1 : (sizeOf (Try.prog.elem 23)).run Try.prog W = .ok 2 W := by kernel_rfl
  rw [run_slice_h W 23 sa n c (by kernel_rfl) .i64 (k : Int) (by omega) (by omega), h1]
  simp only [Result.andThen, sliced, Int.toNat_natCast, Nat.zero_mul, Nat.sub_zero]
  cases sa with
  | none => have := h0 rfl; subst this; simp
  | some a =>
    have ea : a.add 0 = a := by unfold Addr.add; rfl
    simp [ea]
set_option maxRecDepth 100000 in
theorem tail20 (sa : Option Addr) (n c k : Nat) (hk : k ≤ n) (h0 : sa = none → c = 0) (hn : n ≤ c) (W : World) : (Instr.slice 23 (.slice sa n c) (some (.int .i64 (k : Int))) none none).run Try.prog W = .ok (.slice (cut20 sa k c) (n - k) (c - k)) W := by
  have h1 : (sizeOf (Try.prog.elem 23)).run Try.prog W = .ok 2 W := by kernel_rfl
  rw [run_slice_l W 23 sa n c (by kernel_rfl) .i64 (k : Int) (by omega) (by omega), h1]
  simp only [Result.andThen, sliced, Int.toNat_natCast, cut20]
  cases sa with
  | none =>
    have := h0 rfl
    subst this
    obtain rfl : n = 0 := by omega
    obtain rfl : k = 0 := by omega
    simp
  | some a =>
    simp only [Option.map_some]
    congr 3
    split <;> rfl
theorem sl_take20 {W : World} {sa : Option Addr} {l : List Hd} {c : Nat} (h : Hd_.Sl W sa l c) (k : Nat) : Hd_.Sl W sa (l.take k) c := by
  refine ⟨fun i hi => ?_, by have := h.le; rw [List.length_take]; omega, h.nil⟩
  rw [List.length_take] at hi
  obtain ⟨b, off, e, hl, h0, h1⟩ := h.lies i (by omega)
  exact ⟨b, off, e, hl, by rw [List.getElem_take]; exact h0, by rw [List.getElem_take]; exact h1⟩
theorem sl_drop20 {W : World} {sa : Option Addr} {l : List Hd} {c : Nat} (h : Hd_.Sl W sa l c) (k : Nat) (hk : k ≤ l.length) : Hd_.Sl W (cut20 sa k c) (l.drop k) (c - k) := by
  have hle := h.le
  refine ⟨fun i hi => ?_, by rw [List.length_drop]; omega, fun e => ?_⟩
  · rw [List.length_drop] at hi
    obtain ⟨b, off, e, hl, h0, h1⟩ := h.lies (k + i) (by omega)
    subst e
    refine ⟨b, off + k * 2, ?_, hl, ?_, ?_⟩
    · unfold cut20
      rw [Option.map_some, if_neg (by omega), Addr.add_lit]
    · rw [List.getElem_drop, show off + k * 2 + i * 2 = off + (k + i) * 2 by omega]; exact h0
    · rw [List.getElem_drop, show off + k * 2 + i * 2 + 1 = off + (k + i) * 2 + 1 by omega]; exact h1
  · have : sa = none := by
      unfold cut20 at e
      cases sa with
      | none => rfl
      | some a => cases e
    have := h.nil this
    omega
end Go.Proofs.Yteffmfloopkmoaa
