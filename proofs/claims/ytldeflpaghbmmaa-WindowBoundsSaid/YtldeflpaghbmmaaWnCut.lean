/-
  A slice of packets cut at a place.
-/
import Derived.Test.YtldeflpaghbmmaaWnSn
namespace Go.Proofs.Ytldeflpaghbmmaa
open Go.RowKit Go.Wn

def cut22 (sa : Option Addr) (k c : Nat) : Option Addr := sa.map (fun a => if c = k then a else a.add (k * 5))
set_option maxRecDepth 100000 in
theorem head22 (sa : Option Addr) (n c k : Nat) (hk : k ≤ c) (h0 : sa = none → c = 0) (W : World) : (Instr.slice 22 (.slice sa n c) none (some (.int .i64 (k : Int))) none).run Try.prog W = .ok (.slice sa k c) W := by
  have h1 : (sizeOf (Try.prog.elem 22)).run Try.prog W = .ok 5 W := by kernel_rfl
  rw [run_slice_h W 22 sa n c (by kernel_rfl) .i64 (k : Int) (by omega) (by omega), h1]
  simp only [Result.andThen, sliced, Int.toNat_natCast, Nat.zero_mul, Nat.sub_zero]
  cases sa with
  | none => have := h0 rfl; subst this; simp
  | some a =>
    have ea : a.add 0 = a := by unfold Addr.add; rfl
    simp [ea]
set_option maxRecDepth 100000 in
theorem tail22 (sa : Option Addr) (n c k : Nat) (hk : k ≤ n) (h0 : sa = none → c = 0) (hn : n ≤ c) (W : World) : (Instr.slice 22 (.slice sa n c) (some (.int .i64 (k : Int))) none none).run Try.prog W = .ok (.slice (cut22 sa k c) (n - k) (c - k)) W := by
  have h1 : (sizeOf (Try.prog.elem 22)).run Try.prog W = .ok 5 W := by kernel_rfl
  rw [run_slice_l W 22 sa n c (by kernel_rfl) .i64 (k : Int) (by omega) (by omega), h1]
  simp only [Result.andThen, sliced, Int.toNat_natCast, cut22]
  cases sa with
  | none =>
    have := h0 rfl
    subst this
    obtain rfl : n = 0 := by omega
    obtain rfl : k = 0 := by omega
    simp
  | some a =>
    simp only [Option.map_some]
    congr 3
    split <;> rfl
theorem sl_take22 {W : World} {sa : Option Addr} {l : List Sn} {c : Nat} (h : Sn_.Sl W sa l c) (k : Nat) : Sn_.Sl W sa (l.take k) c := by
  refine ⟨fun i hi => ?_, by have := h.le; rw [List.length_take]; omega, h.nil⟩
  rw [List.length_take] at hi
  obtain ⟨b, off, e, hl, h0, h1, h2, h3, h4⟩ := h.lies i (by omega)
  exact ⟨b, off, e, hl, by rw [List.getElem_take]; exact h0, by rw [List.getElem_take]; exact h1, by rw [List.getElem_take]; exact h2, by rw [List.getElem_take]; exact h3, by rw [List.getElem_take]; exact h4⟩
theorem sl_drop22 {W : World} {sa : Option Addr} {l : List Sn} {c : Nat} (h : Sn_.Sl W sa l c) (k : Nat) (hk : k ≤ l.length) : Sn_.Sl W (cut22 sa k c) (l.drop k) (c - k) := by
  have hle := h.le
  refine ⟨fun i hi => ?_, by rw [List.length_drop]; omega, fun e => ?_⟩
  · rw [List.length_drop] at hi
    obtain ⟨b, off, e, hl, h0, h1, h2, h3, h4⟩ := h.lies (k + i) (by omega)
    subst e
    refine ⟨b, off + k * 5, ?_, hl, ?_, ?_, ?_, ?_, ?_⟩
    · unfold cut22
      rw [Option.map_some, if_neg (by omega), Addr.add_lit]
    · rw [List.getElem_drop, show off + k * 5 + i * 5 = off + (k + i) * 5 by omega]; exact h0
    · rw [List.getElem_drop, show off + k * 5 + i * 5 + 1 = off + (k + i) * 5 + 1 by omega]; exact h1
    · rw [List.getElem_drop, show off + k * 5 + i * 5 + 2 = off + (k + i) * 5 + 2 by omega]; exact h2
    · rw [List.getElem_drop, show off + k * 5 + i * 5 + 3 = off + (k + i) * 5 + 3 by omega]; exact h3
    · rw [List.getElem_drop, show off + k * 5 + i * 5 + 4 = off + (k + i) * 5 + 4 by omega]; exact h4
  · have : sa = none := by
      unfold cut22 at e
      cases sa with
      | none => rfl
      | some a => cases e
    have := h.nil this
    omega
end Go.Proofs.Ytldeflpaghbmmaa
