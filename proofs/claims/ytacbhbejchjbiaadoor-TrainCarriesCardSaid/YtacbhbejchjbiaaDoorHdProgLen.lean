/-
  WALKS of the landed package header (8c902e7): Length.
-/
import Derived.Test.YtacbhbejchjbiaaDoorHdContra
import Derived.Test.YtacbhbejchjbiaaDoorHdFrame
namespace Go.Proofs.YtacbhbejchjbiaaDoor
open Go.RowKit Go.Hd
attribute [local go_sem ↓ high] Fr_.loadF Fr_.storeF Fr_.v_cells Fr_.v_match
attribute [local go_sem] Fr_.C0 Fr_.C1 Fr_.C2 Fr_.C3 Fr_.C4 Fr_.C5 Fr_.C6 Fr_.C7 Fr_.C8 Fr_.C9 Fr_.C10 Fr_.C11 Fr_.C12 Fr_.C13 Fr_.C14 Fr_.C15 Fr_.C16 Fr_.C17 Fr_.loadF_new

theorem len_ln0 (f : Fr) : len f = ln0 f.kd + (if f.kd = 18 ∧ ¬ f.ky = 0 then 5 else 0) := by
  unfold len
  by_cases h : isK f.kd
  · rw [if_neg (not_not_intro h)]
    generalize hd : f.kd = k at *
    by_cases hy : f.ky = 0 <;> rcases kinds h with rfl | rfl | rfl | rfl | rfl | rfl | rfl | rfl | rfl | rfl | rfl | rfl | rfl | rfl | rfl | rfl | rfl | rfl | rfl <;> simp only [hy] <;> decide
  · rw [if_pos h, ln0_no h]
    have : ¬ f.kd = 18 := fun hh => h ⟨by omega, by omega⟩
    simp [this]

end Go.Proofs.YtacbhbejchjbiaaDoor
