/-
  WALKS of the landed package header (8c902e7): Length.
-/
import Derived.Test.YtkhnhlahfedkhaaDoorHdContra
import Derived.Test.YtkhnhlahfedkhaaDoorHdFrame
namespace Go.Proofs.YtkhnhlahfedkhaaDoor
open Go.RowKit Go.Hd
attribute [local go_sem ↓ high] Fr_.loadF Fr_.storeF Fr_.v_cells Fr_.v_match
attribute [local go_sem] Fr_.C0 Fr_.C1 Fr_.C2 Fr_.C3 Fr_.C4 Fr_.C5 Fr_.C6 Fr_.C7 Fr_.C8 Fr_.C9 Fr_.C10 Fr_.C11 Fr_.C12 Fr_.C13 Fr_.C14 Fr_.C15 Fr_.C16 Fr_.C17 Fr_.loadF_new

theorem len_ln0 (f : Fr) : len f = ln0 f.kd + (if f.kd = 18 ∧ ¬ f.ky = 0 then 5 else 0) := by
  unfold len
  by_cases h : isK f.kd
  · rw [if_neg (not_not_intro h)]
    generalize hd : f.kd = k at *
    by_cases hy : f.ky = 0 <;> rcases kinds h with rfl | rfl | rfl | rfl | rfl | rfl | rfl | rfl | rfl | rfl | rfl | rfl | rfl | rfl | rfl | rfl | rfl | rfl | rfl <;> simp only [hy] <;> decide
  · rw [if_pos h, ln0_no h]
    have : ¬ f.kd = 18 := fun hh => h ⟨by omega, by omega⟩
    simp [this]

set_option maxRecDepth 100000 in
set_option maxHeartbeats 4000000 in
theorem progLength_any (f : Fr) (w : World) (ht : HdTab w) :
    Calls Tryd.prog 25 #[Fr_.v f] w fun e w' => e = .returned (.int .i64 (len f)) ∧ Below w.heap.size w w' := by
  have CT := Lib.hid (traits_any f.kd _ (ht.below ((Below.refl _ _).alloc (Nat.le_refl _) (.cells (Fr_.C f) 25)) (Nat.le_refl _)))
  unfold trv at CT
  have CF := fld3 (nm f.kd) (cls f.kd) (rsp f.kd) (ln0 f.kd) (us f.kd)
  have S1 := Lib.hid (Stf.new w f)
  rw [len_ln0]
  have hb : 0 ≤ ln0 f.kd ∧ ln0 f.kd ≤ 27 := by
    unfold ln0
    repeat' split
    all_goals decide
  have hw1 : RowKit.wrap64 (ln0 f.kd + 5) = ln0 f.kd + 5 := IntWalk.wrap64_in _ (by omega)
  have hw2 : IntKind.i64.wrap (ln0 f.kd + 5) = ln0 f.kd + 5 := IntWalk.i64_in _ (by omega)
  clear ht hb
  generalize ln0 f.kd = l at *
  by_cases hk : f.kd = 18
  · rw [hk] at CT CF
    by_cases hy : f.ky = 0
    · rw [if_neg (fun h => h.2 hy), Int.add_zero]
      go_enter Tryd.func25, Tryd.ntmps25
      go_wp2_with (go_at_call 44; refine CT.out.mono ?_; rintro e w2 ⟨rfl, hb⟩; have S2 := Lib.hid (Stf.keep _ _ S1.out hb); clear hb; have e2 := S2.out.box.all)
      go_returns
      exact ⟨rfl, S2.out.bel⟩
    · rw [if_pos ⟨hk, hy⟩]
      go_enter Tryd.func25, Tryd.ntmps25
      go_wp2_with (go_at_call 44; refine CT.out.mono ?_; rintro e w2 ⟨rfl, hb⟩; have S2 := Lib.hid (Stf.keep _ _ S1.out hb); clear hb; have e2 := S2.out.box.all)
      go_returns
      exact ⟨rfl, S2.out.bel⟩
  · rw [if_neg (fun h => hk h.1), Int.add_zero]
    go_enter Tryd.func25, Tryd.ntmps25
    go_wp2_with (go_at_call 44; refine CT.out.mono ?_; rintro e w2 ⟨rfl, hb⟩; have S2 := Lib.hid (Stf.keep _ _ S1.out hb); clear hb; have e2 := S2.out.box.all)
    go_returns
    exact ⟨rfl, S2.out.bel⟩
end Go.Proofs.YtkhnhlahfedkhaaDoor
