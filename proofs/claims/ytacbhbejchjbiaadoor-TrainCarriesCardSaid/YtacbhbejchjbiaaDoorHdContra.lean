/-
  WALKS of the landed package header (8c902e7): contradictory.
-/
import Derived.Test.YtacbhbejchjbiaaDoorHdNums
import Derived.Test.YtacbhbejchjbiaaDoorHdBits
namespace Go.Proofs.YtacbhbejchjbiaaDoor
open Go.RowKit Go.Hd
attribute [local go_sem ↓ high] Fr_.loadF Fr_.storeF Fr_.v_cells Fr_.v_match
attribute [local go_sem] Fr_.C0 Fr_.C1 Fr_.C2 Fr_.C3 Fr_.C4 Fr_.C5 Fr_.C6 Fr_.C7 Fr_.C8 Fr_.C9 Fr_.C10 Fr_.C11 Fr_.C12 Fr_.C13 Fr_.C14 Fr_.C15 Fr_.C16 Fr_.C17 Fr_.loadF_new

/-- Fields that do not go together. -/
def ctd (f : Fr) : Prop := (f.po = 2 ∧ f.kd = 19) ∨ (¬ f.cn = 0 ∧ f.ky = 0) ∨ ((¬ f.fg = 0 ∨ f.mo = true) ∧ (f.jo = true ∨ f.po = 2)) ∨ (grp f.ta ∧ pl f.kd ∧ ¬ f.po = 1) ∨ (grp f.ta ∧ f.rt = true)
instance (f : Fr) : Decidable (ctd f) := by unfold ctd; infer_instance
theorem bad_iff (f : Fr) : bad f ↔ unu f ∨ ctd f := by unfold bad ctd; grind
theorem rngs_iff (f : Fr) : rngs f ↔ adf f ∧ nuf f := by
  have h1 : grp f.th → vad f.th := fun h => h.1
  unfold rngs adf nuf sgl
  grind

set_option maxRecDepth 100000 in
set_option maxHeartbeats 16000000 in
theorem contradictory_any (f : Fr) (w : World) (hk : isK f.kd) (hu : FrU f) :
    Calls Tryd.prog 31 #[Fr_.v f, .int .i64 (us f.kd)] w fun e w' => e = .returned (.bool (decide (ctd f))) ∧ Below w.heap.size w w' := by
  have CG := Lib.hid (fun w => group10 f.ta w hu.ta)
  have CH := Lib.hid (has_any (us f.kd) 192)
  rw [hs_policy hk] at CH
  have B1 : Hid (Below w.heap.size w (w.alloc (.cells (Fr_.C f) 34))) := (Below.refl _ _).alloc (Nat.le_refl _) _
  clear hk hu
  generalize us f.kd = u at *
  go_enter Tryd.func31, Tryd.ntmps31
  go_wp2_with (first
    | (go_at_call 48; refine (CG.out _).mono ?_; rintro e w' ⟨rfl, rfl⟩)
    | (go_at_call 29; refine (CH.out _).mono ?_; rintro e w' ⟨rfl, rfl⟩))
  all_goals
    go_returns
    clear CG CH
    refine ⟨congrArg (fun b : Bool => Ending.returned (Value.bool b)) ?_, B1.out⟩
    clear B1
    first
      | (simp [ctd, *]; done)
      | (simp_all [ctd]; done)
      | (simp_all [ctd]; omega)
      | (simp_all [ctd]; grind)
end Go.Proofs.YtacbhbejchjbiaaDoor
