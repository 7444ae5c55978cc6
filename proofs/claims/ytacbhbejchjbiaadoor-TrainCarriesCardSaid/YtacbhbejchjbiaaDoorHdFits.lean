/-
  WALKS of the landed package header (8c902e7): single, addressesFit, numbersFit, flags.
-/
import Derived.Test.YtacbhbejchjbiaaDoorHdFns
import Derived.Test.YtacbhbejchjbiaaDoorFrW
import Derived.Test.YtacbhbejchjbiaaDoorAdDoneA
namespace Go.Proofs.YtacbhbejchjbiaaDoor
open Go.RowKit Go.Hd
attribute [local go_sem ↓ high] Fr_.loadF Fr_.storeF Fr_.v_cells Fr_.v_match
attribute [local go_sem] Fr_.C0 Fr_.C1 Fr_.C2 Fr_.C3 Fr_.C4 Fr_.C5 Fr_.C6 Fr_.C7 Fr_.C8 Fr_.C9 Fr_.C10 Fr_.C11 Fr_.C12 Fr_.C13 Fr_.C14 Fr_.C15 Fr_.C16 Fr_.C17 Fr_.loadF_new

/-- An address that came as an int. -/
def u64 (a : Int) : Prop := 0 ≤ a ∧ a < 18446744073709551616
theorem valid10 (a : Int) (w : World) (ha : u64 a) : Calls Tryd.prog 46 #[.int .u64 a] w fun e w' => e = .returned (.bool (decide (vad a))) ∧ w = w' := by
  obtain ⟨n, rfl⟩ : ∃ n : Nat, a = n := ⟨a.toNat, by have := ha.1; omega⟩
  have h := valid_any n w
  have e : Go.Ad.vald n = decide (vad (n : Int)) := by unfold Go.Ad.vald vad; exact decide_eq_decide.2 (by omega)
  rw [e] at h
  exact h
theorem group10 (a : Int) (w : World) (ha : u64 a) : Calls Tryd.prog 48 #[.int .u64 a] w fun e w' => e = .returned (.bool (decide (grp a))) ∧ w = w' := by
  obtain ⟨n, rfl⟩ : ∃ n : Nat, a = n := ⟨a.toNat, by have := ha.1; omega⟩
  have h := group_any n w (by have := ha.2; omega)
  have e : Go.Ad.grp n = decide (grp (n : Int)) := by
    unfold Go.Ad.grp Go.Ad.vald grp vad
    rw [← Bool.decide_and]
    exact decide_eq_decide.2 (by omega)
  rw [e] at h
  exact h
/-- Valid, and no group address. -/
def sgl (a : Int) : Prop := vad a ∧ ¬ grp a
instance (a : Int) : Decidable (sgl a) := by unfold sgl; infer_instance
theorem single_any (a : Int) (w : World) (ha : u64 a) : Calls Tryd.prog 47 #[.int .u64 a] w fun e w' => e = .returned (.bool (decide (sgl a))) ∧ w = w' := by
  have CV := Lib.hid (fun w => valid10 a w ha)
  have CG := Lib.hid (fun w => group10 a w ha)
  by_cases h : vad a
  · rw [decide_eq_true h] at CV
    by_cases h' : grp a
    · rw [decide_eq_true h'] at CG
      rw [decide_eq_false (show ¬ sgl a from fun hh => hh.2 h')]
      clear h h' ha
      go_enter Tryd.func47, Tryd.ntmps47
      go_wp2_with (first | (go_at_call 46; refine (CV.out _).mono ?_; rintro e w' ⟨rfl, rfl⟩) | (go_at_call 48; refine (CG.out _).mono ?_; rintro e w' ⟨rfl, rfl⟩))
      go_returns
      exact ⟨rfl, rfl⟩
    · rw [decide_eq_false h'] at CG
      rw [decide_eq_true (show sgl a from ⟨h, h'⟩)]
      clear h h' ha
      go_enter Tryd.func47, Tryd.ntmps47
      go_wp2_with (first | (go_at_call 46; refine (CV.out _).mono ?_; rintro e w' ⟨rfl, rfl⟩) | (go_at_call 48; refine (CG.out _).mono ?_; rintro e w' ⟨rfl, rfl⟩))
      go_returns
      exact ⟨rfl, rfl⟩
  · rw [decide_eq_false h] at CV
    rw [decide_eq_false (show ¬ sgl a from fun hh => h hh.1)]
    clear h ha
    go_enter Tryd.func47, Tryd.ntmps47
    go_wp2_with (go_at_call 46; refine (CV.out _).mono ?_; rintro e w' ⟨rfl, rfl⟩)
    go_returns
    exact ⟨rfl, rfl⟩

/-- The addresses of a frame are numbers of 64 bits. -/
structure FrU (f : Fr) : Prop where
  ta : u64 f.ta
  fa : u64 f.fa
  th : u64 f.th

/-- The addresses fit. -/
def adf (f : Fr) : Prop := vad f.ta ∧ (fro f.kd → sgl f.fa) ∧ (nb f.kd → sgl f.th ∨ (f.kd = 18 ∧ ¬ grp f.ta ∧ grp f.th))
instance (f : Fr) : Decidable (adf f) := by unfold adf; infer_instance

set_option maxRecDepth 100000 in
set_option maxHeartbeats 4000000 in
theorem addressesFit_any (f : Fr) (w : World) (hk : isK f.kd) (hu : FrU f) :
    Calls Tryd.prog 27 #[Fr_.v f, .int .i64 (us f.kd)] w fun e w' => e = .returned (.bool (decide (adf f))) ∧ Below w.heap.size w w' := by
  have CV := Lib.hid (fun w => valid10 f.ta w hu.ta)
  have CG := Lib.hid (fun w => group10 f.ta w hu.ta)
  have CG2 := Lib.hid (fun w => group10 f.th w hu.th)
  have CS := Lib.hid (fun w => single_any f.fa w hu.fa)
  have CS2 := Lib.hid (fun w => single_any f.th w hu.th)
  have CH := Lib.hid (has_any (us f.kd) 256)
  have CH2 := Lib.hid (has_any (us f.kd) 512)
  rw [hs_from hk] at CH
  rw [hs_third hk] at CH2
  have B1 : Hid (Below w.heap.size w (w.alloc (.cells (Fr_.C f) 34))) := (Below.refl _ _).alloc (Nat.le_refl _) _
  clear hk hu
  generalize us f.kd = u at *
  go_enter Tryd.func27, Tryd.ntmps27
  go_wp2_with (first
    | (go_at_call 46; refine (CV.out _).mono ?_; rintro e w' ⟨rfl, rfl⟩)
    | (go_at_call 48; with_reducible refine (CG.out _).mono ?_; rintro e w' ⟨rfl, rfl⟩)
    | (go_at_call 48; with_reducible refine (CG2.out _).mono ?_; rintro e w' ⟨rfl, rfl⟩)
    | (go_at_call 47; with_reducible refine (CS.out _).mono ?_; rintro e w' ⟨rfl, rfl⟩)
    | (go_at_call 47; with_reducible refine (CS2.out _).mono ?_; rintro e w' ⟨rfl, rfl⟩)
    | (go_at_call 29; with_reducible refine (CH.out _).mono ?_; rintro e w' ⟨rfl, rfl⟩)
    | (go_at_call 29; with_reducible refine (CH2.out _).mono ?_; rintro e w' ⟨rfl, rfl⟩))
  all_goals
    go_returns
    clear CV CG CG2 CS CS2 CH CH2
    refine ⟨congrArg (fun b : Bool => Ending.returned (Value.bool b)) ?_, B1.out⟩
    clear B1
    first
      | (simp [adf, *]; done)
      | (simp_all [adf]; done)
/-- What came in as a frame. -/
def FrWf (x : Fr) : Prop := (Lit.int .i64 x.kd).wf = true ∧ (Lit.int .i64 x.po).wf = true ∧ (Lit.int .i64 x.du).wf = true ∧ (Lit.int .u64 x.ta).wf = true ∧ (Lit.int .u64 x.fa).wf = true ∧ (Lit.int .u64 x.th).wf = true ∧ (Lit.int .i64 x.sq).wf = true ∧ (Lit.int .i64 x.fg).wf = true ∧ (Lit.int .i64 x.ct).wf = true ∧ (Lit.int .i64 x.ky).wf = true ∧ (Lit.int .i64 x.cn).wf = true
theorem u64_wf {a : Int} (h : (Lit.int .u64 a).wf = true) : u64 a := by
  simp [Lit.wf, IntKind.min, IntKind.max, IntKind.signed, IntKind.bits] at h
  exact ⟨by omega, by omega⟩
theorem fru_wf {x : Fr} (h : FrWf x) : FrU x := ⟨u64_wf h.2.2.2.1, u64_wf h.2.2.2.2.1, u64_wf h.2.2.2.2.2.1⟩
end Go.Proofs.YtacbhbejchjbiaaDoor
