/-
  WALKS of the small functions of package bitset and of its reference: what each call returns; the world is as it was.
-/
import Derived.Test.YtojiffpmmgjpjaaDoorRows
import Derived.Test.YtojiffpmmgjpjaaDoorBsMath
import Derived.WalkKit
import Derived.WalkSpells
import Derived.WalkLawsBesides
import Derived.Deep.QuietTactic
import Derived.BigQuiet
import Derived.Lib.Hide
namespace Go.Proofs.YtojiffpmmgjpjaaDoor
open Go.RowKit Go.Bs

set_option maxHeartbeats 400000 in
theorem single_any (i : Int) (w : World) :
    Calls Tryd.prog 66 #[.int .i64 i] w fun e w' => e = .returned (.int .u64 (sgl i : Int)) ∧ w = w' := by
  by_cases h0 : 0 ≤ i
  · by_cases h1 : i < 64
    · have e : IntKind.u64.wrap (2 ^ i.toNat) = (sgl i : Int) := by
        rw [sgl_in h0 h1, IntWalk.u64_in]
        · rfl
        · have := pw_lt (i := i.toNat) (by omega); have := pw_pos i.toNat
          have e2 : (2 ^ i.toNat : Int) = (pw i.toNat : Int) := by unfold pw; simp
          omega
      go_enter Tryd.func66, Tryd.ntmps66
      go_wp2
      go_ret
      exact ⟨rfl, rfl⟩
    · rw [sgl_out (by omega)]
      go_enter Tryd.func66, Tryd.ntmps66
      go_wp2
      go_ret
      exact ⟨rfl, rfl⟩
  · rw [sgl_out (by omega)]
    go_enter Tryd.func66, Tryd.ntmps66
    go_wp2
    go_ret
    exact ⟨rfl, rfl⟩

set_option maxHeartbeats 400000 in
theorem has_any (s : Nat) (i : Int) (w : World) (h : s < 18446744073709551616) :
    Calls Tryd.prog 42 #[.int .u64 s, .int .i64 i] w fun e w' => e = .returned (.bool (has s i)) ∧ w = w' := by
  have e := and_ne h i
  have H := Lib.hid e; clear e
  have Hh := Lib.hid h; clear h
  go_enter Tryd.func42, Tryd.ntmps42
  go_wp2_with (go_at_call 66; refine (single_any _ _).mono ?_; rintro e w' ⟨rfl, rfl⟩)
  rw [H.out]
  go_ret
  exact ⟨rfl, rfl⟩

set_option maxHeartbeats 400000 in
theorem power_any (i : Nat) (w : World) (h : i < 64) :
    Calls Tryd.prog 84 #[.int .i64 i] w fun e w' => e = .returned (.int .u64 (pw i : Int)) ∧ w = w' := by
  go_enter Tryd.func84, Tryd.ntmps84
  go_wp2
  go_loop [3, 4] (fun x k => ∃ m : Nat, m ≤ i ∧ k = .int .i64 m ∧ x = .int .u64 (pw m : Int)) (fun _ k => i - (intOf k).toNat)
  case atStart => exact ⟨0, Nat.zero_le _, rfl, rfl⟩
  case round =>
    obtain ⟨m, hm, rfl, rfl⟩ := hrel
    have hp := pw_pos m
    by_cases hlt : m < i
    · have hq : pw m * 2 < 18446744073709551616 := by rw [← pw_succ]; exact pw_lt (by omega)
      go_wp2
      go_round
      case rel => exact ⟨m + 1, by omega, by go_num, by rw [pw_succ]; go_num⟩
      case measure => simp [intOf]; omega
    · obtain rfl : m = i := by omega
      go_wp2
      go_ret
      exact ⟨rfl, rfl⟩

/-! the reference -/
set_option maxHeartbeats 400000 in
theorem refHas_any (s : Nat) (i : Int) (w : World) (h : s < 18446744073709551616) :
    Calls Tryd.prog 75 #[.int .u64 s, .int .i64 i] w fun e w' => e = .returned (.bool (has s i)) ∧ w = w' := by
  by_cases h0 : 0 ≤ i
  · by_cases h1 : i ≤ 63
    · have e := div_mod_wrap h (i := i) h0 (by omega)
      have H := Lib.hid e; clear e
      have hp := pw_pos i.toNat
      have hq := pw_lt (i := i.toNat) (by omega)
      obtain ⟨j, rfl⟩ : ∃ j : Nat, i = j := ⟨i.toNat, by omega⟩
      rw [Int.toNat_natCast] at *
      go_enter Tryd.func75, Tryd.ntmps75
      go_wp2_with (go_at_call 84; refine (power_any _ _ (by omega)).mono ?_; rintro e w' ⟨rfl, rfl⟩)
      go_ret
      exact ⟨congrArg (fun b => Ending.returned (.bool b)) H.out, rfl⟩
    · rw [has_out (by omega)]
      go_enter Tryd.func75, Tryd.ntmps75
      go_wp2
      go_ret
      exact ⟨rfl, rfl⟩
  · rw [has_out (by omega)]
    go_enter Tryd.func75, Tryd.ntmps75
    go_wp2
    go_ret
    exact ⟨rfl, rfl⟩

set_option maxHeartbeats 400000 in
theorem refWith_any (s : Nat) (i : Int) (w : World) (h : s < 18446744073709551616) :
    Calls Tryd.prog 76 #[.int .u64 s, .int .i64 i] w fun e w' => e = .returned (.int .u64 (wth s i : Int)) ∧ w = w' := by
  by_cases h0 : 0 ≤ i
  · by_cases h1 : i ≤ 63
    · cases hh : has s i
      · have e : (s : Int) + (pw i.toNat : Int) = (wth s i : Int) ∧ (s : Int) + (pw i.toNat : Int) ≤ 18446744073709551615 := by
          have := add_eq h0 (by omega) hh; have := wth_lt h i; omega
        obtain ⟨e, hb2⟩ := e
        have H := Lib.hid e; clear e
        obtain ⟨j, rfl⟩ : ∃ j : Nat, i = j := ⟨i.toNat, by omega⟩
        rw [Int.toNat_natCast] at *
        go_enter Tryd.func76, Tryd.ntmps76
        go_wp2_with (first | (go_at_call 75; refine (refHas_any _ _ _ h).mono ?_; rintro e w' ⟨rfl, rfl⟩) | (go_at_call 84; refine (power_any _ _ (by omega)).mono ?_; rintro e w' ⟨rfl, rfl⟩))
        go_ret
        exact ⟨congrArg (fun b => Ending.returned (.int .u64 b)) H.out, rfl⟩
      · rw [wth_yes hh]
        go_enter Tryd.func76, Tryd.ntmps76
        go_wp2_with (first | (go_at_call 75; refine (refHas_any _ _ _ h).mono ?_; rintro e w' ⟨rfl, rfl⟩) | (go_at_call 84; refine (power_any _ _ (by omega)).mono ?_; rintro e w' ⟨rfl, rfl⟩))
        go_ret
        exact ⟨rfl, rfl⟩
    · rw [wth_no (by omega)]
      go_enter Tryd.func76, Tryd.ntmps76
      go_wp2
      go_ret
      exact ⟨rfl, rfl⟩
  · rw [wth_no (by omega)]
    go_enter Tryd.func76, Tryd.ntmps76
    go_wp2
    go_ret
    exact ⟨rfl, rfl⟩

end Go.Proofs.YtojiffpmmgjpjaaDoor
