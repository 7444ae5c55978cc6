/-
  WALKS of the small functions of package bitset and of its reference: what each call returns; the world is as it was.
-/
import Derived.Test.YtjighkagmnoncaaRows
import Derived.Test.YtjighkagmnoncaaBsMath
import Derived.WalkKit
import Derived.WalkSpells
import Derived.WalkLawsBesides
import Derived.Deep.QuietTactic
import Derived.BigQuiet
import Derived.Lib.Hide
namespace Go.Proofs.Ytjighkagmnoncaa
open Go.RowKit Go.Bs

set_option maxHeartbeats 400000 in
theorem single_any (i : Int) (w : World) :
    Calls Try.prog 36 #[.int .i64 i] w fun e w' => e = .returned (.int .u64 (sgl i : Int)) ∧ w = w' := by
  by_cases h0 : 0 ≤ i
  · by_cases h1 : i < 64
    · have e : IntKind.u64.wrap (2 ^ i.toNat) = (sgl i : Int) := by
        rw [sgl_in h0 h1, IntWalk.u64_in]
        · rfl
        · have := pw_lt (i := i.toNat) (by omega); have := pw_pos i.toNat
          have e2 : (2 ^ i.toNat : Int) = (pw i.toNat : Int) := by unfold pw; simp
          omega
      go_enter Try.func36, Try.ntmps36
      go_wp2
      go_ret
      exact ⟨rfl, rfl⟩
    · rw [sgl_out (by omega)]
      go_enter Try.func36, Try.ntmps36
      go_wp2
      go_ret
      exact ⟨rfl, rfl⟩
  · rw [sgl_out (by omega)]
    go_enter Try.func36, Try.ntmps36
    go_wp2
    go_ret
    exact ⟨rfl, rfl⟩

set_option maxHeartbeats 400000 in
theorem has_any (s : Nat) (i : Int) (w : World) (h : s < 18446744073709551616) :
    Calls Try.prog 32 #[.int .u64 s, .int .i64 i] w fun e w' => e = .returned (.bool (has s i)) ∧ w = w' := by
  have e := and_ne h i
  have H := Lib.hid e; clear e
  have Hh := Lib.hid h; clear h
  go_enter Try.func32, Try.ntmps32
  go_wp2_with (go_at_call 36; refine (single_any _ _).mono ?_; rintro e w' ⟨rfl, rfl⟩)
  rw [H.out]
  go_ret
  exact ⟨rfl, rfl⟩

set_option maxHeartbeats 400000 in
theorem with_any (s : Nat) (i : Int) (w : World) (h : s < 18446744073709551616) :
    Calls Try.prog 29 #[.int .u64 s, .int .i64 i] w fun e w' => e = .returned (.int .u64 (wth s i : Int)) ∧ w = w' := by
  have e := or_eq h i
  have H := Lib.hid e; clear e
  have Hh := Lib.hid h; clear h
  go_enter Try.func29, Try.ntmps29
  go_wp2_with (go_at_call 36; refine (single_any _ _).mono ?_; rintro e w' ⟨rfl, rfl⟩)
  rw [H.out]
  go_ret
  exact ⟨rfl, rfl⟩

/-! the reference -/
end Go.Proofs.Ytjighkagmnoncaa
