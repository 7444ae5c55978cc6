/-
  WALKS of layer 4: the reference's times, over, Next; the program's Next (written over a program of my own).
-/
import Derived.Test.YtlifnaofppofmaaRows
import Derived.Test.YtlifnaofppofmaaDwMath
import Derived.WalkKit
import Derived.WalkSpells
import Derived.WalkLawsBesides
import Derived.Deep.QuietTactic
import Derived.BigQuiet
import Derived.Lib.Hide
import Derived.Handy
namespace Go.Proofs.Ytlifnaofppofmaa
open Go.RowKit Go.Dw

theorem twice_mod (x m : Nat) : x * 2 ^ m % 18446744073709551616 * 2 % 18446744073709551616 = x * 2 ^ (m + 1) % 18446744073709551616 := by
  rw [Nat.pow_succ, ← Nat.mul_assoc]
  generalize x * 2 ^ m = p
  omega
theorem half_div (x m : Nat) : x / 2 ^ m / 2 = x / 2 ^ (m + 1) := by rw [Nat.pow_succ, Nat.div_div_eq_div_mul]

set_option maxHeartbeats 400000 in
theorem refTimes_any (x n : Nat) (w : World) (hx : x < 18446744073709551616) (hn : n ≤ 1000) :
    Calls Try.prog 19 #[.int .u64 x, .int .i64 n] w fun e w' => e = .returned (.int .u64 ((x * 2 ^ n % 18446744073709551616 : Nat) : Int)) ∧ w = w' := by
  go_enter Try.func19, Try.ntmps19
  go_wp2
  go_loop [0, 5] (fun y i => ∃ m : Nat, m ≤ n ∧ i = .int .i64 m ∧ y = .int .u64 ((x * 2 ^ m % 18446744073709551616 : Nat) : Int)) (fun _ i => n - (intOf i).toNat)
  case atStart => exact ⟨0, Nat.zero_le _, rfl, by rw [Nat.pow_zero, Nat.mul_one, Nat.mod_eq_of_lt hx]⟩
  case round =>
    obtain ⟨m, hm, rfl, rfl⟩ := hrel
    by_cases hlt : m < n
    · have HT := Lib.hid (twice_mod x m)
      have hy : x * 2 ^ m % 18446744073709551616 < 18446744073709551616 := Nat.mod_lt _ (by decide)
      generalize x * 2 ^ m % 18446744073709551616 = y at hy HT ⊢
      go_wp2
      go_round
      case rel => exact ⟨m + 1, by omega, by go_num, by rw [← HT.out]; congr 1⟩
      case measure => simp [intOf]; omega
    · obtain rfl : m = n := by omega
      go_wp2
      go_returns
      exact ⟨rfl, rfl⟩

set_option maxHeartbeats 400000 in
theorem refOver_any (x n : Nat) (w : World) (hx : x < 18446744073709551616) (hn : n ≤ 1000) :
    Calls Try.prog 20 #[.int .u64 x, .int .i64 n] w fun e w' => e = .returned (.int .u64 ((x / 2 ^ n : Nat) : Int)) ∧ w = w' := by
  go_enter Try.func20, Try.ntmps20
  go_wp2
  go_loop [0, 5] (fun y i => ∃ m : Nat, m ≤ n ∧ i = .int .i64 m ∧ y = .int .u64 ((x / 2 ^ m : Nat) : Int)) (fun _ i => n - (intOf i).toNat)
  case atStart => exact ⟨0, Nat.zero_le _, rfl, by rw [Nat.pow_zero, Nat.div_one]⟩
  case round =>
    obtain ⟨m, hm, rfl, rfl⟩ := hrel
    by_cases hlt : m < n
    · have HT := Lib.hid (half_div x m)
      have hy : x / 2 ^ m < 18446744073709551616 := Nat.lt_of_le_of_lt (Nat.div_le_self _ _) hx
      generalize x / 2 ^ m = y at hy HT ⊢
      go_wp2
      go_round
      case rel => exact ⟨m + 1, by omega, by go_num, by rw [← HT.out]; congr 1⟩
      case measure => simp [intOf]; omega
    · obtain rfl : m = n := by omega
      go_wp2
      go_returns
      exact ⟨rfl, rfl⟩

/-- The step's three xors, as a walk meets them. -/
theorem xor13 {x : Nat} (h : x < 18446744073709551616) : bits .xor .u64 (x : Int) (IntKind.u64.wrap ((x : Int) * 8192)) = ((lx 13 x : Nat) : Int) := u64_xor_nat x (x * 8192 % 18446744073709551616) h (Nat.mod_lt _ (by decide))
theorem xor7 {x : Nat} (h : x < 18446744073709551616) : bits .xor .u64 (x : Int) ((x : Int) / 128) = ((rx 7 x : Nat) : Int) := u64_xor_nat x (x / 128) h (Nat.lt_of_le_of_lt (Nat.div_le_self _ _) h)
theorem xor17 {x : Nat} (h : x < 18446744073709551616) : bits .xor .u64 (x : Int) (IntKind.u64.wrap ((x : Int) * 131072)) = ((lx 17 x : Nat) : Int) := u64_xor_nat x (x * 131072 % 18446744073709551616) h (Nat.mod_lt _ (by decide))

theorem nx_zero : ((nx 0 : Nat) : Int) = ((stp gold : Nat) : Int) := rfl
theorem nx_pos {x : Nat} (h : ¬ x = 0) : nx x = stp x := by unfold nx strt; rw [if_neg h]

set_option maxRecDepth 100000 in
set_option maxHeartbeats 1000000 in
theorem refNext_any (x : Nat) (w : World) (hx : x < 18446744073709551616) :
    Calls Try.prog 10 #[.int .u64 x] w fun e w' => e = .returned (.int .u64 ((nx x : Nat) : Int)) ∧ w = w' := by
  have key : ∀ s : Nat, s < 18446744073709551616 → Hid (bits .xor .u64 (s : Int) (((s * 2 ^ 13 % 18446744073709551616 : Nat)) : Int) = ((lx 13 s : Nat) : Int)
      ∧ bits .xor .u64 ((lx 13 s : Nat) : Int) ((lx 13 s / 2 ^ 7 : Nat) : Int) = ((rx 7 (lx 13 s) : Nat) : Int)
      ∧ bits .xor .u64 ((rx 7 (lx 13 s) : Nat) : Int) (((rx 7 (lx 13 s)) * 2 ^ 17 % 18446744073709551616 : Nat) : Int) = ((stp s : Nat) : Int)) := fun s hs =>
    ⟨u64_xor_nat _ _ hs (Nat.mod_lt _ (by decide)), u64_xor_nat _ _ (lx_lt hs) (Nat.lt_of_le_of_lt (Nat.div_le_self _ _) (lx_lt hs)), u64_xor_nat _ _ (rx_lt (lx_lt hs)) (Nat.mod_lt _ (by decide))⟩
  obtain ⟨s, hs, hsl, hss⟩ : ∃ s, (x = 0 → s = gold) ∧ s < 18446744073709551616 ∧ (¬ x = 0 → s = x) := ⟨strt x, fun h => by rw [h]; rfl, strt_lt hx, fun h => by unfold strt; rw [if_neg h]⟩
  have HK := key s hsl
  have HN : Hid (nx x = stp s) := by
    by_cases h0 : x = 0
    · show nx x = stp s; rw [hs h0, h0]; rfl
    · show nx x = stp s; rw [hss h0, nx_pos h0]
  have e1 := HK.out.1
  have e2 := HK.out.2.1
  have e3 := HK.out.2.2
  have C1 : Hid (∀ w, Calls Try.prog 19 #[.int .u64 s, .int .i64 13] w fun e w' => e = .returned (.int .u64 ((s * 2 ^ 13 % 18446744073709551616 : Nat) : Int)) ∧ w = w') := fun w => refTimes_any s 13 w hsl (by decide)
  have C2 : Hid (∀ w, Calls Try.prog 20 #[.int .u64 (lx 13 s : Nat), .int .i64 7] w fun e w' => e = .returned (.int .u64 ((lx 13 s / 2 ^ 7 : Nat) : Int)) ∧ w = w') := fun w => refOver_any (lx 13 s) 7 w (lx_lt hsl) (by decide)
  have C3 : Hid (∀ w, Calls Try.prog 19 #[.int .u64 (rx 7 (lx 13 s) : Nat), .int .i64 17] w fun e w' => e = .returned (.int .u64 ((rx 7 (lx 13 s) * 2 ^ 17 % 18446744073709551616 : Nat) : Int)) ∧ w = w') := fun w => refTimes_any (rx 7 (lx 13 s)) 17 w (rx_lt (lx_lt hsl)) (by decide)
  clear HK key
  generalize hA : s * 2 ^ 13 % 18446744073709551616 = a at *
  generalize hB : lx 13 s = b at *
  generalize hC : b / 2 ^ 7 = c at *
  generalize hD : rx 7 b = d at *
  generalize hE : d * 2 ^ 17 % 18446744073709551616 = f at *
  generalize hF : stp s = g at *
  generalize hS : ((s : Nat) : Int) = S at *
  clear hA hB hC hD hE hF
  by_cases h0 : x = 0
  · obtain rfl : S = 11400714819323198485 := by rw [← hS, hs h0]; rfl
    subst h0
    clear hss hs hx hsl hS
    go_enter Try.func10, Try.ntmps10
    go_wp2_with (first
      | (go_at_call 19; with_reducible refine (C1.out _).mono ?_; rintro e w' ⟨rfl, rfl⟩)
      | (go_at_call 19; with_reducible refine (C3.out _).mono ?_; rintro e w' ⟨rfl, rfl⟩)
      | (go_at_call 20; refine (C2.out _).mono ?_; rintro e w' ⟨rfl, rfl⟩))
    go_returns
    exact ⟨by rw [HN.out]; rfl, rfl⟩
  · obtain rfl : S = (x : Int) := by rw [← hS, hss h0]
    clear hss hs hx hsl hS
    go_enter Try.func10, Try.ntmps10
    go_wp2_with (first
      | (go_at_call 19; with_reducible refine (C1.out _).mono ?_; rintro e w' ⟨rfl, rfl⟩)
      | (go_at_call 19; with_reducible refine (C3.out _).mono ?_; rintro e w' ⟨rfl, rfl⟩)
      | (go_at_call 20; refine (C2.out _).mono ?_; rintro e w' ⟨rfl, rfl⟩))
    go_returns
    exact ⟨by rw [HN.out]; rfl, rfl⟩

set_option maxRecDepth 100000 in
set_option maxHeartbeats 1000000 in
theorem next_any (x : Nat) (w : World) (hx : x < 18446744073709551616) :
    Calls Try.prog 9 #[.int .u64 x] w fun e w' => e = .returned (.int .u64 ((nx x : Nat) : Int)) ∧ w = w' := by
  obtain ⟨s, hs, hsl, hss⟩ : ∃ s, (x = 0 → s = gold) ∧ s < 18446744073709551616 ∧ (¬ x = 0 → s = x) := ⟨strt x, fun h => by rw [h]; rfl, strt_lt hx, fun h => by unfold strt; rw [if_neg h]⟩
  have HN : Hid (nx x = stp s) := by
    by_cases h0 : x = 0
    · show nx x = stp s; rw [hs h0, h0]; rfl
    · show nx x = stp s; rw [hss h0, nx_pos h0]
  have e1 := xor13 hsl
  have e2 := xor7 (lx_lt (k := 13) hsl)
  have e3 : bits .xor .u64 ((rx 7 (lx 13 s) : Nat) : Int) (IntKind.u64.wrap (((rx 7 (lx 13 s) : Nat) : Int) * 131072)) = ((stp s : Nat) : Int) := xor17 (rx_lt (k := 7) (lx_lt (k := 13) hsl))
  generalize hB : lx 13 s = b at *
  generalize hD : rx 7 b = d at *
  generalize hF : stp s = g at *
  generalize hS : ((s : Nat) : Int) = S at *
  clear hB hD hF
  by_cases h0 : x = 0
  · obtain rfl : S = 11400714819323198485 := by rw [← hS, hs h0]; rfl
    subst h0
    clear hss hs hx hsl hS
    have e0 : bits .xor .u64 11400714819323198485 (IntKind.u64.wrap 93394655799895641989120) = (b : Int) := e1
    clear e1
    go_enter Try.func9, Try.ntmps9
    go_wp2
    go_returns
    exact ⟨by rw [HN.out]; rfl, rfl⟩
  · obtain rfl : S = (x : Int) := by rw [← hS, hss h0]
    clear hss hs hx hsl hS
    go_enter Try.func9, Try.ntmps9
    go_wp2
    go_returns
    exact ⟨by rw [HN.out]; rfl, rfl⟩
end Go.Proofs.Ytlifnaofppofmaa
