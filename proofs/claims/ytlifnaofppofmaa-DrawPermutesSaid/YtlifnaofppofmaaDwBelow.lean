/-
  WALKS of layer 4: Below and Stream, the reference's and the program's (the program's: written over a program of my own).
-/
import Derived.Test.YtlifnaofppofmaaDwNext
namespace Go.Proofs.Ytlifnaofppofmaa
open Go.RowKit Go.Dw

theorem tmod_nat (a b : Nat) : ((a : Nat) : Int).tmod (b : Int) = ((a % b : Nat) : Int) := by
  rw [Int.tmod_eq_emod_of_nonneg (by omega)]; rfl

set_option maxHeartbeats 400000 in
theorem refBelow_small (x : Nat) (n : Int) (w : World) (hn : n < 1) :
    Calls Try.prog 15 #[.int .u64 x, .int .i64 n] w fun e w' => e = .returned (.tuple #[.int .i64 0, .int .u64 x]) ∧ w = w' := by
  go_enter Try.func15, Try.ntmps15
  go_wp2
  go_returns
  exact ⟨rfl, rfl⟩

set_option maxHeartbeats 400000 in
theorem refBelow_big (x m : Nat) (w : World) (hx : x < 18446744073709551616) (h1 : 1 ≤ m) (h2 : m < 9223372036854775808) :
    Calls Try.prog 15 #[.int .u64 x, .int .i64 m] w fun e w' => e = .returned (.tuple #[.int .i64 ((bl x m : Nat) : Int), .int .u64 ((nx x : Nat) : Int)]) ∧ w = w' := by
  have hm1 : ¬ (m : Int) < 1 := by omega
  have hmu : IntKind.u64.wrap (m : Int) = m := IntWalk.u64_in _ (by omega)
  have hm0 : ¬ (m : Int) = 0 := by omega
  have C1 : Hid (∀ w, Calls Try.prog 10 #[.int .u64 x] w fun e w' => e = .returned (.int .u64 ((nx x : Nat) : Int)) ∧ w = w') := fun w => refNext_any x w hx
  have C2 : Hid (∀ w, Calls Try.prog 20 #[.int .u64 (nx x : Nat), .int .i64 11] w fun e w' => e = .returned (.int .u64 ((nx x / 2048 : Nat) : Int)) ∧ w = w') := fun w => refOver_any (nx x) 11 w (nx_lt hx) (by decide)
  have hb := bl_lt x (n := m) (by omega)
  have hbe := tmod_nat (nx x / 2048) m
  rw [show nx x / 2048 % m = bl x m from rfl] at hbe
  have hbw : Go.RowKit.wrap64 ((bl x m : Nat) : Int) = ((bl x m : Nat) : Int) := IntWalk.wrap64_in _ (by omega)
  have hbw' : IntKind.i64.wrap ((bl x m : Nat) : Int) = ((bl x m : Nat) : Int) := IntWalk.i64_in _ (by omega)
  generalize bl x m = b at *
  generalize nx x / 2048 = c at *
  generalize nx x = y at *
  clear hx h1 h2 hb
  go_enter Try.func15, Try.ntmps15
  go_wp2_with (first
    | (go_at_call 10; refine (C1.out _).mono ?_; rintro e w' ⟨rfl, rfl⟩)
    | (go_at_call 20; refine (C2.out _).mono ?_; rintro e w' ⟨rfl, rfl⟩))
  go_returns
  exact ⟨rfl, rfl⟩

set_option maxHeartbeats 400000 in
theorem below_small (x : Nat) (n : Int) (w : World) (hn : n < 1) :
    Calls Try.prog 14 #[.int .u64 x, .int .i64 n] w fun e w' => e = .returned (.tuple #[.int .i64 0, .int .u64 x]) ∧ w = w' := by
  go_enter Try.func14, Try.ntmps14
  go_wp2
  go_returns
  exact ⟨rfl, rfl⟩

set_option maxHeartbeats 400000 in
theorem below_big (x m : Nat) (w : World) (hx : x < 18446744073709551616) (h1 : 1 ≤ m) (h2 : m < 9223372036854775808) :
    Calls Try.prog 14 #[.int .u64 x, .int .i64 m] w fun e w' => e = .returned (.tuple #[.int .i64 ((bl x m : Nat) : Int), .int .u64 ((nx x : Nat) : Int)]) ∧ w = w' := by
  have hm1 : ¬ (m : Int) < 1 := by omega
  have hmu : IntKind.u64.wrap (m : Int) = m := IntWalk.u64_in _ (by omega)
  have hm0 : ¬ (m : Int) = 0 := by omega
  have C1 : Hid (∀ w, Calls Try.prog 9 #[.int .u64 x] w fun e w' => e = .returned (.int .u64 ((nx x : Nat) : Int)) ∧ w = w') := fun w => next_any x w hx
  have hb := bl_lt x (n := m) (by omega)
  have hbe : ((nx x : Nat) : Int) / 2048 % (m : Int) = ((bl x m : Nat) : Int) := rfl
  have hbe' : (((nx x : Nat) : Int) / 2048).tmod (m : Int) = ((bl x m : Nat) : Int) := tmod_nat (nx x / 2048) m
  have hbw : Go.RowKit.wrap64 ((bl x m : Nat) : Int) = ((bl x m : Nat) : Int) := IntWalk.wrap64_in _ (by omega)
  have hbw' : IntKind.i64.wrap ((bl x m : Nat) : Int) = ((bl x m : Nat) : Int) := IntWalk.i64_in _ (by omega)
  generalize bl x m = b at *
  generalize nx x = y at *
  clear hx h1 h2 hb
  go_enter Try.func14, Try.ntmps14
  go_wp2_with (go_at_call 9; refine (C1.out _).mono ?_; rintro e w' ⟨rfl, rfl⟩)
  go_returns
  exact ⟨rfl, rfl⟩

/-- The first state of a stream's generator. -/
def strmSeed (s n f : Int) : Nat := ((s * 2862933555777941757 + n * 3037000493 + f * 7 + 1) % 18446744073709551616).toNat
theorem strmSeed_lt (s n f : Int) : strmSeed s n f < 18446744073709551616 := by unfold strmSeed; omega
def strm (s n f : Int) : Nat := nx (nx (nx (strmSeed s n f)))

theorem wrap_u64 (z : Int) : IntKind.u64.wrap z = z % 18446744073709551616 := rfl
theorem mod_mul (a c m : Int) : a % m * c % m = a * c % m := by rw [Int.mul_emod, Int.emod_emod_of_dvd _ (Int.dvd_refl m), ← Int.mul_emod]
theorem seed_walk (s n f : Int) : IntKind.u64.wrap (IntKind.u64.wrap (IntKind.u64.wrap (IntKind.u64.wrap (IntKind.u64.wrap s * 2862933555777941757) + IntKind.u64.wrap (IntKind.u64.wrap n * 3037000493)) + IntKind.u64.wrap (IntKind.u64.wrap f * 7)) + 1) = ((strmSeed s n f : Nat) : Int) := by
  unfold strmSeed
  rw [Int.toNat_of_nonneg (Int.emod_nonneg _ (by decide))]
  simp only [wrap_u64, mod_mul, Int.emod_add_emod, Int.add_emod_emod]

set_option maxRecDepth 100000 in
set_option maxHeartbeats 1000000 in
theorem refStream_any (s n f : Int) (w : World) :
    Calls Try.prog 12 #[.int .i64 s, .int .i64 n, .int .i64 f] w fun e w' => e = .returned (.int .u64 ((strm s n f : Nat) : Int)) ∧ w = w' := by
  have hseed := seed_walk s n f
  have C1 : Hid (∀ w, Calls Try.prog 10 #[.int .u64 (strmSeed s n f : Nat)] w fun e w' => e = .returned (.int .u64 ((nx (strmSeed s n f) : Nat) : Int)) ∧ w = w') := fun w => refNext_any _ w (strmSeed_lt s n f)
  have C2 : Hid (∀ w, Calls Try.prog 10 #[.int .u64 (nx (strmSeed s n f) : Nat)] w fun e w' => e = .returned (.int .u64 ((nx (nx (strmSeed s n f)) : Nat) : Int)) ∧ w = w') := fun w => refNext_any _ w (nx_lt (strmSeed_lt s n f))
  have C3 : Hid (∀ w, Calls Try.prog 10 #[.int .u64 (nx (nx (strmSeed s n f)) : Nat)] w fun e w' => e = .returned (.int .u64 ((strm s n f : Nat) : Int)) ∧ w = w') := fun w => refNext_any _ w (nx_lt (nx_lt (strmSeed_lt s n f)))
  generalize strm s n f = r at *
  generalize nx (nx (strmSeed s n f)) = q at *
  generalize nx (strmSeed s n f) = p at *
  generalize strmSeed s n f = o at *
  go_enter Try.func12, Try.ntmps12
  go_wp2_with (first
    | (go_at_call 10; with_reducible refine (C1.out _).mono ?_; rintro e w' ⟨rfl, rfl⟩)
    | (go_at_call 10; with_reducible refine (C2.out _).mono ?_; rintro e w' ⟨rfl, rfl⟩)
    | (go_at_call 10; with_reducible refine (C3.out _).mono ?_; rintro e w' ⟨rfl, rfl⟩))
  go_returns
  exact ⟨rfl, rfl⟩

set_option maxRecDepth 100000 in
set_option maxHeartbeats 1000000 in
theorem stream_any (s n f : Int) (w : World) :
    Calls Try.prog 11 #[.int .i64 s, .int .i64 n, .int .i64 f] w fun e w' => e = .returned (.int .u64 ((strm s n f : Nat) : Int)) ∧ w = w' := by
  have hseed := seed_walk s n f
  have C1 : Hid (∀ w, Calls Try.prog 9 #[.int .u64 (strmSeed s n f : Nat)] w fun e w' => e = .returned (.int .u64 ((nx (strmSeed s n f) : Nat) : Int)) ∧ w = w') := fun w => next_any _ w (strmSeed_lt s n f)
  have C2 : Hid (∀ w, Calls Try.prog 9 #[.int .u64 (nx (strmSeed s n f) : Nat)] w fun e w' => e = .returned (.int .u64 ((nx (nx (strmSeed s n f)) : Nat) : Int)) ∧ w = w') := fun w => next_any _ w (nx_lt (strmSeed_lt s n f))
  have C3 : Hid (∀ w, Calls Try.prog 9 #[.int .u64 (nx (nx (strmSeed s n f)) : Nat)] w fun e w' => e = .returned (.int .u64 ((strm s n f : Nat) : Int)) ∧ w = w') := fun w => next_any _ w (nx_lt (nx_lt (strmSeed_lt s n f)))
  generalize strm s n f = r at *
  generalize nx (nx (strmSeed s n f)) = q at *
  generalize nx (strmSeed s n f) = p at *
  generalize strmSeed s n f = o at *
  go_enter Try.func11, Try.ntmps11
  go_wp2_with (first
    | (go_at_call 9; with_reducible refine (C1.out _).mono ?_; rintro e w' ⟨rfl, rfl⟩)
    | (go_at_call 9; with_reducible refine (C2.out _).mono ?_; rintro e w' ⟨rfl, rfl⟩)
    | (go_at_call 9; with_reducible refine (C3.out _).mono ?_; rintro e w' ⟨rfl, rfl⟩))
  go_returns
  exact ⟨rfl, rfl⟩
end Go.Proofs.Ytlifnaofppofmaa
