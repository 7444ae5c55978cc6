/-
  THE WALK of the reference's Same at two slices that hold the same numbers; the walk of the examples that every law of layer 4 ends with.
-/
import Derived.Test.YtlifnaofppofmaaDwOrder
import Derived.Test.YtlifnaofppofmaaDwRefOrder
namespace Go.Proofs.Ytlifnaofppofmaa
open Go.RowKit Go.Dw

set_option maxHeartbeats 1000000 in
theorem same_any (m : Nat) (f : Nat → Int) (g g' c c' : Nat) (w : World) (hz : m ≤ 1000000) (h1 : ∀ j, j < m → w.cell? ⟨g, j, none⟩ = some (.int .i64 (f j))) (h2 : ∀ j, j < m → w.cell? ⟨g', j, none⟩ = some (.int .i64 (f j))) :
    Calls Try.prog 18 #[.slice (some ⟨g, 0, none⟩) m c, .slice (some ⟨g', 0, none⟩) m c'] w fun e w' => e = .returned (.bool true) ∧ Below w.heap.size w w' := by
  have H1 := Lib.hid h1
  have H2 := Lib.hid h2
  clear h1 h2
  go_enter Try.func18, Try.ntmps18
  go_wp2
  go_loopw [5] (fun i wr => ∃ k q : Nat, k ≤ m ∧ i = .int .i64 k ∧ wr = w.drewN q) (fun i _ => m - (intOf i).toNat)
  case atStart => exact ⟨0, 0, Nat.zero_le _, rfl, rfl⟩
  case round =>
    obtain ⟨k, q, hk, rfl, rfl⟩ := hrel
    by_cases hlt : k < m
    · have c1 : w.cell? ⟨g, k, none⟩ = some (.int .i64 (f k)) := H1.out k hlt
      have c2 : w.cell? ⟨g', k, none⟩ = some (.int .i64 (f k)) := H2.out k hlt
      generalize f k = z at c1 c2
      have i0 : (0 : Int) ≤ (k : Int) := by omega
      have i1 : (k : Int) < (m : Int) := by omega
      go_wp2
      go_quiet (fail)
      go_wp2
      go_roundw
      case rel => exact ⟨k + 1, _, by omega, by go_num, rfl⟩
      case measure => simp [intOf]; omega
    · obtain rfl : k = m := by omega
      go_wp2
      go_returns
      exact ⟨rfl, ⟨rfl, rfl, rfl, Nat.le_refl _, fun _ _ => rfl⟩⟩

theorem nx1 : nx 1 = 1082269761 := by decide +kernel
theorem bl1 : bl 1 100 = 52 := by decide +kernel
theorem cnt1 : cnt 1 = 1 := by decide
theorem ord1 : ord 1 1 = ([0], 1) := by decide +kernel
theorem strm0 : strm 0 0 0 = nx (nx (nx 1)) := by decide +kernel

set_option maxRecDepth 100000 in
set_option maxHeartbeats 2000000 in
theorem lives_any (w : World) :
    Calls Try.prog 13 #[] w fun e w' => e = .returned (.bool true) ∧ Below w.heap.size w w' := by
  have C1 : Hid (∀ w, Calls Try.prog 14 #[.int .u64 1, .int .i64 100] w fun e w' => e = .returned (.tuple #[.int .i64 52, .int .u64 1082269761]) ∧ w = w') := fun w => by
    have h := below_big 1 100 w (by decide) (by decide) (by decide)
    rw [nx1, bl1] at h; exact h
  have C2 : Hid (∀ w, Calls Try.prog 16 #[.int .u64 1, .int .i64 1] w fun e w' => ∃ g cap, e = .returned (.tuple #[.slice (some ⟨g, 0, none⟩) 1 cap, .int .u64 1]) ∧ w'.cell? ⟨g, 0, none⟩ = some (.int .i64 0) ∧ Below w.heap.size w w') := fun w =>
    (order_any 1 1 w (by decide)).mono fun e w' h => by
      obtain ⟨g, cap, he, hc, -, -, hb⟩ := h
      rw [cnt1, ord1] at he hc
      exact ⟨g, cap, he, hc 0 (by decide), hb⟩
  have C3 : Hid (∀ w, Calls Try.prog 9 #[.int .u64 1] w fun e w' => e = .returned (.int .u64 1082269761) ∧ w = w') := fun w => by
    have h := next_any 1 w (by decide)
    rw [nx1] at h; exact h
  have C4 : Hid (∀ w, Calls Try.prog 9 #[.int .u64 1082269761] w fun e w' => e = .returned (.int .u64 (nx 1082269761 : Nat)) ∧ w = w') := fun w => next_any 1082269761 w (by decide)
  have C5 : Hid (∀ w, Calls Try.prog 9 #[.int .u64 (nx 1082269761 : Nat)] w fun e w' => e = .returned (.int .u64 (nx (nx 1082269761) : Nat)) ∧ w = w') := fun w => next_any (nx 1082269761) w (nx_lt (by decide))
  have C6 : Hid (∀ w, Calls Try.prog 11 #[.int .i64 0, .int .i64 0, .int .i64 0] w fun e w' => e = .returned (.int .u64 (nx (nx 1082269761) : Nat)) ∧ w = w') := fun w => by
    have h := stream_any 0 0 0 w
    rw [strm0, nx1] at h; exact h
  generalize nx (nx 1082269761) = p at *
  generalize nx 1082269761 = q at *
  go_enter Try.func13, Try.ntmps13
  go_wp2_with (first
    | (go_at_call 14; refine (C1.out _).mono ?_; rintro e w' ⟨rfl, rfl⟩)
    | (go_at_call 16; refine (C2.out _).mono ?_; rintro e w1 ⟨g, cap, rfl, hc, hb⟩; have HB := Lib.hid hb; clear hb)
    | (go_at_call 9; with_reducible refine (C3.out _).mono ?_; rintro e w' ⟨rfl, rfl⟩)
    | (go_at_call 9; with_reducible refine (C4.out _).mono ?_; rintro e w' ⟨rfl, rfl⟩)
    | (go_at_call 9; with_reducible refine (C5.out _).mono ?_; rintro e w' ⟨rfl, rfl⟩)
    | (go_at_call 11; refine (C6.out _).mono ?_; rintro e w' ⟨rfl, rfl⟩))
  go_returns
  exact ⟨rfl, HB.out⟩
end Go.Proofs.Ytlifnaofppofmaa
