/-
  WALKS of bitset.Down, below and Range.
-/
import Derived.Test.YtfmjekfgfkcleaaDoorBsWalks
namespace Go.Proofs.YtfmjekfgfkcleaaDoor
open Go.RowKit Go.Bs

theorem shr_big (x y : Int) (yk : IntKind) (h0 : 0 ≤ x) (h1 : x < 18446744073709551616) (h : 64 < y) : Op.shift .shr .u64 x yk y = pure (.int .u64 0) := by
  have hm : min y.toNat 64 = 64 := by omega
  have hy : ¬ (y < 0) := by omega
  have e : x.fdiv 18446744073709551616 = 0 := by rw [Int.fdiv_eq_ediv_of_nonneg _ (by decide)]; exact Int.ediv_eq_zero_of_lt h0 h1
  simp [Op.shift, IntKind.bits, hm, hy, e]

set_option maxHeartbeats 400000 in
theorem down_any (s : Nat) (n : Int) (w : World) (h : s < 18446744073709551616) :
    Calls Tryd.prog 24 #[.int .u64 s, .int .i64 n] w fun e w' => e = .returned (.int .u64 (dwn s n : Int)) ∧ w = w' := by
  by_cases h0 : 0 ≤ n
  · by_cases h1 : n ≤ 64
    · go_enter Tryd.func24, Tryd.ntmps24
      go_wp2
      go_ret
      refine ⟨congrArg (fun x => Ending.returned (.int .u64 x)) ?_, rfl⟩
      unfold dwn; simp
    · have hb := shr_big s n .i64 (by omega) (by omega) (by omega)
      rw [dwn_big h (by omega)]
      clear h
      go_enter Tryd.func24, Tryd.ntmps24
      go_wp2
      go_ret
      exact ⟨rfl, rfl⟩
  · rw [dwn_neg (by omega)]
    go_enter Tryd.func24, Tryd.ntmps24
    go_wp2
    go_ret
    exact ⟨rfl, rfl⟩

set_option maxHeartbeats 400000 in
theorem below_any (n : Int) (w : World) :
    Calls Tryd.prog 37 #[.int .i64 n] w fun e w' => e = .returned (.int .u64 (bel n : Int)) ∧ w = w' := by
  by_cases h0 : 0 ≤ n
  · by_cases h1 : n ≤ 64
    · have H := Lib.hid (bel_eq h0 h1)
      go_enter Tryd.func37, Tryd.ntmps37
      go_wp2
      go_ret
      exact ⟨congrArg (fun x => Ending.returned (.int .u64 x)) H.out, rfl⟩
    · have H := Lib.hid (bel_big (n := n) (by omega))
      go_enter Tryd.func37, Tryd.ntmps37
      go_wp2
      go_ret
      exact ⟨congrArg (fun x => Ending.returned (.int .u64 x)) H.out, rfl⟩
  · rw [bel_neg (by omega)]
    go_enter Tryd.func37, Tryd.ntmps37
    go_wp2
    go_ret
    exact ⟨rfl, rfl⟩

set_option maxHeartbeats 400000 in
theorem range_any (a b : Int) (w : World) :
    Calls Tryd.prog 26 #[.int .i64 a, .int .i64 b] w fun e w' => e = .returned (.int .u64 (rng a b : Int)) ∧ w = w' := by
  have H := Lib.hid (andNot_bel a b)
  go_enter Tryd.func26, Tryd.ntmps26
  go_wp2_with (go_at_call 37; refine (below_any _ _).mono ?_; rintro e w' ⟨rfl, rfl⟩)
  rw [H.out]
  go_ret
  exact ⟨rfl, rfl⟩

set_option maxHeartbeats 400000 in
theorem refRange_any (a b : Int) (w : World) :
    Calls Tryd.prog 27 #[.int .i64 a, .int .i64 b] w fun e w' => e = .returned (.int .u64 (rng a b : Int)) ∧ w = w' := by
  rw [← rgk_all]
  go_enter Tryd.func27, Tryd.ntmps27
  go_wp2
  go_loop [5, 6] (fun x i => ∃ k : Nat, k ≤ 64 ∧ i = .int .i64 k ∧ x = .int .u64 (rgk a b k : Int)) (fun _ i => 64 - (intOf i).toNat)
  case atStart => exact ⟨0, Nat.zero_le _, rfl, rfl⟩
  case round =>
    obtain ⟨k, hk, rfl, rfl⟩ := hrel
    have hl := rgk_lt a b k
    by_cases hlt : k < 64
    · by_cases h1 : a ≤ (k : Int)
      · by_cases h2 : (k : Int) < b
        · have HS : Hid (rgk a b (k + 1) = wth (rgk a b k) k) := by unfold Hid; rw [rgk, if_pos ⟨h1, h2⟩]
          go_wp2_with (go_at_call 14; refine (refWith_any _ _ _ hl).mono ?_; rintro e w' ⟨rfl, rfl⟩)
          go_round
          case rel => exact ⟨k + 1, by omega, by go_num, by rw [HS.out]⟩
          case measure => simp [intOf]; omega
        · have HS : Hid (rgk a b (k + 1) = rgk a b k) := by unfold Hid; rw [rgk, if_neg (by omega)]
          go_wp2
          go_round
          case rel => exact ⟨k + 1, by omega, by go_num, by rw [HS.out]⟩
          case measure => simp [intOf]; omega
      · have HS : Hid (rgk a b (k + 1) = rgk a b k) := by unfold Hid; rw [rgk, if_neg (by omega)]
        go_wp2
        go_round
        case rel => exact ⟨k + 1, by omega, by go_num, by rw [HS.out]⟩
        case measure => simp [intOf]; omega
    · obtain rfl : k = 64 := by omega
      go_wp2
      go_ret
      exact ⟨rfl, rfl⟩
end Go.Proofs.YtfmjekfgfkcleaaDoor
