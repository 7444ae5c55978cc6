/-
  WALKS of bitset.Down, below and Range.
-/
import Derived.Test.YtjighkagmnoncaaBsWalks
namespace Go.Proofs.Ytjighkagmnoncaa
open Go.RowKit Go.Bs

theorem shr_big (x y : Int) (yk : IntKind) (h0 : 0 ≤ x) (h1 : x < 18446744073709551616) (h : 64 < y) : Op.shift .shr .u64 x yk y = pure (.int .u64 0) := by
  have hm : min y.toNat 64 = 64 := by omega
  have hy : ¬ (y < 0) := by omega
  have e : x.fdiv 18446744073709551616 = 0 := by rw [Int.fdiv_eq_ediv_of_nonneg _ (by decide)]; exact Int.ediv_eq_zero_of_lt h0 h1
  simp [Op.shift, IntKind.bits, hm, hy, e]

set_option maxHeartbeats 400000 in
theorem down_any (s : Nat) (n : Int) (w : World) (h : s < 18446744073709551616) :
    Calls Try.prog 25 #[.int .u64 s, .int .i64 n] w fun e w' => e = .returned (.int .u64 (dwn s n : Int)) ∧ w = w' := by
  by_cases h0 : 0 ≤ n
  · by_cases h1 : n ≤ 64
    · go_enter Try.func25, Try.ntmps25
      go_wp2
      go_ret
      refine ⟨congrArg (fun x => Ending.returned (.int .u64 x)) ?_, rfl⟩
      unfold dwn; simp
    · have hb := shr_big s n .i64 (by omega) (by omega) (by omega)
      rw [dwn_big h (by omega)]
      clear h
      go_enter Try.func25, Try.ntmps25
      go_wp2
      go_ret
      exact ⟨rfl, rfl⟩
  · rw [dwn_neg (by omega)]
    go_enter Try.func25, Try.ntmps25
    go_wp2
    go_ret
    exact ⟨rfl, rfl⟩

end Go.Proofs.Ytjighkagmnoncaa
