/-
  WALKS of bitset.Of and of the reference's Of over a slice of integers: each folds 'with' over the elements; the world is as it was.
-/
import Derived.Test.YtfmjekfgfkcleaaDoorBsWalks
namespace Go.Proofs.YtfmjekfgfkcleaaDoor
open Go.RowKit Go.Bs

/-- What Of returns for a list. -/
def ofl (zs : List Int) : Nat := zs.foldl wth 0
theorem foldl_lt : ∀ (zs : List Int) (s : Nat), s < 18446744073709551616 → zs.foldl wth s < 18446744073709551616
  | [], _, h => h
  | z :: zs, _, h => foldl_lt zs _ (wth_lt h z)
theorem ofl_lt (zs : List Int) : ofl zs < 18446744073709551616 := foldl_lt zs 0 (by decide)
theorem ofl_snoc (zs : List Int) (k : Nat) (h : k < zs.length) : ofl (zs.take (k + 1)) = wth (ofl (zs.take k)) zs[k] := by
  rw [List.take_succ_eq_append_getElem h, ofl, List.foldl_append]
  simp [ofl]

set_option maxHeartbeats 400000 in
theorem of_any (zs : List Int) (b off c : Nat) (w : World) (hz : zs.length ≤ 1000000) (hc : ∀ j, j < zs.length → w.cell? ⟨b, off + j, none⟩ = some (.int .i64 (zs[j]?.getD 0))) :
    Calls Tryd.prog 9 #[.slice (some ⟨b, off, none⟩) zs.length c] w fun e w' => e = .returned (.int .u64 (ofl zs : Int)) ∧ w = w' := by
  go_enter Tryd.func9, Tryd.ntmps9
  go_wp2
  go_loop [3, 8] (fun x i => ∃ k : Nat, k ≤ zs.length ∧ i = .int .i64 k ∧ x = .int .u64 (ofl (zs.take k) : Int)) (fun _ i => zs.length - (intOf i).toNat)
  case atStart => exact ⟨0, Nat.zero_le _, rfl, rfl⟩
  case round =>
    obtain ⟨k, hk, rfl, rfl⟩ := hrel
    by_cases hlt : k < zs.length
    · have hcell := hc k hlt
      have hl := ofl_lt (zs.take k)
      have HS := Lib.hid (ofl_snoc zs k hlt)
      go_wp2_with (go_at_call 13; refine (with_any _ _ _ hl).mono ?_; rintro e w' ⟨rfl, rfl⟩)
      go_round
      case rel => exact ⟨k + 1, by omega, by go_num, by rw [HS.out]⟩
      case measure => simp [intOf]; omega
    · obtain rfl : k = zs.length := by omega
      go_wp2
      go_ret
      exact ⟨rfl, rfl⟩

set_option maxHeartbeats 400000 in
theorem of_nil (w : World) : Calls Tryd.prog 9 #[.slice none 0 0] w fun e w' => e = .returned (.int .u64 0) ∧ w = w' := by
  go_enter Tryd.func9, Tryd.ntmps9
  go_wp2
  go_loop [3, 8] (fun x i => i = .int .i64 0 ∧ x = .int .u64 0) (fun _ _ => 0)
  case atStart => exact ⟨rfl, rfl⟩
  case round =>
    obtain ⟨rfl, rfl⟩ := hrel
    go_wp2
    go_ret
    exact ⟨rfl, rfl⟩

set_option maxHeartbeats 400000 in
theorem refOf_any (zs : List Int) (b off c : Nat) (w : World) (hz : zs.length ≤ 1000000) (hc : ∀ j, j < zs.length → w.cell? ⟨b, off + j, none⟩ = some (.int .i64 (zs[j]?.getD 0))) :
    Calls Tryd.prog 10 #[.slice (some ⟨b, off, none⟩) zs.length c] w fun e w' => e = .returned (.int .u64 (ofl zs : Int)) ∧ w = w' := by
  go_enter Tryd.func10, Tryd.ntmps10
  go_wp2
  go_loop [3, 4] (fun x i => ∃ k : Nat, k ≤ zs.length ∧ i = .int .i64 k ∧ x = .int .u64 (ofl (zs.take k) : Int)) (fun _ i => zs.length - (intOf i).toNat)
  case atStart => exact ⟨0, Nat.zero_le _, rfl, rfl⟩
  case round =>
    obtain ⟨k, hk, rfl, rfl⟩ := hrel
    by_cases hlt : k < zs.length
    · have hcell := hc k hlt
      have hl := ofl_lt (zs.take k)
      have HS := Lib.hid (ofl_snoc zs k hlt)
      go_wp2_with (go_at_call 14; refine (refWith_any _ _ _ hl).mono ?_; rintro e w' ⟨rfl, rfl⟩)
      go_round
      case rel => exact ⟨k + 1, by omega, by go_num, by rw [HS.out]⟩
      case measure => simp [intOf]; omega
    · obtain rfl : k = zs.length := by omega
      go_wp2
      go_ret
      exact ⟨rfl, rfl⟩
end Go.Proofs.YtfmjekfgfkcleaaDoor
