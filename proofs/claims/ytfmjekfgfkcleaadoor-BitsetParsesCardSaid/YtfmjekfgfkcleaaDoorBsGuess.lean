/-
  THE WALK of the law's own helper guess: it returns some set; what was there is as it was.
-/
import Derived.Test.YtfmjekfgfkcleaaDoorBsWalks
namespace Go.Proofs.YtfmjekfgfkcleaaDoor
open Go.RowKit Go.Bs

set_option maxRecDepth 100000 in
set_option maxHeartbeats 2000000 in
theorem guess_any (t : ByteArray) (w : World) (ht : t.size ≤ 281474976710656) :
    Calls Tryd.prog 31 #[.string t] w fun e w' => ∃ g : Nat, g < 18446744073709551616 ∧ e = .returned (.int .u64 g) ∧ w' = w := by
  go_enter Tryd.func31, Tryd.ntmps31
  go_wp2
  go_loop [3, 4, 5, 6] (fun s n d i => ∃ (g m q k : Nat), s = .int .u64 g ∧ n = .int .i64 m ∧ d = .int .i64 q ∧ i = .int .i64 k ∧ g < 18446744073709551616 ∧ m ≤ 99 ∧ q ≤ k ∧ k ≤ 400) (fun _ _ _ i => 400 - (intOf i).toNat)
  case atStart => exact ⟨0, 0, 0, 0, rfl, rfl, rfl, rfl, by decide, by decide, by decide, by decide⟩
  case round =>
    obtain ⟨g, m, q, k, rfl, rfl, rfl, rfl, hg, hm, hq, hk⟩ := hrel
    have HG := Lib.hid hg
    by_cases hlt : k < 400
    · by_cases hl : k < t.size
      · by_cases hd : 48 ≤ t[k].toNat ∧ t[k].toNat ≤ 57
        · obtain ⟨hd0, hd1⟩ := hd
          go_wp2
          refine ⟨⟨g, (if 99 < (m : Int) * 10 + t[k].toNat - 48 then 99 else (m : Int) * 10 + t[k].toNat - 48).toNat, q + 1, k + 1, rfl, ?_, rfl, rfl, hg, ?_, by omega, by omega⟩, ?_⟩
          · congr 1; split <;> omega
          · split <;> omega
          · simp [intOf]; omega
        · by_cases hq0 : q = 0
          · subst hq0
            go_wp2
            all_goals exact ⟨⟨g, 0, 0, k + 1, rfl, rfl, rfl, rfl, hg, by omega, by omega, by omega⟩, by simp [intOf]; omega⟩
          · have hq1 : 0 < q := by omega
            go_wp2_with (go_at_call 14; refine (refWith_any _ _ _ HG.out).mono ?_; rintro e w' ⟨rfl, rfl⟩)
            all_goals exact ⟨⟨wth g m, 0, 0, k + 1, rfl, rfl, rfl, rfl, wth_lt HG.out m, by omega, by omega, by omega⟩, by simp [intOf]; omega⟩
      · by_cases hke : k = t.size
        · subst hke
          by_cases hq0 : q = 0
          · subst hq0
            go_wp2
            all_goals exact ⟨⟨g, 0, 0, t.size + 1, rfl, rfl, rfl, rfl, hg, by omega, by omega, by omega⟩, by simp [intOf]; omega⟩
          · have hq1 : 0 < q := by omega
            go_wp2_with (go_at_call 14; refine (refWith_any _ _ _ HG.out).mono ?_; rintro e w' ⟨rfl, rfl⟩)
            all_goals exact ⟨⟨wth g m, 0, 0, t.size + 1, rfl, rfl, rfl, rfl, wth_lt HG.out m, by omega, by omega, by omega⟩, by simp [intOf]; omega⟩
        · have hk2 : t.size < k := by omega
          go_wp2
          all_goals go_ret
          all_goals exact ⟨g, hg, rfl, rfl⟩
    · obtain rfl : k = 400 := by omega
      go_wp2
      all_goals go_ret
      all_goals exact ⟨g, hg, rfl, rfl⟩
end Go.Proofs.YtfmjekfgfkcleaaDoor
