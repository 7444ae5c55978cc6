/-
  THE WALK of bitset.Count (over math/bits.OnesCount64).
-/
import Derived.Test.YtfmjekfgfkcleaaDoorBsWalks
import Derived.Test.YtfmjekfgfkcleaaDoorBsPop
namespace Go.Proofs.YtfmjekfgfkcleaaDoor
open Go.RowKit Go.Bs

set_option maxHeartbeats 1000000 in
theorem ones_any (s : Nat) (w : World) (hs : s < 18446744073709551616) :
    Calls Tryd.prog 36 #[.int .u64 s] w fun e w' => e = .returned (.int .i64 (cb 64 s : Int)) ∧ w = w' := by
  obtain ⟨x1, x2, x3, x4, x5, x6, e1, e2, e3, e4, e5, e6, e7, e8⟩ := pop_forms s hs
  have HE := Lib.hid (And.intro e1 (And.intro e2 (And.intro e3 (And.intro e4 (And.intro e5 (And.intro e6 (And.intro e7 e8)))))))
  clear e1 e2 e3 e4 e5 e6 e7 e8 hs
  go_enter Tryd.func36, Tryd.ntmps36
  go_wp2
  obtain ⟨e1, e2, e3, e4, e5, e6, e7, e8⟩ := HE.out
  simp only [e1, e2, e3, e4, e5, e6, e7, e8]
  go_ret
  exact ⟨rfl, rfl⟩

theorem els_len {s : Nat} (k : Nat) (hk : k ≤ 64) : (elk s k).length = cb k s := by
  induction k with
  | zero => rfl
  | succ k ih =>
    rw [cb_top, ← ih (by omega)]
    cases h : has s k
    · rw [elk_no h]
      rw [has_in (by omega) (by omega), Int.toNat_natCast] at h
      rw [h]; rfl
    · rw [elk_yes h]
      rw [has_in (by omega) (by omega), Int.toNat_natCast] at h
      rw [h]; simp

set_option maxHeartbeats 1000000 in
theorem count_any (s : Nat) (w : World) (hs : s < 18446744073709551616) :
    Calls Tryd.prog 23 #[.int .u64 s] w fun e w' => e = .returned (.int .i64 ((els s).length : Int)) ∧ w = w' := by
  have HL : els s = elk s 64 := rfl
  rw [HL, els_len 64 (by omega)]
  have hO := ones_any s w hs
  clear hs HL
  go_enter Tryd.func23, Tryd.ntmps23
  go_wp2_with (go_at_call 36; refine hO.mono ?_; rintro e w' ⟨rfl, rfl⟩)
  go_ret
  exact ⟨rfl, rfl⟩

theorem elk_wth_wot (s : Nat) (i : Int) (h0 : 0 ≤ i) : ∀ k : Nat, k ≤ 64 → (elk (wth s i) k).length = (elk (wot s i) k).length + if i < k then 1 else 0
  | 0, _ => by rw [if_neg (by omega)]; rfl
  | k + 1, hk => by
    have ih := elk_wth_wot s i h0 k (by omega)
    by_cases hi : i = k
    · subst hi
      rw [if_neg (by omega)] at ih
      rw [elk_yes (has_wth (by omega) (by omega)), elk_no (has_wot s _), if_pos (by omega)]
      simp; omega
    · have hE : has (wth s i) k = has (wot s i) k := by
        rw [has_in (by omega) (by omega), has_in (by omega) (by omega), testBit_wth, testBit_wot, decide_eq_false (by omega)]
        simp
      have e : (if i < ((k + 1 : Nat) : Int) then 1 else 0) = (if i < (k : Int) then 1 else 0) := by
        by_cases h : i < (k : Int)
        · rw [if_pos h, if_pos (by omega)]
        · rw [if_neg h, if_neg (by omega)]
      rw [e]
      cases h : has (wot s i) k
      · rw [elk_no (hE.trans h), elk_no h, ih]
      · rw [elk_yes (hE.trans h), elk_yes h, List.length_append, List.length_append, ih]; omega
theorem count_wth (s : Nat) (i : Int) (h0 : 0 ≤ i) (h1 : i < 64) : (els (wth s i)).length = (els (wot s i)).length + 1 := by
  have := elk_wth_wot s i h0 64 (by omega)
  rw [if_pos (by omega)] at this
  exact this
end Go.Proofs.YtfmjekfgfkcleaaDoor
