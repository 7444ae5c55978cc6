/-
  THE WALK of the law BitsetSets: true, for every set and integers.
-/
import Derived.Test.YtfmjekfgfkcleaaDoorBsLives
import Derived.Test.YtfmjekfgfkcleaaDoorBsCount
import Derived.Test.YtfmjekfgfkcleaaDoorBsLaid
namespace Go.Proofs.YtfmjekfgfkcleaaDoor
open Go.RowKit Go.Bs

theorem has_rng {x y i : Int} (h0 : 0 ≤ i) (h1 : i < 64) : has (rng x y) i = decide (x ≤ i ∧ i < y) := by
  rw [has_in h0 h1, testBit_rng, Bool.eq_iff_iff]; simp; omega

set_option maxRecDepth 100000 in
set_option maxHeartbeats 3200000 in
theorem sets_walk (s : Nat) (i x y : Int) (w : World) (hs : s < 18446744073709551616) (hv : ErrVars w) :
    Calls Tryd.prog 8 #[.int .u64 s, .int .i64 i, .agg #[.int .i64 x, .int .i64 y]] w fun e w' => e = .returned (.bool true) ∧ Below w.heap.size w w' := by
  have hL : ∀ wx : World, Below w.heap.size w wx → Calls Tryd.prog 17 #[] wx fun e w' => e = .returned (.bool true) ∧ Below w.heap.size w w' := fun wx hb =>
    (lives_any wx (hv.below hb)).mono fun e w' h => ⟨h.1, hb.trans (h.2.mono hb.size)⟩
  clear hv
  have HL := Lib.hid hL
  clear hL
  have HW := Lib.hid (fun w => with_any s i w hs)
  have HO := Lib.hid (fun w => without_any s i w hs)
  have HD0 : Hid (∀ w, Calls Tryd.prog 24 #[.int .u64 s, .int .i64 0] w fun e w' => e = .returned (.int .u64 s) ∧ w = w') := by
    intro w; have := down_any s 0 w hs; rwa [dwn_neg (by omega)] at this
  have HD1 : Hid (∀ w, Calls Tryd.prog 24 #[.int .u64 s, .int .i64 64] w fun e w' => e = .returned (.int .u64 0) ∧ w = w') := by
    intro w; have := down_any s 64 w hs; rwa [dwn_big hs (by omega)] at this
  by_cases h0 : 0 ≤ i
  · by_cases h1 : i ≤ 63
    · have HA : Hid (∀ w, Calls Tryd.prog 11 #[.int .u64 (wth s i : Int), .int .i64 i] w fun e w' => e = .returned (.bool true) ∧ w = w') := by
        intro w; have := has_any (wth s i) i w (wth_lt hs i); rwa [has_wth h0 (by omega)] at this
      have HB : Hid (∀ w, Calls Tryd.prog 11 #[.int .u64 (wot s i : Int), .int .i64 i] w fun e w' => e = .returned (.bool false) ∧ w = w') := by
        intro w; have := has_any (wot s i) i w (wot_lt hs i); rwa [has_wot] at this
      obtain ⟨c, hc⟩ : ∃ c, c = (els (wot s i)).length := ⟨_, rfl⟩
      have hc64 : c ≤ 64 := by rw [hc]; exact elk_len _ 64
      have HCA : Hid (∀ w, Calls Tryd.prog 23 #[.int .u64 (wth s i : Int)] w fun e w' => e = .returned (.int .i64 ((c : Int) + 1)) ∧ w = w') := by
        intro w; have := count_any (wth s i) w (wth_lt hs i); rw [count_wth s i h0 (by omega), ← hc] at this; exact this
      have HCB : Hid (∀ w, Calls Tryd.prog 23 #[.int .u64 (wot s i : Int)] w fun e w' => e = .returned (.int .i64 (c : Int)) ∧ w = w') := by
        intro w; have := count_any (wot s i) w (wot_lt hs i); rw [← hc] at this; exact this
      have HR : Hid (∀ w, Calls Tryd.prog 11 #[.int .u64 (rng x y : Int), .int .i64 i] w fun e w' => e = .returned (.bool (decide (x ≤ i ∧ i < y))) ∧ w = w') := by
        intro w; have := has_any (rng x y) i w (rng_lt x y); rwa [has_rng h0 (by omega)] at this
      clear hc hs
      by_cases hx : x ≤ i
      · by_cases hy : i < y
        · rw [decide_eq_true (show x ≤ i ∧ i < y from ⟨hx, hy⟩)] at HR
          go_enter Tryd.func8, Tryd.ntmps8
          go_wp2_with (first
            | (go_at_call 13; (with_reducible refine (HW.out _).mono ?_); rintro e w' ⟨rfl, rfl⟩)
            | (go_at_call 15; (with_reducible refine (HO.out _).mono ?_); rintro e w' ⟨rfl, rfl⟩)
            | (go_at_call 11; (with_reducible refine (HA.out _).mono ?_); rintro e w' ⟨rfl, rfl⟩)
            | (go_at_call 11; (with_reducible refine (HB.out _).mono ?_); rintro e w' ⟨rfl, rfl⟩)
            | (go_at_call 11; (with_reducible refine (HR.out _).mono ?_); rintro e w' ⟨rfl, rfl⟩)
            | (go_at_call 23; (with_reducible refine (HCA.out _).mono ?_); rintro e w' ⟨rfl, rfl⟩)
            | (go_at_call 23; (with_reducible refine (HCB.out _).mono ?_); rintro e w' ⟨rfl, rfl⟩)
            | (go_at_call 26; (with_reducible refine (range_any x y _).mono ?_); rintro e w' ⟨rfl, rfl⟩)
            | (go_at_call 24; (with_reducible refine (HD0.out _).mono ?_); rintro e w' ⟨rfl, rfl⟩)
            | (go_at_call 24; (with_reducible refine (HD1.out _).mono ?_); rintro e w' ⟨rfl, rfl⟩)
            | (go_at_call 17; refine (HL.out _ ?hb).mono ?_; (case hb => repeat (first | exact Below.refl _ _ | apply Below.drew | (refine Below.alloc ?_ (by simp; try omega) _))); rintro e w' ⟨rfl, hb⟩))
          go_ret
          exact ⟨rfl, hb⟩
        · rw [decide_eq_false (show ¬ (x ≤ i ∧ i < y) from fun h => hy h.2)] at HR
          have hdy : decide (i < y) = false := decide_eq_false hy
          go_enter Tryd.func8, Tryd.ntmps8
          go_wp2_with (first
            | (go_at_call 13; (with_reducible refine (HW.out _).mono ?_); rintro e w' ⟨rfl, rfl⟩)
            | (go_at_call 15; (with_reducible refine (HO.out _).mono ?_); rintro e w' ⟨rfl, rfl⟩)
            | (go_at_call 11; (with_reducible refine (HA.out _).mono ?_); rintro e w' ⟨rfl, rfl⟩)
            | (go_at_call 11; (with_reducible refine (HB.out _).mono ?_); rintro e w' ⟨rfl, rfl⟩)
            | (go_at_call 11; (with_reducible refine (HR.out _).mono ?_); rintro e w' ⟨rfl, rfl⟩)
            | (go_at_call 23; (with_reducible refine (HCA.out _).mono ?_); rintro e w' ⟨rfl, rfl⟩)
            | (go_at_call 23; (with_reducible refine (HCB.out _).mono ?_); rintro e w' ⟨rfl, rfl⟩)
            | (go_at_call 26; (with_reducible refine (range_any x y _).mono ?_); rintro e w' ⟨rfl, rfl⟩)
            | (go_at_call 24; (with_reducible refine (HD0.out _).mono ?_); rintro e w' ⟨rfl, rfl⟩)
            | (go_at_call 24; (with_reducible refine (HD1.out _).mono ?_); rintro e w' ⟨rfl, rfl⟩)
            | (go_at_call 17; refine (HL.out _ ?hb).mono ?_; (case hb => repeat (first | exact Below.refl _ _ | apply Below.drew | (refine Below.alloc ?_ (by simp; try omega) _))); rintro e w' ⟨rfl, hb⟩))
          go_ret
          exact ⟨rfl, hb⟩
      · rw [decide_eq_false (show ¬ (x ≤ i ∧ i < y) from fun h => hx h.1)] at HR
        go_enter Tryd.func8, Tryd.ntmps8
        go_wp2_with (first
          | (go_at_call 13; (with_reducible refine (HW.out _).mono ?_); rintro e w' ⟨rfl, rfl⟩)
          | (go_at_call 15; (with_reducible refine (HO.out _).mono ?_); rintro e w' ⟨rfl, rfl⟩)
          | (go_at_call 11; (with_reducible refine (HA.out _).mono ?_); rintro e w' ⟨rfl, rfl⟩)
          | (go_at_call 11; (with_reducible refine (HB.out _).mono ?_); rintro e w' ⟨rfl, rfl⟩)
          | (go_at_call 11; (with_reducible refine (HR.out _).mono ?_); rintro e w' ⟨rfl, rfl⟩)
          | (go_at_call 23; (with_reducible refine (HCA.out _).mono ?_); rintro e w' ⟨rfl, rfl⟩)
          | (go_at_call 23; (with_reducible refine (HCB.out _).mono ?_); rintro e w' ⟨rfl, rfl⟩)
          | (go_at_call 26; (with_reducible refine (range_any x y _).mono ?_); rintro e w' ⟨rfl, rfl⟩)
          | (go_at_call 24; (with_reducible refine (HD0.out _).mono ?_); rintro e w' ⟨rfl, rfl⟩)
          | (go_at_call 24; (with_reducible refine (HD1.out _).mono ?_); rintro e w' ⟨rfl, rfl⟩)
          | (go_at_call 17; refine (HL.out _ ?hb).mono ?_; (case hb => repeat (first | exact Below.refl _ _ | apply Below.drew | (refine Below.alloc ?_ (by simp; try omega) _))); rintro e w' ⟨rfl, hb⟩))
        go_ret
        exact ⟨rfl, hb⟩
    · have HA : Hid (∀ w, Calls Tryd.prog 11 #[.int .u64 (s : Int), .int .i64 i] w fun e w' => e = .returned (.bool false) ∧ w = w') := by
        intro w; have := has_any s i w hs; rwa [has_out (by omega)] at this
      have HR : Hid (∀ w, Calls Tryd.prog 11 #[.int .u64 (rng x y : Int), .int .i64 i] w fun e w' => e = .returned (.bool false) ∧ w = w') := by
        intro w; have := has_any (rng x y) i w (rng_lt x y); rwa [has_out (by omega)] at this
      have HB := HA
      rw [wth_no (by omega)] at HW
      rw [wot_no (has_out (by omega))] at HO
      clear hs
      go_enter Tryd.func8, Tryd.ntmps8
      go_wp2_with (first
        | (go_at_call 13; (with_reducible refine (HW.out _).mono ?_); rintro e w' ⟨rfl, rfl⟩)
        | (go_at_call 15; (with_reducible refine (HO.out _).mono ?_); rintro e w' ⟨rfl, rfl⟩)
        | (go_at_call 11; (with_reducible refine (HA.out _).mono ?_); rintro e w' ⟨rfl, rfl⟩)
        | (go_at_call 11; (with_reducible refine (HB.out _).mono ?_); rintro e w' ⟨rfl, rfl⟩)
        | (go_at_call 11; (with_reducible refine (HR.out _).mono ?_); rintro e w' ⟨rfl, rfl⟩)
        | (go_at_call 26; (with_reducible refine (range_any x y _).mono ?_); rintro e w' ⟨rfl, rfl⟩)
        | (go_at_call 24; (with_reducible refine (HD0.out _).mono ?_); rintro e w' ⟨rfl, rfl⟩)
        | (go_at_call 24; (with_reducible refine (HD1.out _).mono ?_); rintro e w' ⟨rfl, rfl⟩)
        | (go_at_call 17; refine (HL.out _ ?hb).mono ?_; (case hb => repeat (first | exact Below.refl _ _ | apply Below.drew | (refine Below.alloc ?_ (by simp; try omega) _))); rintro e w' ⟨rfl, hb⟩))
      go_ret
      exact ⟨rfl, hb⟩
  · have HA : Hid (∀ w, Calls Tryd.prog 11 #[.int .u64 (s : Int), .int .i64 i] w fun e w' => e = .returned (.bool false) ∧ w = w') := by
      intro w; have := has_any s i w hs; rwa [has_out (by omega)] at this
    have HR : Hid (∀ w, Calls Tryd.prog 11 #[.int .u64 (rng x y : Int), .int .i64 i] w fun e w' => e = .returned (.bool false) ∧ w = w') := by
      intro w; have := has_any (rng x y) i w (rng_lt x y); rwa [has_out (by omega)] at this
    have HB := HA
    rw [wth_no (by omega)] at HW
    rw [wot_no (has_out (by omega))] at HO
    clear hs
    go_enter Tryd.func8, Tryd.ntmps8
    go_wp2_with (first
      | (go_at_call 13; (with_reducible refine (HW.out _).mono ?_); rintro e w' ⟨rfl, rfl⟩)
      | (go_at_call 15; (with_reducible refine (HO.out _).mono ?_); rintro e w' ⟨rfl, rfl⟩)
      | (go_at_call 11; (with_reducible refine (HA.out _).mono ?_); rintro e w' ⟨rfl, rfl⟩)
      | (go_at_call 11; (with_reducible refine (HB.out _).mono ?_); rintro e w' ⟨rfl, rfl⟩)
      | (go_at_call 11; (with_reducible refine (HR.out _).mono ?_); rintro e w' ⟨rfl, rfl⟩)
      | (go_at_call 26; (with_reducible refine (range_any x y _).mono ?_); rintro e w' ⟨rfl, rfl⟩)
      | (go_at_call 24; (with_reducible refine (HD0.out _).mono ?_); rintro e w' ⟨rfl, rfl⟩)
      | (go_at_call 24; (with_reducible refine (HD1.out _).mono ?_); rintro e w' ⟨rfl, rfl⟩)
      | (go_at_call 17; refine (HL.out _ ?hb).mono ?_; (case hb => repeat (first | exact Below.refl _ _ | apply Below.drew | (refine Below.alloc ?_ (by simp; try omega) _))); rintro e w' ⟨rfl, hb⟩))
    go_ret
    exact ⟨rfl, hb⟩

theorem bitsetSets_walk0 (a0 : Int) (w0 : (Lit.int .u64 a0).wf = true) (a1 : Int) (_ : (Lit.int .i64 a1).wf = true) (zs : List Int) (hz : zs.length = 2) (_ : ∀ z ∈ zs, (Lit.int .i64 z).wf = true) (W : World) (hl : LaidFacts W) :
    Calls Tryd.prog 8 #[.int .u64 a0, .int .i64 a1, .agg (zs.map fun z => Value.int .i64 z).toArray] W fun e w' => e = .returned (.bool true) ∧ Below W.heap.size W w' := by
  obtain ⟨n, rfl, hn⟩ := nat_of_u64 w0
  match zs, hz with
  | [x, y], _ => exact sets_walk n a1 x y W hn hl.errs
end Go.Proofs.YtfmjekfgfkcleaaDoor
