/-
  WALKS of layer 8: the reference whole (Rate, Bits, Need, Basic, Best, Slots).
-/
import Derived.Test.YtehmolfnpppfpaaDoorRows
import Derived.Test.YtehmolfnpppfpaaDoorPhMath
import Derived.WalkKit
import Derived.WalkSpells
import Derived.WalkLawsBesides
import Derived.Deep.QuietTactic
import Derived.BigQuiet
import Derived.Lib.Hide
import Derived.Handy
import Derived.Deep.LoopGhost
namespace Go.Proofs.YtehmolfnpppfpaaDoor
open Go.RowKit Go.Ph

theorem refRate_any (r : Int) (w : World) :
    Calls Tryd.prog 21 #[.int .i64 r] w fun e w' => e = .returned (.bool (decide (rt r))) ∧ w = w' := by
  by_cases h0 : 0 ≤ r
  · by_cases h8 : r < 8
    · rw [decide_eq_true (show rt r from ⟨h0, h8⟩)]
      go_enter Tryd.func21, Tryd.ntmps21
      go_wp2
      go_returns
      exact ⟨rfl, rfl⟩
    · rw [decide_eq_false (show ¬ rt r from fun h => h8 h.2)]
      go_enter Tryd.func21, Tryd.ntmps21
      go_wp2
      go_returns
      exact ⟨rfl, rfl⟩
  · rw [decide_eq_false (show ¬ rt r from fun h => h0 h.1)]
    go_enter Tryd.func21, Tryd.ntmps21
    go_wp2
    go_returns
    exact ⟨rfl, rfl⟩

set_option maxRecDepth 100000 in
set_option maxHeartbeats 2000000 in
theorem refBits_any (r : Int) (w : World) :
    Calls Tryd.prog 12 #[.int .i64 r] w fun e w' => e = .returned (.int .i64 (bt r)) ∧ Below w.heap.size w w' := by
  have HR := Lib.hid (refRate_any r)
  by_cases h : rt r
  · rw [decide_eq_true h] at HR
    have hc := rates h
    rcases hc with ⟨e, h1, -⟩ | ⟨e, h1, -⟩ | ⟨e, h1, -⟩ | ⟨e, h1, -⟩ | ⟨e, h1, -⟩ | ⟨e, h1, -⟩ | ⟨e, h1, -⟩ | ⟨e, h1, -⟩ <;>
    · rw [h1]
      clear h h1
      subst e
      go_enter Tryd.func12, Tryd.ntmps12
      go_wp2_with (go_at_call 21; refine (HR.out _).mono ?_; rintro e w' ⟨rfl, rfl⟩)
      go_returns
      exact ⟨rfl, (Below.refl _ _).alloc (Nat.le_refl _) _⟩
  · rw [decide_eq_false h] at HR
    rw [(norate h).1]
    clear h
    go_enter Tryd.func12, Tryd.ntmps12
    go_wp2_with (go_at_call 21; refine (HR.out _).mono ?_; rintro e w' ⟨rfl, rfl⟩)
    go_returns
    exact ⟨rfl, Below.refl _ _⟩

set_option maxRecDepth 100000 in
set_option maxHeartbeats 2000000 in
theorem refNeed_any (r : Int) (w : World) :
    Calls Tryd.prog 14 #[.int .i64 r] w fun e w' => e = .returned (.int .i64 (nd r)) ∧ Below w.heap.size w w' := by
  have HR := Lib.hid (refRate_any r)
  by_cases h : rt r
  · rw [decide_eq_true h] at HR
    have hc := rates h
    rcases hc with ⟨e, -, h1, -⟩ | ⟨e, -, h1, -⟩ | ⟨e, -, h1, -⟩ | ⟨e, -, h1, -⟩ | ⟨e, -, h1, -⟩ | ⟨e, -, h1, -⟩ | ⟨e, -, h1, -⟩ | ⟨e, -, h1, -⟩ <;>
    · rw [h1]
      clear h h1
      subst e
      go_enter Tryd.func14, Tryd.ntmps14
      go_wp2_with (go_at_call 21; refine (HR.out _).mono ?_; rintro e w' ⟨rfl, rfl⟩)
      go_returns
      exact ⟨rfl, (Below.refl _ _).alloc (Nat.le_refl _) _⟩
  · rw [decide_eq_false h] at HR
    rw [(norate h).2.1]
    clear h
    go_enter Tryd.func14, Tryd.ntmps14
    go_wp2_with (go_at_call 21; refine (HR.out _).mono ?_; rintro e w' ⟨rfl, rfl⟩)
    go_returns
    exact ⟨rfl, Below.refl _ _⟩

set_option maxRecDepth 100000 in
set_option maxHeartbeats 2000000 in
theorem refBasic_any (r : Int) (w : World) :
    Calls Tryd.prog 16 #[.int .i64 r] w fun e w' => e = .returned (.int .i64 (bas r)) ∧ w = w' := by
  have HR := Lib.hid (refRate_any r)
  by_cases h : rt r
  · rw [decide_eq_true h] at HR
    have hc := rates h
    rcases hc with ⟨e, -, -, h1⟩ | ⟨e, -, -, h1⟩ | ⟨e, -, -, h1⟩ | ⟨e, -, -, h1⟩ | ⟨e, -, -, h1⟩ | ⟨e, -, -, h1⟩ | ⟨e, -, -, h1⟩ | ⟨e, -, -, h1⟩ <;>
    · rw [h1]
      clear h h1
      subst e
      go_enter Tryd.func16, Tryd.ntmps16
      go_wp2_with (go_at_call 21; refine (HR.out _).mono ?_; rintro e w' ⟨rfl, rfl⟩)
      go_returns
      exact ⟨rfl, rfl⟩
  · rw [decide_eq_false h] at HR
    rw [(norate h).2.2]
    clear h
    go_enter Tryd.func16, Tryd.ntmps16
    go_wp2_with (go_at_call 21; refine (HR.out _).mono ?_; rintro e w' ⟨rfl, rfl⟩)
    go_returns
    exact ⟨rfl, rfl⟩

set_option maxRecDepth 100000 in
set_option maxHeartbeats 2000000 in
theorem refBest_any (l : Int) (w : World) :
    Calls Tryd.prog 18 #[.int .i64 l] w fun e w' => e = .returned (.int .i64 (bst l)) ∧ Below w.heap.size w w' := by
  have CN := Lib.hid refNeed_any
  go_enter Tryd.func18, Tryd.ntmps18
  go_wp2
  go_loopw [3, 4] (fun b i wr => ∃ k : Nat, k ≤ 8 ∧ i = .int .i64 k ∧ b = .int .i64 (bstTo l k) ∧ Below w.heap.size w wr) (fun _ i _ => 8 - (intOf i).toNat)
  case atStart => exact ⟨0, by decide, rfl, rfl, Below.refl _ _⟩
  case round =>
    obtain ⟨k, hk, rfl, rfl, hb⟩ := hrel
    have HB := Lib.hid hb
    have HS : Hid (bstTo l (k + 1) = if nd (k : Int) ≤ l then (k : Int) else bstTo l k) := rfl
    have CK := Lib.hid (CN.out (k : Int))
    clear hb CN
    by_cases hlt : k < 8
    · by_cases hn : nd (k : Int) ≤ l
      · have HS' : Hid (bstTo l (k + 1) = k) := HS.out.trans (if_pos hn)
        clear HS
        generalize nd (k : Int) = z at *
        go_wp2_with (go_at_call 14; refine (CK.out _).mono ?_; rintro e w' ⟨rfl, hb⟩; have HB2 := Lib.hid (HB.out.trans (hb.mono HB.out.size)); clear hb)
        go_roundw
        case rel => exact ⟨k + 1, by omega, by go_num, by rw [HS'.out], HB2.out⟩
        case measure => simp [intOf]; omega
      · have HS' : Hid (bstTo l (k + 1) = bstTo l k) := HS.out.trans (if_neg hn)
        clear HS
        generalize nd (k : Int) = z at *
        go_wp2_with (go_at_call 14; refine (CK.out _).mono ?_; rintro e w' ⟨rfl, hb⟩; have HB2 := Lib.hid (HB.out.trans (hb.mono HB.out.size)); clear hb)
        go_roundw
        case rel => exact ⟨k + 1, by omega, by go_num, by rw [HS'.out], HB2.out⟩
        case measure => simp [intOf]; omega
    · obtain rfl : k = 8 := by omega
      rw [bst_to]
      go_wp2
      go_returns
      exact ⟨rfl, HB.out⟩

/-- What is left behind k slots. -/
theorem left_step {b n : Int} {k : Nat} (hb : 0 < b) (h : 0 < 8 * n - b * k) : (k : Int) + 1 ≤ (8 * n + b - 1) / b := by
  rw [Int.le_ediv_iff_mul_le hb, Int.add_mul, Int.one_mul, Int.mul_comm (k : Int) b]
  omega
theorem left_end {b n : Int} {k : Nat} (hb : 0 < b) (hk : (k : Int) ≤ (8 * n + b - 1) / b) (h : ¬ 0 < 8 * n - b * k) : (8 * n + b - 1) / b = k := by
  have h1 : (8 * n + b - 1) / b < (k : Int) + 1 := by
    rw [Int.ediv_lt_iff_lt_mul hb, Int.add_mul, Int.one_mul, Int.mul_comm (k : Int) b]
    omega
  omega

set_option maxRecDepth 100000 in
set_option maxHeartbeats 4000000 in
theorem refSlots_any (r n : Int) (w : World) :
    Calls Tryd.prog 19 #[.int .i64 r, .int .i64 n] w fun e w' => e = .returned (.tuple #[.int .i64 (slo r n), .int .i64 (sle r n)]) ∧ Below w.heap.size w w' := by
  have HR := Lib.hid (refRate_any r)
  have HBT := Lib.hid (refBits_any r)
  by_cases h : rt r
  case neg =>
    rw [decide_eq_false h] at HR
    rw [(slo_no (n := n) fun hh => h hh.1).1, (slo_no (n := n) fun hh => h hh.1).2]
    clear h HBT
    go_enter Tryd.func19, Tryd.ntmps19
    go_wp2_with (go_at_call 21; refine (HR.out _).mono ?_; rintro e w' ⟨rfl, rfl⟩)
    go_returns
    exact ⟨rfl, Below.refl _ _⟩
  rw [decide_eq_true h] at HR
  by_cases hn0 : 0 ≤ n
  case neg =>
    rw [(slo_no (r := r) (n := n) fun hh => hn0 hh.2.1).1, (slo_no (r := r) (n := n) fun hh => hn0 hh.2.1).2]
    clear h HBT
    go_enter Tryd.func19, Tryd.ntmps19
    go_wp2_with (go_at_call 21; refine (HR.out _).mono ?_; rintro e w' ⟨rfl, rfl⟩)
    go_returns
    exact ⟨rfl, Below.refl _ _⟩
  by_cases hn8 : n ≤ 8192
  case neg =>
    rw [(slo_no (r := r) (n := n) fun hh => hn8 hh.2.2).1, (slo_no (r := r) (n := n) fun hh => hn8 hh.2.2).2]
    clear h HBT
    go_enter Tryd.func19, Tryd.ntmps19
    go_wp2_with (go_at_call 21; refine (HR.out _).mono ?_; rintro e w' ⟨rfl, rfl⟩)
    go_returns
    exact ⟨rfl, Below.refl _ _⟩
  have hoct : oct n := ⟨hn0, hn8⟩
  have hbp := bt_pos h
  have hdb := dur_bounds h hoct
  have hd : dur (bt r) n = 2 + (8 * n + bt r - 1) / bt r := rfl
  rw [(slo_ok h hoct).1, (slo_ok h hoct).2]
  generalize dur (bt r) n = d at *
  generalize bt r = b at *
  have hbp' : 0 < b := by omega
  have LS := Lib.hid (fun k : Nat => left_step (n := n) (k := k) hbp')
  have LE := Lib.hid (fun k : Nat => left_end (n := n) (k := k) hbp')
  generalize (8 * n + b - 1) / b = q at *
  have hq : d = 2 + q := hd
  clear h hoct hd
  go_enter Tryd.func19, Tryd.ntmps19
  go_wp2_with (go_at_call 21; refine (HR.out _).mono ?_; rintro e w' ⟨rfl, rfl⟩)
  go_loopw [6, 7] (fun c l wr => ∃ k : Nat, (k : Int) ≤ q ∧ c = .int .i64 (2 + (k : Int)) ∧ l = .int .i64 (8 * n - b * k) ∧ Below w.heap.size w wr) (fun c _ _ => (q + 2 - intOf c).toNat)
  case atStart => exact ⟨0, by omega, by simp, by simp, Below.refl _ _⟩
  case round =>
    obtain ⟨k, hk, rfl, rfl, hb⟩ := hrel
    have HB := Lib.hid hb
    have hbk : b * (k : Int) ≤ 216 * 3000 := by
      have h1 : (k : Int) ≤ 3000 := by omega
      exact Int.le_trans (Int.mul_le_mul_of_nonneg_right (by omega : b ≤ 216) (by omega)) (by omega)
    have hbk0 : 0 ≤ b * (k : Int) := Int.mul_nonneg (by omega) (by omega)
    have HN : Hid (8 * n - b * ((k + 1 : Nat) : Int) = 8 * n - b * (k : Int) - b) := by
      show _ = _
      rw [Int.natCast_add, Int.mul_add]; simp; omega
    have hls := LS.out k
    have hle := LE.out k
    generalize b * (k : Int) = p at *
    clear hb
    by_cases hlt : 0 < 8 * n - p
    · have hkq := hls hlt
      clear hls hle
      go_wp2_with (go_at_call 12; refine (HBT.out _).mono ?_; rintro e w' ⟨rfl, hb⟩; have HB2 := Lib.hid (HB.out.trans (hb.mono HB.out.size)); clear hb)
      go_roundw
      case rel => exact ⟨k + 1, by omega, by go_num, by rw [HN.out], HB2.out⟩
      case measure => simp [intOf]; omega
    · have hkq := hle hk (by omega)
      clear hls hle
      obtain rfl : q = k := hkq
      subst hq
      go_wp2
      go_returns
      exact ⟨rfl, HB.out⟩
end Go.Proofs.YtehmolfnpppfpaaDoor
