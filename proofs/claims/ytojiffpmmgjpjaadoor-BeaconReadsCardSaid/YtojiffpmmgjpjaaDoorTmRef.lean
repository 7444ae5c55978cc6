/-
  WALKS of the reference of layer 13: Check, octet, the ends, Encode.
-/
import Derived.Test.YtojiffpmmgjpjaaDoorTmProg
namespace Go.Proofs.YtojiffpmmgjpjaaDoor
open Go.RowKit Go.Bs Go.Tm

set_option maxHeartbeats 400000 in
theorem refCheck13_any (c p : Int) (g : Bool) (s : Nat) (w : World) (h : s < 18446744073709551616) :
    Calls Tryd.prog 54 #[.agg #[.int .i64 c, .int .i64 p, .bool g, .int .u64 (s : Int)]] w fun e w' => e = .returned (.int .i64 (chk c p s)) ∧ Below w.heap.size w w' := by
  have HC : Hid (chk c p s = if cnt c p = true then (if has s 0 = true then 3 else 0) else 4) := rfl
  have CH := Lib.hid fun w => refHas_any s 0 w h
  clear h
  by_cases hc : cnt c p = true
  · obtain ⟨c0, c1, c2⟩ := cnt_iff.1 hc
    rw [if_pos hc] at HC
    have n0 : ¬ p < 1 := by omega
    have n1 : ¬ 255 < p := by omega
    have n2 : ¬ c < 0 := by omega
    have n3 : ¬ p ≤ c := by omega
    clear hc c0 c1 c2
    cases hh : has s 0 <;> rw [hh] at HC CH
    all_goals
      go_enter Tryd.func54, Tryd.ntmps54
      go_wp2_with (go_at_call 75; refine (CH.out _).mono ?_; rintro e w' ⟨rfl, rfl⟩)
      go_ret
      exact ⟨by rw [HC.out]; rfl, (Below.refl _ _).alloc (Nat.le_refl _) _⟩
  · rw [if_neg hc] at HC
    have HN : Hid (¬ (0 ≤ c ∧ c < p ∧ p ≤ 255)) := fun h => hc (cnt_iff.2 h)
    clear hc
    go_enter Tryd.func54, Tryd.ntmps54
    go_wp2
    all_goals first
      | (go_ret; exact ⟨by rw [HC.out]; rfl, (Below.refl _ _).alloc (Nat.le_refl _) _⟩)
      | (exfalso; have := HN.out; omega)

set_option maxHeartbeats 1000000 in
theorem refOctet13_any (s i : Nat) (hi : i < 8) (w : World) (h : s < 18446744073709551616) :
    Calls Tryd.prog 52 #[.int .u64 (s : Int), .int .i64 (i : Int)] w fun e w' => e = .returned (.int .i64 (oc s i : Int)) ∧ w = w' := by
  have Hh := Lib.hid h
  have HL := Lib.hid (oc_lt s i)
  clear h
  go_enter Tryd.func52, Tryd.ntmps52
  go_wp2
  go_loopg [5, 6, 7] 8 (fun n x y i' wx => ∃ k z q : Nat, k + n = 8 ∧ i' = .int .i64 (k : Int) ∧ x = .int .i64 (z : Int) ∧ y = .int .i64 (q : Int) ∧ Aside (z = oc s i % 2 ^ k ∧ q = 2 ^ k ∧ z < 256 ∧ q ≤ 256) ∧ w = wx)
  case atStart => exact ⟨0, 0, 1, rfl, rfl, rfl, rfl, ⟨(Nat.mod_one _).symm, rfl, by decide, by decide⟩, rfl⟩
  case round =>
    obtain ⟨k, z, q, hkn, rfl, rfl, rfl, HI, rfl⟩ := hrel
    cases gk with
    | zero =>
      obtain rfl : k = 8 := hkn
      have HZ : Hid (z = oc s i) := by
        have := HI.out.1
        rw [Nat.mod_eq_of_lt (show oc s i < 2 ^ 8 from HL.out)] at this
        exact this
      go_wp2
      go_ret
      exact ⟨by rw [HZ.out]; rfl, rfl⟩
    | succ n =>
      have hk : k < 8 := by omega
      have hki : (k : Int) < 8 := by omega
      have HS := Lib.hid (oc_step (s := s) hi hk)
      obtain ⟨-, hq, hz, hq2⟩ := HI.out
      have hpw : 2 ^ k ≤ 128 := Nat.pow_le_pow_right (n := 2) (by decide) (show k ≤ 7 by omega)
      have HQ : Hid (q * 2 = 2 ^ (k + 1)) := by unfold Hid; rw [hq, Nat.pow_succ]
      have hq3 : q ≤ 128 := by rw [hq]; exact hpw
      have HM : Hid (oc s i % 2 ^ (k + 1) < 256) := Nat.lt_of_le_of_lt (Nat.mod_le _ _) HL.out
      clear hq hpw
      cases hb : has s (8 * (i : Int) + k)
      · go_wp2_with (go_at_call 75; refine (refHas_any _ _ _ Hh.out).mono ?_; rintro e w' ⟨rfl, rfl⟩)
        go_roundg n
        case measure => omega
        case rel =>
          refine ⟨k + 1, z, q * 2, by omega, by go_num, rfl, by go_num, ⟨?_, HQ.out, hz, by omega⟩, rfl⟩
          rw [HS.out, hb, HI.out.1]; rfl
      · go_wp2_with (go_at_call 75; refine (refHas_any _ _ _ Hh.out).mono ?_; rintro e w' ⟨rfl, rfl⟩)
        have key : z + q = oc s i % 2 ^ (k + 1) := by rw [HS.out, hb, if_pos rfl, HI.out.1, HI.out.2.1]
        go_roundg n
        case measure => omega
        case rel => exact ⟨k + 1, z + q, q * 2, by omega, by go_num, by go_num, by go_num, ⟨key, HQ.out, by rw [key]; exact HM.out, by omega⟩, rfl⟩

set_option maxHeartbeats 1000000 in
theorem refEnds_any (s : Nat) (w : World) (h : s < 18446744073709551616) :
    Calls Tryd.prog 51 #[.int .u64 (s : Int)] w fun e w' => e = .returned (.tuple #[.int .i64 (fr s : Int), .int .i64 (tt s : Int)]) ∧ w = w' := by
  by_cases h0 : s = 0
  · subst h0
    clear h
    go_enter Tryd.func51, Tryd.ntmps51
    go_wp2
    go_returns
    exact ⟨rfl, rfl⟩
  have HF := Lib.hid (fr_cast s h0)
  have HT : Hid (tt s = lo s) := if_neg h0
  have h0' : ((s : Int) == 0) = false := by simp; omega
  have HLt := Lib.hid (fo_lt h h0)
  have HNl := Lib.hid (lo_ne h h0)
  have CO := Lib.hid fun i hi w => refOctet13_any s i hi w h
  clear h h0
  go_enter Tryd.func51, Tryd.ntmps51
  go_wp2
  go_loopg [4] (fo s) (fun n a wx => ∃ k : Nat, k + n = fo s ∧ a = .int .i64 (k : Int) ∧ w = wx)
  case atStart => exact ⟨0, by omega, rfl, rfl⟩
  case round =>
    obtain ⟨k, hkn, rfl, rfl⟩ := hrel
    have hlt := HLt.out
    have CO' := Lib.hid fun w => CO.out k (by omega) w
    cases gk with
    | succ n =>
      have hz : oc s k = 0 := fo_zero (by omega)
      rw [hz] at CO'
      have hk8 : k < 8 := by omega
      clear hz hlt
      go_wp2_with (go_at_call 52; refine (CO'.out _).mono ?_; rintro e w' ⟨rfl, rfl⟩)
      go_roundg n
      case measure => omega
      case rel => exact ⟨k + 1, by omega, by go_num, rfl⟩
    | zero =>
      obtain rfl : k = fo s := hkn
      have hz : ((oc s (fo s) : Int) == 0) = false := by have := fo_ne hlt; simp; omega
      have Hfo := Lib.hid (rfl : fo s = fo s)
      generalize oc s (fo s) = o at *
      generalize fo s = f at *
      go_wp2_with (go_at_call 52; refine (CO'.out _).mono ?_; rintro e w' ⟨rfl, rfl⟩)
      go_loopg [5] (7 - lo s) (fun n b wx => ∃ k : Nat, k = lo s + n ∧ k ≤ 7 ∧ b = .int .i64 (k : Int) ∧ w = wx)
      case atStart => exact ⟨7, by have := lo_le s; omega, by decide, rfl, rfl⟩
      case round =>
        obtain ⟨k, hkn, hk7, rfl, rfl⟩ := hrel
        have CO2 := Lib.hid fun w => CO.out k (by omega) w
        cases gk with
        | succ n =>
          have hz2 : oc s k = 0 := lo_zero (by omega) hk7
          rw [hz2] at CO2
          have hk0 : 0 < k := by omega
          have HK := Lib.hid hkn
          clear hz2 hkn
          go_wp2_with (go_at_call 52; refine (CO2.out _).mono ?_; rintro e w' ⟨rfl, rfl⟩)
          go_roundg n
          case measure => omega
          case rel => exact ⟨k - 1, by have := HK.out; omega, by omega, by go_num, rfl⟩
        | zero =>
          obtain rfl : k = lo s := hkn
          have hz3 : ((oc s (lo s) : Int) == 0) = false := by have := HNl.out; simp; omega
          generalize oc s (lo s) = o2 at *
          generalize lo s = l at *
          go_wp2_with (go_at_call 52; refine (CO2.out _).mono ?_; rintro e w' ⟨rfl, rfl⟩)
          go_returns
          exact ⟨by rw [HT.out, ← HF.out]; rfl, rfl⟩
end Go.Proofs.YtojiffpmmgjpjaaDoor
