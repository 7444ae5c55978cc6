/-
  WALKS of package tim: counts, octet, the first and the last octet (loops left by a label), what is sent.
-/
import Derived.Test.YtojiffpmmgjpjaaDoorBsWalks
import Derived.Test.YtojiffpmmgjpjaaDoorBsRange
import Derived.Test.YtojiffpmmgjpjaaDoorTmMath
import Derived.Deep.LoopGhost
import Derived.Handy
namespace Go.Proofs.YtojiffpmmgjpjaaDoor
open Go.RowKit Go.Bs Go.Tm

set_option maxHeartbeats 400000 in
theorem tmCounts_any (c p : Int) (w : World) :
    Calls Tryd.prog 41 #[.int .i64 c, .int .i64 p] w fun e w' => e = .returned (.bool (cnt c p)) ∧ w = w' := by
  go_enter Tryd.func41, Tryd.ntmps41
  go_wp2
  all_goals
    go_ret
    refine ⟨congrArg (fun b => Ending.returned (.bool b)) ?_, rfl⟩
    simp [cnt, *] <;> omega

theorem u8_oc (s i : Nat) : ((dwn s (8 * (i : Int)) : Nat) : Int) % 256 = (oc s i : Int) := by
  unfold dwn oc
  rw [show (8 * (i : Int)).toNat = 8 * i by omega]
  omega
set_option maxHeartbeats 400000 in
theorem tmOctet_any (s i : Nat) (hi : i < 8) (w : World) (h : s < 18446744073709551616) :
    Calls Tryd.prog 61 #[.int .u64 (s : Int), .int .i64 (i : Int)] w fun e w' => e = .returned (.int .u8 (oc s i : Int)) ∧ w = w' := by
  have HU := Lib.hid (u8_oc s i)
  have Hh := Lib.hid h; clear h
  go_enter Tryd.func61, Tryd.ntmps61
  go_wp2_with (go_at_call 81; refine (down_any _ _ _ Hh.out).mono ?_; rintro e w' ⟨rfl, rfl⟩)
  go_ret
  exact ⟨by rw [HU.out]; rfl, rfl⟩

set_option maxHeartbeats 1000000 in
theorem tmFirst_any (s : Nat) (w : World) (h : s < 18446744073709551616) :
    Calls Tryd.prog 79 #[.int .u64 (s : Int)] w fun e w' => e = .returned (.int .i64 (fo s : Int)) ∧ w = w' := by
  have Hh := Lib.hid h; clear h
  go_enter Tryd.func79, Tryd.ntmps79
  go_wp2
  go_step3
  go_wp2
  go_step3
  go_wp2
  go_loopg [3] 8 (fun g i wx => ∃ k : Nat, k + g = 8 ∧ i = .int .i64 (k : Int) ∧ Aside (∀ x, x < k → oc s x = 0) ∧ w = wx)
  case atStart => exact ⟨0, rfl, rfl, fun x hx => absurd hx (Nat.not_lt_zero x), rfl⟩
  case round =>
    obtain ⟨k, hkg, rfl, HI, rfl⟩ := hrel
    cases gk with
    | zero =>
      obtain rfl : k = 8 := hkg
      have HF : Aside (fo s = 8) := fo_at (Nat.le_refl _) HI.out (fun h => absurd h (Nat.lt_irrefl _))
      go_wp2
      try rw [Exit.noGoto_ret]
      go_ret
      exact ⟨by rw [HF.out]; rfl, rfl⟩
    | succ g =>
      have hk : k < 8 := by omega
      have hki : (k : Int) < 8 := by omega
      go_wp2
      go_loopg [9] 8 (fun g2 j wy => ∃ m : Nat, m + g2 = 8 ∧ j = .int .i64 (m : Int) ∧ Aside (∀ x, x < m → s.testBit (8 * k + x) = false) ∧ w = wy)
      case atStart => exact ⟨0, rfl, rfl, fun x hx => absurd hx (Nat.not_lt_zero x), rfl⟩
      case round =>
        obtain ⟨m, hmg, rfl, HJ, rfl⟩ := hrel
        cases gk with
        | zero =>
          obtain rfl : m = 8 := hmg
          go_wp2
          go_roundg g
          case measure => omega
          case rel =>
            refine ⟨k + 1, by omega, by go_num, fun x hx => ?_, rfl⟩
            rcases Nat.lt_or_ge x k with a | a
            · exact HI.out x a
            · obtain rfl : x = k := by omega
              exact oc_zero.2 HJ.out
        | succ g2 =>
          have hm : m < 8 := by omega
          have HB := Lib.hid (has_at s k m hk hm)
          cases hb : has s (8 * (k : Int) + m)
          · go_wp2_with (go_at_call 42; refine (has_any _ _ _ Hh.out).mono ?_; rintro e w' ⟨rfl, rfl⟩)
            go_roundg g2
            case measure => omega
            case rel =>
              refine ⟨m + 1, by omega, by go_num, fun x hx => ?_, rfl⟩
              rcases Nat.lt_or_ge x m with a | a
              · exact HJ.out x a
              · obtain rfl : x = m := by omega
                rw [← HB.out]; exact hb
          · have HF : Aside (fo s = k) := fo_at (by omega) HI.out (fun _ e => by
              have := oc_zero.1 e m hm
              rw [← HB.out, hb] at this
              exact absurd this (by decide))
            go_wp2_with (go_at_call 42; refine (has_any _ _ _ Hh.out).mono ?_; rintro e w' ⟨rfl, rfl⟩)
            try rw [Exit.noGoto_ret]
            go_ret
            exact ⟨by rw [HF.out]; rfl, rfl⟩

set_option maxHeartbeats 1000000 in
theorem tmLast_any (s : Nat) (w : World) (h : s < 18446744073709551616) :
    Calls Tryd.prog 80 #[.int .u64 (s : Int)] w fun e w' => e = .returned (.int .i64 (lo s : Int)) ∧ w = w' := by
  have Hh := Lib.hid h; clear h
  go_enter Tryd.func80, Tryd.ntmps80
  go_wp2
  go_step3
  go_wp2
  go_step3
  go_wp2
  go_loopg [3] 7 (fun g i wx => g ≤ 7 ∧ i = .int .i64 (g : Int) ∧ Aside (∀ x, g < x → x ≤ 7 → oc s x = 0) ∧ w = wx)
  case atStart => exact ⟨Nat.le_refl _, rfl, fun x hx h7 => absurd hx (Nat.not_lt.2 h7), rfl⟩
  case round =>
    obtain ⟨hg7, rfl, HI, rfl⟩ := hrel
    cases gk with
    | zero =>
      have HF : Aside (lo s = 0) := lo_at (by decide) HI.out (fun h => absurd rfl h)
      go_wp2
      try rw [Exit.noGoto_ret]
      go_ret
      exact ⟨by rw [HF.out]; rfl, rfl⟩
    | succ g =>
      have hk : g + 1 < 8 := by omega
      obtain ⟨k, hkg⟩ : ∃ k, k = g + 1 := ⟨_, rfl⟩
      have hk0 : 0 < k := by omega
      have HG := Lib.hid hkg
      rw [← hkg] at hk HI ⊢
      have hg7' : g = k - 1 := by omega
      clear hg7 hkg
      go_wp2
      go_loopg [9] 8 (fun g2 j wy => ∃ m : Nat, m + g2 = 8 ∧ j = .int .i64 (m : Int) ∧ Aside (∀ x, x < m → s.testBit (8 * k + x) = false) ∧ w = wy)
      case atStart => exact ⟨0, rfl, rfl, fun x hx => absurd hx (Nat.not_lt_zero x), rfl⟩
      case round =>
        obtain ⟨m, hmg, rfl, HJ, rfl⟩ := hrel
        cases gk with
        | zero =>
          obtain rfl : m = 8 := hmg
          go_wp2
          go_roundg g
          case measure => omega
          case rel =>
            refine ⟨by omega, by go_num, fun x hx h7 => ?_, rfl⟩
            rcases Nat.lt_or_ge k x with a | a
            · exact HI.out x a h7
            · obtain rfl : x = k := by omega
              exact oc_zero.2 HJ.out
        | succ g2 =>
          have hm : m < 8 := by omega
          have HB := Lib.hid (has_at s k m hk hm)
          cases hb : has s (8 * (k : Int) + m)
          · go_wp2_with (go_at_call 42; refine (has_any _ _ _ Hh.out).mono ?_; rintro e w' ⟨rfl, rfl⟩)
            go_roundg g2
            case measure => omega
            case rel =>
              refine ⟨m + 1, by omega, by go_num, fun x hx => ?_, rfl⟩
              rcases Nat.lt_or_ge x m with a | a
              · exact HJ.out x a
              · obtain rfl : x = m := by omega
                rw [← HB.out]; exact hb
          · have HF : Aside (lo s = k) := lo_at (by omega) HI.out (fun _ e => by
              have := oc_zero.1 e m hm
              rw [← HB.out, hb] at this
              exact absurd this (by decide))
            go_wp2_with (go_at_call 42; refine (has_any _ _ _ Hh.out).mono ?_; rintro e w' ⟨rfl, rfl⟩)
            try rw [Exit.noGoto_ret]
            go_ret
            exact ⟨by rw [HF.out]; rfl, rfl⟩

theorem fr_cast (s : Nat) (h : s ≠ 0) : (fo s : Int) - (fo s : Int).tmod 2 = (fr s : Int) := by
  unfold fr
  rw [if_neg h, Int.tmod_eq_emod_of_nonneg (by omega)]
  omega
set_option maxHeartbeats 400000 in
theorem tmSent_any (s : Nat) (w : World) (h : s < 18446744073709551616) :
    Calls Tryd.prog 60 #[.int .u64 (s : Int)] w fun e w' => e = .returned (.tuple #[.int .i64 (fr s : Int), .int .i64 (tt s : Int)]) ∧ w = w' := by
  by_cases h0 : s = 0
  · subst h0
    clear h
    go_enter Tryd.func60, Tryd.ntmps60
    go_wp2
    go_returns
    exact ⟨rfl, rfl⟩
  · have CF := Lib.hid fun w => tmFirst_any s w h
    have CL := Lib.hid fun w => tmLast_any s w h
    have HF := Lib.hid (fr_cast s h0)
    have HT : Hid (tt s = lo s) := if_neg h0
    have h0' : ¬ (s : Int) = 0 := by omega
    have hfo := fo_le s
    clear h h0
    generalize fo s = f at *
    go_enter Tryd.func60, Tryd.ntmps60
    go_wp2_with (first
      | (go_at_call 79; refine (CF.out _).mono ?_; rintro e w' ⟨rfl, rfl⟩)
      | (go_at_call 80; refine (CL.out _).mono ?_; rintro e w' ⟨rfl, rfl⟩))
    go_returns
    exact ⟨by rw [HT.out, ← HF.out]; rfl, rfl⟩
end Go.Proofs.YtojiffpmmgjpjaaDoor
