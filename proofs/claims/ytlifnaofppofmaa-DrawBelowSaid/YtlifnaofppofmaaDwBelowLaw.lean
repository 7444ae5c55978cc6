/-
  THE WALK of the law DrawBelow.
-/
import Derived.Test.YtlifnaofppofmaaDwLaws
namespace Go.Proofs.Ytlifnaofppofmaa
open Go.RowKit Go.Dw

theorem nat_of_u8 {a : Int} (h : (Lit.int .u8 a).wf = true) : ∃ n : Nat, a = n ∧ n < 256 := by
  simp [Lit.wf, IntKind.min, IntKind.max, IntKind.signed, IntKind.bits] at h
  exact ⟨a.toNat, by omega, by omega⟩

set_option maxRecDepth 100000 in
set_option maxHeartbeats 2000000 in
theorem drawBelow_walk0 (a : Int) (ha : (Lit.int .u64 a).wf = true) (n : Int) (hn : (Lit.int .i64 n).wf = true) (k0 : Int) (hk0 : (Lit.int .u8 k0).wf = true) (W : World) :
    Calls Try.prog 6 #[.int .u64 a, .int .i64 n, .int .u8 k0] W fun e w' => e = .returned (.bool true) ∧ Below W.heap.size W w' := by
  obtain ⟨x, rfl, hx⟩ := nat_of_u64 ha
  obtain ⟨k, rfl, hk⟩ := nat_of_u8 hk0
  have hn2 := (i64_bounds hn).2
  have LV := Lib.hid lives_any
  have HX := Lib.hid hx
  have hK : (Go.RowKit.wrap64 (k : Int)).tmod 51 = ((k % 51 : Nat) : Int) := by
    rw [IntWalk.wrap64_in _ (by omega), Int.tmod_eq_emod_of_nonneg (by omega)]; rfl
  obtain ⟨K, hKe⟩ : ∃ K, K = k % 51 := ⟨_, rfl⟩
  have hKl : K < 51 := by omega
  rw [← hKe] at hK
  clear ha hn hk0 hx hk hKe
  go_enter Try.func6, Try.ntmps6
  go_wp2
  go_loop [0, 7] (fun y i => ∃ m v : Nat, m ≤ K ∧ i = .int .i64 m ∧ v < 18446744073709551616 ∧ y = .int .u64 v) (fun _ i => K - (intOf i).toNat)
  case atStart => exact ⟨0, x, Nat.zero_le _, rfl, HX.out, rfl⟩
  case round =>
    obtain ⟨m, v, hm, rfl, hv, rfl⟩ := hrel
    by_cases hlt : m < K
    · have hlt' := Lib.hid hlt
      by_cases h1 : n < 1
      · have c1 := Lib.hid (fun w => below_small v n w h1)
        have HV := Lib.hid hv
        have h1' : ¬ (1 : Int) ≤ n := by omega
        go_wp2_with (go_at_call 14; refine (c1.out _).mono ?_; rintro e w' ⟨rfl, rfl⟩)
        go_round
        case rel => exact ⟨m + 1, v, hlt'.out, by go_num, HV.out, rfl⟩
        case measure => have := hlt'.out; simp [intOf]; omega
      · obtain ⟨q, rfl⟩ : ∃ q : Nat, n = q := ⟨n.toNat, by omega⟩
        have c1 := Lib.hid (fun w => below_big v q w hv (by omega) (by omega))
        have HV := Lib.hid (nx_lt hv)
        have hb := bl_lt v (n := q) (by omega)
        have hy := nx_ne v
        have hb0 : ¬ ((bl v q : Nat) : Int) < 0 := by omega
        have hb1 : ¬ (q : Int) ≤ ((bl v q : Nat) : Int) := by omega
        have hb2 : ¬ ((nx v : Nat) : Int) = 0 := by omega
        have h1' : (1 : Int) ≤ q := by omega
        have hb3 : (((nx v : Nat) : Int) == 0) = false := beq_eq_false_iff_ne.mpr hb2
        have hb4 : ¬ (q : Int) < 1 := by omega
        generalize bl v q = b at *
        generalize nx v = y at *
        generalize hqi : ((q : Nat) : Int) = qi at *
        clear hv hb hy h1 hqi hn2 hb2
        by_cases hbz : b = 0
        · subst hbz
          clear hb0 hb1
          go_wp2_with (go_at_call 14; refine (c1.out _).mono ?_; rintro e w' ⟨rfl, rfl⟩)
          go_round
          case rel => exact ⟨m + 1, y, hlt'.out, by go_num, HV.out, rfl⟩
          case measure => have := hlt'.out; simp [intOf]; omega
        · have hb5 : (0 : Int) < b := by omega
          clear hbz
          go_wp2_with (go_at_call 14; refine (c1.out _).mono ?_; rintro e w' ⟨rfl, rfl⟩)
          go_round
          case rel => exact ⟨m + 1, y, hlt'.out, by go_num, HV.out, rfl⟩
          case measure => have := hlt'.out; simp [intOf]; omega
    · obtain rfl : m = K := by omega
      have c1 := Lib.hid (fun w => next_any v w hv)
      have hy := nx_ne v
      have hb2 : ¬ ((nx v : Nat) : Int) = 0 := by omega
      have hb3 : (((nx v : Nat) : Int) != 0) = true := by rw [bne_iff_ne]; exact hb2
      generalize nx v = y at *
      clear hv hy
      go_wp2_with (first
        | (go_at_call 9; refine (c1.out _).mono ?_; rintro e w' ⟨rfl, rfl⟩)
        | (go_at_call 13; refine (LV.out _).mono ?_; rintro e w1 ⟨rfl, hbl⟩))
      go_returns
      exact ⟨rfl, hbl⟩
end Go.Proofs.Ytlifnaofppofmaa
