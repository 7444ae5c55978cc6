/-
  WALKS of layer 16's reference: pad, zeros, Check, Room, Same.
-/
import Derived.Test.YtlkipjpjkiffjaaBuProg
import Derived.Test.YtlkipjpjkiffjaaBuW
import Derived.Test.YtlkipjpjkiffjaaRef10
import Derived.Deep.RegionWith
import Derived.BigRegion
namespace Go.Proofs.Ytlkipjpjkiffjaa
open Go.RowKit Go.Bu Go.Wr Go.Ad Pk_

set_option maxRecDepth 100000 in
theorem r16Pad_any (n : Nat) (w : World) :
    Calls Try.prog 32 #[.int .i64 (n : Int)] w fun e w' => e = .returned (.int .i64 (pad n : Nat)) ∧ w = w' := by
  obtain ⟨h1, h2⟩ := pad_steps n
  have h4 : n % 4 < 4 := Nat.mod_lt _ (by decide)
  have hp := pad_lt n
  generalize pad n = p at *
  generalize n % 4 = r at *
  obtain ⟨z, hz⟩ : ∃ z : Int, z = n := ⟨_, rfl⟩
  rw [← hz] at h1 ⊢
  clear hz
  go_enter Try.func32, Try.ntmps32
  go_wp2
  go_returns
  exact ⟨rfl, rfl⟩


set_option maxRecDepth 100000 in
set_option maxHeartbeats 2000000 in
theorem r16Zeros_any (n : Nat) (w : World) (hn : n < 4) :
    Calls Try.prog 33 #[.int .i64 (n : Int)] w fun e w' => e = .returned (.string ⟨(zs n).toArray⟩) ∧ w = w' := by
  go_enter Try.func33, Try.ntmps33
  go_wp2
  go_loop [3, 4] (fun s i => ∃ k : Nat, k ≤ n ∧ i = .int .i64 k ∧ s = .string ⟨(zs k).toArray⟩) (fun _ i => n - (intOf i).toNat)
  case atStart => exact ⟨0, Nat.zero_le _, rfl, rfl⟩
  case round =>
    obtain ⟨k, hk, rfl, rfl⟩ := hrel
    by_cases hlt : k < n
    · have ha := r10add_run (zs k) [0] (by rw [zs_len]; simp; omega)
      have e : zs k ++ [0] = zs (k + 1) := by unfold zs; rw [List.replicate_succ']
      rw [e] at ha
      generalize (zs k).toArray = z1 at *
      obtain ⟨z2, hz2⟩ : ∃ z, z = (zs (k + 1)).toArray := ⟨_, rfl⟩
      rw [← hz2] at ha
      have HZ := Lib.hid hz2
      clear hz2 e
      go_wp2
      go_round
      case rel => exact ⟨k + 1, hlt, by go_num, by rw [← HZ.out]⟩
      case measure => simp [intOf]; omega
    · obtain rfl : k = n := by omega
      go_wp2
      go_returns
      exact ⟨rfl, rfl⟩

set_option maxRecDepth 100000 in
set_option maxHeartbeats 2000000 in
theorem r16Check_any (p : Pk) (w : World) (h : PkW p) :
    Calls Try.prog 11 #[.agg #[.int .u64 p.to, .int .u64 p.fr, .string p.s]] w fun e w' => e = .returned (.int .i64 (chk p)) ∧ Below w.heap.size w w' := by
  obtain ⟨a, b, hp, ha, hb⟩ := pk_nat h
  have HC : Hid (chk ⟨a, b, p.s⟩ = if (vald a && (vald b && !grp b)) = true then (if 1024 < p.s.size then 2 else 0) else 4) := rfl
  rw [hp]
  generalize p.s = s at *
  clear hp h
  have CA := Lib.hid fun w => r10Valid_any a w
  have CB := Lib.hid fun w => r10Valid_any b w
  have CG := Lib.hid fun w => r10Group_any b w
  generalize chk ⟨a, b, s⟩ = r at *
  generalize vald a = x at *
  generalize vald b = y at *
  generalize grp b = z at *
  clear ha hb
  simp only
  generalize ((a : Nat) : Int) = a at *
  generalize ((b : Nat) : Int) = b at *
  by_cases hs : 1024 < s.size
  · have hs' : (1024 : Int) < (s.size : Int) := by omega
    rw [if_pos hs] at HC
    cases x <;> cases y <;> cases z
    all_goals
      have HR := HC.out
      simp at HR
      subst HR
      clear HC hs
      go_enter Try.func11, Try.ntmps11
      go_wp2_with (first
        | (go_at_call 21; with_reducible refine (CA.out _).mono ?_; rintro e w' ⟨rfl, rfl⟩)
        | (go_at_call 21; with_reducible refine (CB.out _).mono ?_; rintro e w' ⟨rfl, rfl⟩)
        | (go_at_call 22; refine (CG.out _).mono ?_; rintro e w' ⟨rfl, rfl⟩))
      go_returns
      exact ⟨rfl, (Below.refl _ _).alloc (Nat.le_refl _) _⟩
  · have hs' : ¬ (1024 : Int) < (s.size : Int) := by omega
    rw [if_neg hs] at HC
    cases x <;> cases y <;> cases z
    all_goals
      have HR := HC.out
      simp at HR
      subst HR
      clear HC hs
      go_enter Try.func11, Try.ntmps11
      go_wp2_with (first
        | (go_at_call 21; with_reducible refine (CA.out _).mono ?_; rintro e w' ⟨rfl, rfl⟩)
        | (go_at_call 21; with_reducible refine (CB.out _).mono ?_; rintro e w' ⟨rfl, rfl⟩)
        | (go_at_call 22; refine (CG.out _).mono ?_; rintro e w' ⟨rfl, rfl⟩))
      go_returns
      exact ⟨rfl, (Below.refl _ _).alloc (Nat.le_refl _) _⟩


theorem rm_out {o m : Int} (h : o < 0 ∨ 2048 < o ∨ m < 14) : rm o m = -1 := by
  unfold rm
  split
  · rfl
  · have hp : (0 : Int) ≤ (pad o.toNat : Int) := Int.natCast_nonneg _
    omega
theorem rm_in {n : Nat} {m : Int} (h1 : n ≤ 2048) : rm n m = if min m 2048 - (n : Int) - (pad n : Int) - 14 < 0 then -1 else min (min m 2048 - (n : Int) - (pad n : Int) - 14) 1024 := by
  unfold rm
  rw [Int.toNat_natCast]
  have hp : (0 : Int) ≤ (pad n : Int) := Int.natCast_nonneg _
  split
  · rw [if_pos (by omega)]
  · split <;> omega

set_option maxRecDepth 100000 in
set_option maxHeartbeats 2000000 in
theorem r16Room_any (o m : Int) (w : World) :
    Calls Try.prog 18 #[.int .i64 o, .int .i64 m] w fun e w' => e = .returned (.int .i64 (rm o m)) ∧ w = w' := by
  by_cases h0 : o < 0
  · have HR := Lib.hid (rm_out (m := m) (.inl h0))
    go_enter Try.func18, Try.ntmps18
    go_wp2
    go_returns
    exact ⟨by rw [HR.out]; rfl, rfl⟩
  have h0' : decide (o < 0) = false := decide_eq_false h0
  by_cases h1 : 2048 < o
  · have HR := Lib.hid (rm_out (m := m) (.inr (.inl h1)))
    go_enter Try.func18, Try.ntmps18
    go_wp2
    go_returns
    exact ⟨by rw [HR.out]; rfl, rfl⟩
  have h1' : decide (2048 < o) = false := decide_eq_false h1
  by_cases h2 : m < 14
  · have HR := Lib.hid (rm_out (o := o) (.inr (.inr h2)))
    go_enter Try.func18, Try.ntmps18
    go_wp2
    go_returns
    exact ⟨by rw [HR.out]; rfl, rfl⟩
  have h2' : decide (m < 14) = false := decide_eq_false h2
  obtain ⟨n, rfl⟩ : ∃ n : Nat, o = n := ⟨o.toNat, by omega⟩
  have HR := Lib.hid (rm_in (n := n) (m := m) (by omega))
  have CG := Lib.hid fun w => r16Pad_any n w
  have hp := pad_lt n
  have hM : 14 ≤ min m 2048 ∧ min m 2048 ≤ 2048 := by omega
  obtain ⟨M, e1⟩ : ∃ M, min m 2048 = M := ⟨_, rfl⟩
  rw [e1] at HR hM
  generalize pad n = p at *
  obtain ⟨x, hx⟩ : ∃ x : Int, x = n := ⟨_, rfl⟩
  rw [← hx] at CG HR h0 h1 h0' h1' ⊢
  clear hx
  by_cases h3 : M - x - (p : Int) - 14 < 0
  · rw [if_pos h3] at HR
    go_enter Try.func18, Try.ntmps18
    go_wp2_with (go_at_call 32; refine (CG.out _).mono ?_; rintro e w' ⟨rfl, rfl⟩)
    go_returns
    exact ⟨by rw [HR.out]; rfl, rfl⟩
  · rw [if_neg h3] at HR
    go_enter Try.func18, Try.ntmps18
    go_wp2_with (go_at_call 32; refine (CG.out _).mono ?_; rintro e w' ⟨rfl, rfl⟩)
    go_returns
    exact ⟨by rw [HR.out]; rfl, rfl⟩

set_option maxRecDepth 100000 in
set_option maxHeartbeats 1000000 in
theorem r16Same_any (l : List Pk) (sa sb : Option Addr) (c c' : Nat) (w : World) (hl : l.length ≤ 1000000) (h : At w sa l) (h' : At w sb l) :
    Calls Try.prog 16 #[.slice sa l.length c, .slice sb l.length c'] w fun e w' => e = .returned (.bool true) ∧ Below w.heap.size w w' := by
  have H1 := Lib.hid h
  have H2 := Lib.hid h'
  clear h h'
  go_enter Try.func16, Try.ntmps16
  go_wp2
  go_loopw [5] (fun i wr => ∃ k q : Nat, k ≤ l.length ∧ i = .int .i64 k ∧ wr = w.drewN q) (fun i _ => l.length - (intOf i).toNat)
  case atStart => exact ⟨0, 0, Nat.zero_le _, rfl, rfl⟩
  case round =>
    obtain ⟨k, q, hk, rfl, rfl⟩ := hrel
    by_cases hlt : k < l.length
    · obtain ⟨b, off, rfl, -, c1, c2, c3⟩ := H1.out k hlt
      obtain ⟨b', off', rfl, -, d1, d2, d3⟩ := H2.out k hlt
      have i0 : (0 : Int) ≤ (k : Int) := by omega
      have i1 : (k : Int) < (l.length : Int) := by omega
      have hlt' := Lib.hid hlt
      generalize l[k].to = f at *
      generalize l[k].fr = g at *
      generalize l[k].s = t at *
      go_wp2
      go_quiet (fail)
      go_wp2
      go_roundw
      case rel => exact ⟨k + 1, _, hlt'.out, by go_num, rfl⟩
      case measure => have := hlt'.out; simp [intOf]; omega
    · obtain rfl : k = l.length := by omega
      go_wp2
      go_returns
      exact ⟨rfl, ⟨rfl, rfl, rfl, Nat.le_refl _, fun _ _ => rfl⟩⟩
end Go.Proofs.Ytlkipjpjkiffjaa
