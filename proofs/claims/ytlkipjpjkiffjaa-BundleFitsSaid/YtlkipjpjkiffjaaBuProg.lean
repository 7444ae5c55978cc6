/-
  WALKS of package bundle: gap, Check, Room.
-/
import Derived.Test.YtlkipjpjkiffjaaBuAt
import Derived.Test.YtlkipjpjkiffjaaAdDoneA
import Derived.Test.YtlkipjpjkiffjaaRdAd
import Derived.Test.YtlkipjpjkiffjaaLexFast
import Derived.Lib.MinMax
namespace Go.Proofs.Ytlkipjpjkiffjaa
open Go.RowKit Go.Bu Go.Wr Go.Ad

theorem pad_steps (n : Nat) : (n : Int).tmod 4 = ((n % 4 : Nat) : Int) ∧ (4 - ((n % 4 : Nat) : Int)).tmod 4 = ((pad n : Nat) : Int) := by
  constructor
  · rw [Int.tmod_eq_emod_of_nonneg (Int.natCast_nonneg _)]; omega
  · rw [Int.tmod_eq_emod_of_nonneg (by omega)]; unfold pad; omega

set_option maxRecDepth 100000 in
theorem buGap_any (n : Nat) (w : World) :
    Calls Try.prog 23 #[.int .i64 (n : Int)] w fun e w' => e = .returned (.int .i64 (pad n : Nat)) ∧ w = w' := by
  obtain ⟨h1, h2⟩ := pad_steps n
  have h4 : n % 4 < 4 := Nat.mod_lt _ (by decide)
  have hp := pad_lt n
  generalize pad n = p at *
  generalize n % 4 = r at *
  obtain ⟨z, hz⟩ : ∃ z : Int, z = n := ⟨_, rfl⟩
  rw [← hz] at h1 ⊢
  clear hz
  go_enter Try.func23, Try.ntmps23
  go_wp2
  go_returns
  exact ⟨rfl, rfl⟩

theorem pk_nat {p : Pk} (h : PkW p) : ∃ a b : Nat, p = ⟨a, b, p.s⟩ ∧ a < 18446744073709551616 ∧ b < 18446744073709551616 := by
  obtain ⟨⟨h1, h2⟩, h3, h4⟩ := h
  obtain ⟨to, fr, s⟩ := p
  refine ⟨to.toNat, fr.toNat, ?_, by simp only at h2; omega, by simp only at h4; omega⟩
  simp only at h1 h3 ⊢
  rw [Int.toNat_of_nonneg h1, Int.toNat_of_nonneg h3]

set_option maxRecDepth 100000 in
set_option maxHeartbeats 2000000 in
theorem buCheck_any (p : Pk) (w : World) (h : PkW p) :
    Calls Try.prog 10 #[.agg #[.int .u64 p.to, .int .u64 p.fr, .string p.s]] w fun e w' => e = .returned (.int .i64 (chk p)) ∧ Below w.heap.size w w' := by
  obtain ⟨a, b, hp, ha, hb⟩ := pk_nat h
  have HC : Hid (chk ⟨a, b, p.s⟩ = if (vald a && (vald b && !grp b)) = true then (if 1024 < p.s.size then 2 else 0) else 4) := rfl
  rw [hp]
  generalize p.s = s at *
  clear hp h
  have CA := Lib.hid fun w => valid_any a w
  have CB := Lib.hid fun w => valid_any b w
  have CG := Lib.hid fun w => group_any b w hb
  generalize chk ⟨a, b, s⟩ = r at *
  generalize vald a = x at *
  generalize vald b = y at *
  generalize grp b = z at *
  clear ha hb
  simp only
  generalize ((a : Nat) : Int) = a at *
  generalize ((b : Nat) : Int) = b at *
  by_cases hs : 1024 < s.size
  · have hs' : (1024 : Int) < (s.size : Int) := by omega
    rw [if_pos hs] at HC
    cases x <;> cases y <;> cases z
    all_goals
      have HR := HC.out
      simp at HR
      subst HR
      clear HC hs
      go_enter Try.func10, Try.ntmps10
      go_wp2_with (first
        | (go_at_call 19; with_reducible refine (CA.out _).mono ?_; rintro e w' ⟨rfl, rfl⟩)
        | (go_at_call 19; with_reducible refine (CB.out _).mono ?_; rintro e w' ⟨rfl, rfl⟩)
        | (go_at_call 20; refine (CG.out _).mono ?_; rintro e w' ⟨rfl, rfl⟩))
      go_returns
      exact ⟨rfl, (Below.refl _ _).alloc (Nat.le_refl _) _⟩
  · have hs' : ¬ (1024 : Int) < (s.size : Int) := by omega
    rw [if_neg hs] at HC
    cases x <;> cases y <;> cases z
    all_goals
      have HR := HC.out
      simp at HR
      subst HR
      clear HC hs
      go_enter Try.func10, Try.ntmps10
      go_wp2_with (first
        | (go_at_call 19; with_reducible refine (CA.out _).mono ?_; rintro e w' ⟨rfl, rfl⟩)
        | (go_at_call 19; with_reducible refine (CB.out _).mono ?_; rintro e w' ⟨rfl, rfl⟩)
        | (go_at_call 20; refine (CG.out _).mono ?_; rintro e w' ⟨rfl, rfl⟩))
      go_returns
      exact ⟨rfl, (Below.refl _ _).alloc (Nat.le_refl _) _⟩

set_option maxRecDepth 100000 in
set_option maxHeartbeats 2000000 in
theorem buRoom_any (o m : Int) (w : World) (ho : (Lit.int .i64 o).wf = true) :
    Calls Try.prog 17 #[.int .i64 o, .int .i64 m] w fun e w' => e = .returned (.int .i64 (rm o m)) ∧ w = w' := by
  have HR : Hid (rm o m = if o < 0 ∨ min m 2048 < o then -1 else max (min (min m 2048 - o - (pad o.toNat : Int) - 14) 1024) (-1)) := rfl
  have hM : min m 2048 ≤ 2048 := by omega
  obtain ⟨M, e1⟩ : ∃ M, min m 2048 = M := ⟨_, rfl⟩
  rw [e1] at HR hM
  by_cases h0 : o < 0
  · rw [if_pos (.inl h0)] at HR
    go_enter Try.func17, Try.ntmps17
    go_wp2
    go_returns
    exact ⟨by rw [HR.out]; rfl, rfl⟩
  · by_cases h1 : M < o
    · rw [if_pos (.inr h1)] at HR
      have h0' : decide (o < 0) = false := decide_eq_false h0
      go_enter Try.func17, Try.ntmps17
      go_wp2
      go_returns
      exact ⟨by rw [HR.out]; rfl, rfl⟩
    · rw [if_neg (by omega)] at HR
      obtain ⟨n, rfl⟩ : ∃ n : Nat, o = n := ⟨o.toNat, by omega⟩
      rw [Int.toNat_natCast] at HR
      have CG := Lib.hid fun w => buGap_any n w
      have hp := pad_lt n
      generalize pad n = p at *
      obtain ⟨x, hx⟩ : ∃ x : Int, x = n := ⟨_, rfl⟩
      rw [← hx] at CG HR ho h0 h1 ⊢
      clear hx
      have h0' : decide (x < 0) = false := decide_eq_false h0
      have h1' : decide (M < x) = false := decide_eq_false h1
      go_enter Try.func17, Try.ntmps17
      go_wp2_with (go_at_call 23; refine (CG.out _).mono ?_; rintro e w' ⟨rfl, rfl⟩)
      all_goals
        go_returns
        exact ⟨by rw [HR.out]; rfl, rfl⟩
end Go.Proofs.Ytlkipjpjkiffjaa
