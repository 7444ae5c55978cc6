/-
  WALKS of package fragment: quotient, pieceSize, Count; of the reference: up, size, Count.
-/
import Derived.Test.YtbcbfilpkjgclaaFgMath
import Derived.Test.YtbcbfilpkjgclaaProg
import Derived.WalkKit
import Derived.ProofKit
import Derived.Lib.Hide
import Derived.Lib.MinMax
import Derived.Below
import Derived.Handy
namespace Go.Proofs.Ytbcbfilpkjgclaa
open Go.RowKit Go.Fg

theorem nat_tdiv (m b : Nat) : (m : Int).tdiv (b : Int) = ((m / b : Nat) : Int) := (Int.ofNat_tdiv m b).symm
theorem pred_cast {a : Nat} (h : 1 ≤ a) : (a : Int) - 1 = ((a - 1 : Nat) : Int) := by omega
theorem div_le (m b : Nat) : m / b ≤ m := Nat.div_le_self m b

theorem wrap_small {z : Int} (h : 0 ≤ z) (h2 : z ≤ 9000000000000000000) : wrap64 z = z := IntWalk.wrap64_in _ (by omega)
theorem wrap_nat {k : Nat} (h : k ≤ 9000000000000000000) : wrap64 (k : Int) = k := IntWalk.wrap64_in _ (by omega)
theorem wrap_succ {k : Nat} (h : k ≤ 9000000000000000000) : wrap64 ((k : Int) + 1) = ((k + 1 : Nat) : Int) := IntWalk.wrap64_in _ (by omega)
theorem div_le' {m b B : Nat} (h : m ≤ B) : m / b ≤ B := Nat.le_trans (Nat.div_le_self m b) h
theorem div_mul_le' {m b B : Nat} (h : m ≤ B) : m / b * b ≤ B := Nat.le_trans (Nat.div_mul_le_self m b) h

set_option maxHeartbeats 1000000 in
theorem fgQuot_any (a b : Nat) (w : World) (ha : 1 ≤ a) (hm : a ≤ 4611686018427387904) (hb : 1 ≤ b) :
    Calls Try.prog 17 #[.int .i64 (a : Int), .int .i64 (b : Int)] w fun e w' => e = .returned (.int .i64 (qt a b : Nat)) ∧ w = w' := by
  have hw : wrap64 ((a : Int) - 1) = ((a - 1 : Nat) : Int) := by rw [pred_cast ha]; exact wrap_small (by omega) (by omega)
  have hv : wrap64 (((a - 1) / b : Nat) : Int) = (((a - 1) / b : Nat) : Int) := wrap_nat (div_le' (by omega))
  have hs : wrap64 ((((a - 1) / b : Nat) : Int) + 1) = (((a - 1) / b + 1 : Nat) : Int) := wrap_succ (div_le' (by omega))
  have hd := nat_tdiv (a - 1) b
  have h0 : ((b : Int) == 0) = false := by rw [beq_eq_false_iff_ne]; omega
  have h0' : ¬ (b : Int) = 0 := by omega
  have HQ : Hid (qt a b = (a - 1) / b + 1) := rfl
  generalize (a - 1) / b = q at *
  generalize a - 1 = m at *
  clear ha hm hb
  go_enter Try.func17, Try.ntmps17
  go_wp2
  go_returns
  exact ⟨by rw [HQ.out]; exact congrArg (fun z => Ending.returned (.int .i64 z)) hs, rfl⟩

theorem ps_a {n : Nat} {t : Int} (h : t < 1 ∨ (n : Int) ≤ t) : ps n t = n := if_pos h
theorem ps_b {n : Nat} {t : Int} (h : ¬ (t < 1 ∨ (n : Int) ≤ t)) : max t ((qt n 16 : Nat) : Int) = (ps n t : Nat) := by
  have e : ps n t = max t.toNat (qt n 16) := if_neg h
  rw [e]
  omega
set_option maxHeartbeats 1000000 in
theorem fgSize_any (n : Nat) (t : Int) (w : World) (hn : n ≤ 4611686018427387904) :
    Calls Try.prog 15 #[.int .i64 (n : Int), .int .i64 t] w fun e w' => e = .returned (.int .i64 (ps n t : Nat)) ∧ w = w' := by
  have HA := Lib.hid (@ps_a n t)
  by_cases h1 : t < 1
  · rw [HA.out (.inl h1)]
    clear HA hn
    go_enter Try.func15, Try.ntmps15
    go_wp2
    go_returns
    exact ⟨rfl, rfl⟩
  by_cases h2 : (n : Int) ≤ t
  · rw [HA.out (.inr h2)]
    clear HA hn
    go_enter Try.func15, Try.ntmps15
    go_wp2
    go_returns
    exact ⟨rfl, rfl⟩
  · have HB := ps_b (n := n) (t := t) (by omega)
    have CQ : Hid (∀ w, Calls Try.prog 17 #[.int .i64 (n : Int), .int .i64 16] w fun e w' => e = .returned (.int .i64 (qt n 16 : Nat)) ∧ w = w') := fun w => fgQuot_any n 16 w (by omega) hn (by decide)
    generalize qt n 16 = q at *
    generalize ps n t = z at *
    clear HA hn
    go_enter Try.func15, Try.ntmps15
    go_wp2_with (go_at_call 17; refine (CQ.out _).mono ?_; rintro e w' ⟨rfl, rfl⟩)
    go_returns
    exact ⟨rfl, rfl⟩

theorem cn_neg {o t : Int} (h : o ≤ 0) : cn o.toNat t = 1 := by rw [Int.toNat_of_nonpos h]; rfl
set_option maxHeartbeats 1000000 in
theorem fgCount_any (o t : Int) (w : World) (ho : o ≤ 4611686018427387904) :
    Calls Try.prog 11 #[.int .i64 o, .int .i64 t] w fun e w' => e = .returned (.int .i64 (cn o.toNat t : Nat)) ∧ w = w' := by
  by_cases h : o ≤ 0
  · have HN := Lib.hid (@cn_neg o t h)
    clear ho
    go_enter Try.func11, Try.ntmps11
    go_wp2
    go_returns
    exact ⟨by rw [HN.out] <;> rfl, rfl⟩
  · obtain ⟨n, rfl⟩ : ∃ n : Nat, o = n := ⟨o.toNat, by omega⟩
    rw [Int.toNat_natCast]
    have hn : 0 < n := by omega
    have HC := Lib.hid (cn_eq t hn)
    have CS := Lib.hid fun w => fgSize_any n t w (by omega)
    have CQ := Lib.hid fun w => fgQuot_any n (ps n t) w (by omega) (by omega) (ps_pos t hn)
    generalize ps n t = z at *
    generalize qt n z = q at *
    have h' : ¬ (n : Int) ≤ 0 := h
    clear ho hn
    go_enter Try.func11, Try.ntmps11
    go_wp2_with (first
      | (go_at_call 15; refine (CS.out _).mono ?_; rintro e w' ⟨rfl, rfl⟩)
      | (go_at_call 17; refine (CQ.out _).mono ?_; rintro e w' ⟨rfl, rfl⟩))
    go_returns
    exact ⟨by rw [HC.out] <;> rfl, rfl⟩

/-! The reference. -/
theorem up_a {n k : Nat} (h : n / k * k < n) : up n k = n / k + 1 := if_pos h
theorem up_b {n k : Nat} (h : ¬ n / k * k < n) : up n k = n / k := if_neg h
set_option maxHeartbeats 1000000 in
theorem r18Up_any (a b : Nat) (w : World) (hm : a ≤ 4611686018427387904) (hb : 1 ≤ b) :
    Calls Try.prog 18 #[.int .i64 (a : Int), .int .i64 (b : Int)] w fun e w' => e = .returned (.int .i64 (up a b : Nat)) ∧ w = w' := by
  have hd := nat_tdiv a b
  have hv : wrap64 ((a / b : Nat) : Int) = ((a / b : Nat) : Int) := wrap_nat (div_le' (by omega))
  have hs : wrap64 (((a / b : Nat) : Int) + 1) = ((a / b + 1 : Nat) : Int) := wrap_succ (div_le' (by omega))
  have hp : wrap64 (((a / b : Nat) : Int) * (b : Int)) = ((a / b * b : Nat) : Int) := by rw [← Int.natCast_mul]; exact wrap_nat (div_mul_le' (by omega))
  have h0 : ((b : Int) == 0) = false := by rw [beq_eq_false_iff_ne]; omega
  have h0' : ¬ (b : Int) = 0 := by omega
  have HA := Lib.hid (@up_a a b)
  have HB := Lib.hid (@up_b a b)
  generalize a / b * b = p at *
  generalize a / b = q at *
  clear hm hb
  by_cases hlt : p < a
  · have HR := Lib.hid (HA.out hlt)
    have hlt' : (p : Int) < (a : Int) := by omega
    clear HA HB hlt
    go_enter Try.func18, Try.ntmps18
    go_wp2
    go_returns
    exact ⟨by rw [HR.out]; exact congrArg (fun z => Ending.returned (.int .i64 z)) hs, rfl⟩
  · have HR := Lib.hid (HB.out hlt)
    have hlt' : ¬ (p : Int) < (a : Int) := by omega
    clear HA HB hlt
    go_enter Try.func18, Try.ntmps18
    go_wp2
    go_returns
    exact ⟨by rw [HR.out] <;> rfl, rfl⟩

theorem rsz_a {n : Nat} {t : Int} (h : t < 1 ∨ (n : Int) ≤ t) : max (n : Int) 1 = (kz n t : Nat) := by
  rw [← rsz_kz]; unfold rsz; rw [if_pos h]; omega
theorem rsz_b {n T : Nat} (h : ¬ ((T : Int) < 1 ∨ (n : Int) ≤ T)) (h2 : 16 < up n T) : kz n T = up n 16 := by
  rw [← rsz_kz]; unfold rsz; rw [if_neg h, Int.toNat_natCast, if_pos h2]
theorem rsz_c {n T : Nat} (h : ¬ ((T : Int) < 1 ∨ (n : Int) ≤ T)) (h2 : ¬ 16 < up n T) : kz n T = T := by
  rw [← rsz_kz]; unfold rsz; rw [if_neg h, Int.toNat_natCast, if_neg h2]
set_option maxHeartbeats 1000000 in
theorem r18Size_any (n : Nat) (t : Int) (w : World) (hn : n ≤ 4611686018427387904) :
    Calls Try.prog 16 #[.int .i64 (n : Int), .int .i64 t] w fun e w' => e = .returned (.int .i64 (kz n t : Nat)) ∧ w = w' := by
  by_cases h1 : t < 1
  · have HA := rsz_a (n := n) (.inl h1)
    generalize kz n t = z at *
    clear hn
    go_enter Try.func16, Try.ntmps16
    go_wp2
    go_returns
    exact ⟨rfl, rfl⟩
  by_cases h2 : (n : Int) ≤ t
  · have HA := rsz_a (n := n) (.inr h2)
    generalize kz n t = z at *
    clear hn
    go_enter Try.func16, Try.ntmps16
    go_wp2
    go_returns
    exact ⟨rfl, rfl⟩
  · obtain ⟨T, rfl⟩ : ∃ T : Nat, t = T := ⟨t.toNat, by omega⟩
    have HB := Lib.hid (@rsz_b n T (by omega))
    have HC := Lib.hid (@rsz_c n T (by omega))
    have C1 := Lib.hid fun w => r18Up_any n T w hn (by omega)
    have C2 : Hid (∀ w, Calls Try.prog 18 #[.int .i64 (n : Int), .int .i64 16] w fun e w' => e = .returned (.int .i64 (up n 16 : Nat)) ∧ w = w') := fun w => r18Up_any n 16 w hn (by decide)
    generalize up n 16 = q at *
    generalize up n T = p at *
    clear hn
    by_cases h3 : 16 < p
    · have HR := Lib.hid (HB.out h3)
      have h3' : (16 : Int) < (p : Int) := by omega
      clear HB HC h3
      go_enter Try.func16, Try.ntmps16
      go_wp2_with (first
        | (go_at_call 18; with_reducible refine (C2.out _).mono ?_; rintro e w' ⟨rfl, rfl⟩)
        | (go_at_call 18; with_reducible refine (C1.out _).mono ?_; rintro e w' ⟨rfl, rfl⟩))
      go_returns
      exact ⟨by rw [HR.out] <;> rfl, rfl⟩
    · have HR := Lib.hid (HC.out h3)
      have h3' : ¬ (16 : Int) < (p : Int) := by omega
      clear HB HC h3 C2
      go_enter Try.func16, Try.ntmps16
      go_wp2_with (go_at_call 18; refine (C1.out _).mono ?_; rintro e w' ⟨rfl, rfl⟩)
      go_returns
      exact ⟨by rw [HR.out] <;> rfl, rfl⟩

theorem max_zero (o : Int) : max o 0 = (o.toNat : Int) := by omega
theorem max_one (n : Nat) (t : Int) : max (1 : Int) ((up n (kz n t) : Nat) : Int) = (cn n t : Nat) := by
  rw [← cn_ref]; omega
set_option maxHeartbeats 1000000 in
theorem r18Count_any (o t : Int) (w : World) (ho : o ≤ 4611686018427387904) :
    Calls Try.prog 12 #[.int .i64 o, .int .i64 t] w fun e w' => e = .returned (.int .i64 (cn o.toNat t : Nat)) ∧ w = w' := by
  have h0 := max_zero o
  have hn : o.toNat ≤ 4611686018427387904 := by omega
  generalize o.toNat = n at *
  have h1 := max_one n t
  have CS := Lib.hid fun w => r18Size_any n t w hn
  have CU := Lib.hid fun w => r18Up_any n (kz n t) w hn (kz_pos n t)
  generalize kz n t = z at *
  generalize up n z = p at *
  generalize cn n t = c at *
  clear ho hn
  go_enter Try.func12, Try.ntmps12
  go_wp2_with (first
    | (go_at_call 16; refine (CS.out _).mono ?_; rintro e w' ⟨rfl, rfl⟩)
    | (go_at_call 18; refine (CU.out _).mono ?_; rintro e w' ⟨rfl, rfl⟩))
  go_returns
  exact ⟨rfl, rfl⟩
end Go.Proofs.Ytbcbfilpkjgclaa
