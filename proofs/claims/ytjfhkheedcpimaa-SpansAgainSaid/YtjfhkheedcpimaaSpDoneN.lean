/-
  WALKS OF THE LANDED CODE OF LAYER 7: Next.
-/
import Derived.Test.YtjfhkheedcpimaaSpProg
import Derived.OpenShut
namespace Go.Proofs.Ytjfhkheedcpimaa
open Go.RowKit Go.Sp

theorem before_per {d p : Int} (hp : 1 ≤ p) : d - 1 - (d - 1) % p + p = per d p * p := by
  have e1 := Int.emod_add_mul_ediv d p
  have a2 := Int.emod_nonneg d (by omega : p ≠ 0)
  have a3 := Int.emod_lt_of_pos d (by omega : 0 < p)
  unfold per
  obtain ⟨q, hq⟩ : ∃ q, q = d / p := ⟨_, rfl⟩
  obtain ⟨r, hr⟩ : ∃ r, r = d % p := ⟨_, rfl⟩
  rw [← hq, ← hr] at e1 ⊢
  rw [← hr] at a2 a3
  by_cases h0 : r = 0
  · have : (d - 1) % p = p - 1 := by
      have : d - 1 = (p - 1) + p * (q - 1) := by rw [Int.mul_sub, Int.mul_one]; omega
      rw [this, Int.add_mul_emod_self_left, Int.emod_eq_of_lt (by omega) (by omega)]
    rw [this, if_pos h0, Int.add_zero, Int.mul_comm q p]
    omega
  · have : (d - 1) % p = r - 1 := by
      have : d - 1 = (r - 1) + p * q := by omega
      rw [this, Int.add_mul_emod_self_left, Int.emod_eq_of_lt (by omega) (by omega)]
    rw [this, if_neg h0, Int.add_mul, Int.one_mul, Int.mul_comm q p]
    omega

set_option maxRecDepth 100000 in
set_option maxHeartbeats 1000000 in
theorem next_any (now f p : Int) (w : World) (hnow : (Lit.int .i64 now).wf = true) (hpw : (Lit.int .i64 p).wf = true) :
    Calls Try.prog 23 #[.int .i64 now, .int .i64 f, .int .i64 p] w fun e w' => e = .returned (.tuple #[.int .i64 (nxt now f p).1, .bool (nxt now f p).2]) ∧ w = w' := by
  have hnb : now ≤ 9223372036854775807 := (bounds_i64 hnow).2
  have hpb : p ≤ 9223372036854775807 := (bounds_i64 hpw).2
  clear hnow hpw
  by_cases h1 : p < 1
  · have e : nxt now f p = (0, false) := if_pos (.inl h1)
    rw [e]; clear e
    go_enter Try.func23, Try.ntmps23
    go_wp2
    go_returns
    exact ⟨rfl, rfl⟩
  by_cases h2 : f < 0
  · have e : nxt now f p = (0, false) := if_pos (.inr (.inl h2))
    rw [e]; clear e
    go_enter Try.func23, Try.ntmps23
    go_wp2
    go_returns
    exact ⟨rfl, rfl⟩
  by_cases h3 : 16777216 < f
  · have e : nxt now f p = (0, false) := if_pos (.inr (.inr (.inl h3)))
    rw [e]; clear e
    go_enter Try.func23, Try.ntmps23
    go_wp2
    go_returns
    exact ⟨rfl, rfl⟩
  by_cases h5 : now ≤ f
  · have e : nxt now f p = (f, true) := by
      unfold nxt
      rw [if_neg (by omega), if_pos (by split <;> omega)]
    rw [e]; clear e
    go_enter Try.func23, Try.ntmps23
    go_wp2
    go_returns
    exact ⟨rfl, rfl⟩
  have hbp := before_per (d := now - f) (p := p) (by omega)
  have hpf := per_facts (d := now - f) (p := p) (by omega) (by omega)
  have r0 := Int.emod_nonneg (now - f - 1) (by omega : p ≠ 0)
  have r1 : (now - f - 1) % p ≤ now - f - 1 := by
    have h1 := Int.emod_add_mul_ediv (now - f - 1) p
    have h4 : 0 ≤ (now - f - 1) / p := Int.ediv_nonneg (by omega) (by omega)
    have := Int.mul_nonneg (show (0:Int) ≤ p by omega) h4
    omega
  have hf1 : now - 1 - f = now - f - 1 := by omega
  obtain ⟨r, hr⟩ : ∃ r, (now - 1 - f) % p = r := ⟨_, rfl⟩
  rw [← hf1, hr] at r0 r1 hbp
  obtain ⟨m, hm⟩ : ∃ m, per (now - f) p * p = m := ⟨_, rfl⟩
  rw [hm] at hbp hpf
  have hnx : nxt now f p = if 16777216 < p + (now - 1 - r) then (0, false) else (now - 1 - r + p, true) := by
    have e1 : (if now < 0 then 0 else now) = now := if_neg (by omega)
    unfold nxt
    rw [e1, hm]
    by_cases h4 : 16777216 < now
    · rw [if_pos (by omega), if_pos (by omega)]
    · rw [if_neg (by omega), if_neg (by omega)]
      by_cases h6 : 16777216 < p + (now - 1 - r)
      · rw [if_pos (by omega), if_pos h6]
      · rw [if_neg (by omega), if_neg h6, show f + m = now - 1 - r + p by omega]
  rw [hnx]
  have hw1 : wrap64 (now - 1) = now - 1 := IntWalk.wrap64_in _ ⟨by omega, by omega⟩
  have hw2 : wrap64 (now - 1 - f) = now - 1 - f := IntWalk.wrap64_in _ ⟨by omega, by omega⟩
  have hw3 : wrap64 (now - 1 - r) = now - 1 - r := IntWalk.wrap64_in _ ⟨by omega, by omega⟩
  have hw4 : wrap64 (16777216 - (now - 1 - r)) = 16777216 - (now - 1 - r) := IntWalk.wrap64_in _ ⟨by omega, by omega⟩
  have hd : 0 ≤ now - 1 - f := by omega
  have hp0 : ¬ p = 0 := by omega
  have hp1 : 0 < p := by omega
  clear hbp hpf hm hf1 hnx
  by_cases h6 : 16777216 < p + (now - 1 - r)
  · rw [if_pos h6]
    have h6' : 16777216 - (now - 1 - r) < p := by omega
    clear h6
    go_enter Try.func23, Try.ntmps23
    go_wp2
    go_returns
    exact ⟨rfl, rfl⟩
  · rw [if_neg h6]
    have h6' : ¬ 16777216 - (now - 1 - r) < p := by omega
    have hw5 : wrap64 (now - 1 - r + p) = now - 1 - r + p := IntWalk.wrap64_in _ ⟨by omega, by omega⟩
    clear h6
    go_enter Try.func23, Try.ntmps23
    go_wp2
    go_returns
    exact ⟨rfl, rfl⟩
end Go.Proofs.Ytjfhkheedcpimaa
