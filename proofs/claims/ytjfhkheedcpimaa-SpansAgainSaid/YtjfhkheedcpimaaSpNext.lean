/-
  THE WALK of the reference's Next of layer 7.
-/
import Derived.Test.YtjfhkheedcpimaaSpSame
namespace Go.Proofs.Ytjfhkheedcpimaa
open Go.RowKit Go.Sp

/-- How many periods: the least k with d at most k*p. -/
def per (d p : Int) : Int := d / p + (if d % p = 0 then 0 else 1)
def nxt (now f p : Int) : Int × Bool :=
  if p < 1 ∨ f < 0 ∨ 16777216 < f ∨ 16777216 < now then (0, false)
  else if (if now < 0 then 0 else now) ≤ f then (f, true)
  else if 16777216 < p ∨ 16777216 < f + per ((if now < 0 then 0 else now) - f) p * p then (0, false)
  else (f + per ((if now < 0 then 0 else now) - f) p * p, true)

theorem per_facts {d p : Int} (hd : 0 < d) (hp : 1 ≤ p) : 0 < per d p ∧ per d p ≤ d ∧ d ≤ per d p * p ∧ per d p * p < d + p ∧ 0 ≤ d / p ∧ d / p ≤ d := by
  have h1 := Int.emod_add_mul_ediv d p
  have h2 := Int.emod_nonneg d (by omega : p ≠ 0)
  have h3 := Int.emod_lt_of_pos d (by omega : 0 < p)
  have h4 : 0 ≤ d / p := Int.ediv_nonneg (by omega) (by omega)
  have h5 : d / p ≤ d := Int.ediv_le_self _ (by omega)
  unfold per
  obtain ⟨q, hq⟩ : ∃ q, q = d / p := ⟨_, rfl⟩
  obtain ⟨r, hr⟩ : ∃ r, r = d % p := ⟨_, rfl⟩
  rw [← hq] at h1 h4 h5 ⊢
  rw [← hr] at h1 h2 h3 ⊢
  have e1 : (q + 1) * p = p * q + p := by rw [Int.add_mul, Int.one_mul, Int.mul_comm]
  have e2 : q * p = p * q := Int.mul_comm _ _
  by_cases h0 : r = 0
  · rw [if_pos h0, Int.add_zero, e2]
    have hq0 : 0 < q := by
      rcases Int.lt_or_eq_of_le h4 with h | h
      · exact h
      · rw [← h, Int.mul_zero] at h1; omega
    refine ⟨hq0, h5, by omega, by omega, h4, h5⟩
  · rw [if_neg h0, e1]
    refine ⟨by omega, ?_, by omega, by omega, h4, h5⟩
    -- q + 1 ≤ d: since q * 1 ≤ p * q and r > 0
    have : q ≤ p * q := by
      have := Int.mul_le_mul_of_nonneg_right hp h4
      rwa [Int.one_mul] at this
    omega

set_option maxRecDepth 100000 in
set_option maxHeartbeats 1000000 in
theorem refNext_any (now f p : Int) (w : World) (hnow : (Lit.int .i64 now).wf = true) :
    Calls Try.prog 24 #[.int .i64 now, .int .i64 f, .int .i64 p] w fun e w' => e = .returned (.tuple #[.int .i64 (nxt now f p).1, .bool (nxt now f p).2]) ∧ w = w' := by
  unfold nxt
  by_cases hbad : p < 1 ∨ f < 0 ∨ 16777216 < f ∨ 16777216 < now
  · rw [if_pos hbad]
    by_cases h1 : p < 1
    · clear hbad
      go_enter Try.func24, Try.ntmps24
      go_wp2
      go_returns
      exact ⟨rfl, rfl⟩
    by_cases h2 : f < 0
    · clear hbad
      go_enter Try.func24, Try.ntmps24
      go_wp2
      go_returns
      exact ⟨rfl, rfl⟩
    by_cases h3 : 16777216 < f
    · clear hbad
      go_enter Try.func24, Try.ntmps24
      go_wp2
      go_returns
      exact ⟨rfl, rfl⟩
    have h4 : 16777216 < now := by omega
    clear hbad
    go_enter Try.func24, Try.ntmps24
    go_wp2
    go_returns
    exact ⟨rfl, rfl⟩
  rw [if_neg hbad]
  have h1 : ¬ p < 1 := by omega
  have h2 : ¬ f < 0 := by omega
  have h3 : ¬ 16777216 < f := by omega
  have h4 : ¬ 16777216 < now := by omega
  obtain ⟨n, hn⟩ : ∃ n, (if now < 0 then 0 else now) = n := ⟨_, rfl⟩
  rw [hn]
  have hnb : 0 ≤ n ∧ n ≤ 16777216 := by rw [← hn]; split <;> omega
  clear hbad
  by_cases h5 : n ≤ f
  · rw [if_pos h5]
    go_enter Try.func24, Try.ntmps24
    go_wp2
    go_returns
    exact ⟨rfl, rfl⟩
  rw [if_neg h5]
  have hnn : n = now := by rw [← hn]; split <;> omega
  subst hnn
  clear hn
  have hpf := per_facts (d := n - f) (p := p) (by omega) (by omega)
  have hk1 : wrap64 ((n - f) / p + 1) = (n - f) / p + 1 := IntWalk.wrap64_in _ ⟨by omega, by omega⟩
  obtain ⟨q, hq⟩ : ∃ q, (n - f) / p = q := ⟨_, rfl⟩
  obtain ⟨r, hr⟩ : ∃ r, (n - f) % p = r := ⟨_, rfl⟩
  have hper : per (n - f) p = q + (if r = 0 then 0 else 1) := by unfold per; rw [hq, hr]
  rw [hper] at hpf ⊢
  rw [hq] at hk1 hpf
  clear hper
  by_cases h0 : r = 0
  · rw [if_pos h0, Int.add_zero] at hpf ⊢
    have hr0 : ((n - f) % p != 0) = false := by rw [hr, h0]; rfl
    clear hk1
    obtain ⟨m, hm⟩ : ∃ m, q * p = m := ⟨_, rfl⟩
    rw [hm] at hpf ⊢
    by_cases h6 : 16777216 < p
    · rw [if_pos (Or.inl h6)]
      clear hm
      go_enter Try.func24, Try.ntmps24
      go_wp2
      go_returns
      exact ⟨rfl, rfl⟩
    have hmw : wrap64 m = m := IntWalk.wrap64_in _ ⟨by omega, by omega⟩
    have hfw : wrap64 (f + m) = f + m := IntWalk.wrap64_in _ ⟨by omega, by omega⟩
    by_cases h7 : 16777216 < f + m
    · rw [if_pos (Or.inr h7)]
      go_enter Try.func24, Try.ntmps24
      go_wp2
      go_returns
      exact ⟨rfl, rfl⟩
    · rw [if_neg (by omega : ¬ (16777216 < p ∨ 16777216 < f + m))]
      go_enter Try.func24, Try.ntmps24
      go_wp2
      go_returns
      exact ⟨rfl, rfl⟩
  · rw [if_neg h0] at hpf ⊢
    have hr0 : ((n - f) % p != 0) = true := by rw [hr, bne_iff_ne]; exact h0
    obtain ⟨m, hm⟩ : ∃ m, (q + 1) * p = m := ⟨_, rfl⟩
    rw [hm] at hpf ⊢
    by_cases h6 : 16777216 < p
    · rw [if_pos (Or.inl h6)]
      clear hm
      go_enter Try.func24, Try.ntmps24
      go_wp2
      go_returns
      exact ⟨rfl, rfl⟩
    have hmw : wrap64 m = m := IntWalk.wrap64_in _ ⟨by omega, by omega⟩
    have hfw : wrap64 (f + m) = f + m := IntWalk.wrap64_in _ ⟨by omega, by omega⟩
    by_cases h7 : 16777216 < f + m
    · rw [if_pos (Or.inr h7)]
      go_enter Try.func24, Try.ntmps24
      go_wp2
      go_returns
      exact ⟨rfl, rfl⟩
    · rw [if_neg (by omega : ¬ (16777216 < p ∨ 16777216 < f + m))]
      go_enter Try.func24, Try.ntmps24
      go_wp2
      go_returns
      exact ⟨rfl, rfl⟩
end Go.Proofs.Ytjfhkheedcpimaa
