/-
  WALKS of the reference of layer 15: Check.
-/
import Derived.Test.YtcpfkikifhcdmaaMgRefG
import Derived.Test.YtcpfkikifhcdmaaMgRefU
namespace Go.Proofs.Ytcpfkikifhcdmaa
open Go.RowKit Go.Mg Go.Ad
attribute [local go_sem ↓ high] Bd_.loadF Bd_.storeF Bd_.v_cells Bd_.v_match Bd_.loadP
attribute [local go_sem] Bd_.C0 Bd_.C4 Bd_.loadF_new

set_option maxRecDepth 100000 in
set_option maxHeartbeats 8000000 in
theorem refCheck15_any (b : Bd) (w : World) (hb : BdW b) :
    Calls Try.prog 11 #[Bd_.v b] w fun e w' => e = .returned (.int .i64 (chk b)) ∧ Below w.heap.size w w' := by
  obtain ⟨w1, hw1⟩ : ∃ w1, w.alloc (.cells (Bd_.C b) 27) = w1 := ⟨_, rfl⟩
  have S1 := Lib.hid (show Stb w b w1 from hw1 ▸ Stb.new w b)
  have HC : Hid (chk b = if isK b.kd ∧ usB b = b then (if rng b = true then (if 32 < b.nm.size then 2 else 0) else 4) else 3) := rfl
  have hcase : b.kd < 1 ∨ (¬ b.kd < 1 ∧ 12 < b.kd) ∨ (¬ b.kd < 1 ∧ ¬ 12 < b.kd) := by omega
  rcases hcase with h1 | ⟨h1, h2⟩ | ⟨h1, h2⟩
  · have HQ := Lib.hid (HC.out.trans (if_neg fun h => by have := h.1.1; omega))
    have d1 : decide (b.kd < 1) = true := decide_eq_true h1
    clear HC
    go_enter Try.func11, Try.ntmps11
    go_wp2
    have hc : ∀ (p : Of (Stb w b)) (j : Nat), p.w.cell? ⟨w.heap.size, j, none⟩ = (Bd_.C b)[j]? := fun p => p.ok.box.all
    have _ne : Nonempty (Of (Stb w b)) := ⟨⟨_, S1.out⟩⟩
    refine wp_region_of (Stb w b) (by kernel_rfl) (by kernel_rfl) S1.out.drew ?_
    repeat (quiet_step (skip))
    refine wpQuiet_nil ?_
    rintro _ ⟨p, rfl⟩
    clear hc
    go_wp2
    go_ret
    exact ⟨by rw [HQ.out]; rfl, p.ok.bel⟩
  · have HQ := Lib.hid (HC.out.trans (if_neg fun h => by have := h.1.2; omega))
    have d1 : decide (b.kd < 1) = false := decide_eq_false h1
    have d2 : decide (12 < b.kd) = true := decide_eq_true h2
    clear HC
    go_enter Try.func11, Try.ntmps11
    go_wp2
    have hc : ∀ (p : Of (Stb w b)) (j : Nat), p.w.cell? ⟨w.heap.size, j, none⟩ = (Bd_.C b)[j]? := fun p => p.ok.box.all
    have _ne : Nonempty (Of (Stb w b)) := ⟨⟨_, S1.out⟩⟩
    refine wp_region_of (Stb w b) (by kernel_rfl) (by kernel_rfl) S1.out.drew ?_
    repeat (quiet_step (skip))
    refine wpQuiet_nil ?_
    rintro _ ⟨p, rfl⟩
    clear hc
    go_wp2
    go_ret
    exact ⟨by rw [HQ.out]; rfl, p.ok.bel⟩
  have d1 : decide (b.kd < 1) = false := decide_eq_false h1
  have d2 : decide (12 < b.kd) = false := decide_eq_false h2
  have hk : isK b.kd := ⟨by omega, by omega⟩
  have CU := Lib.hid fun w => refUsed_any b w hk
  have hne := fun W => bd_neq (usB b) b W
  have hng := fun op x y => bd_guard op x y (usB b) b
  by_cases hu : usB b = b
  case neg =>
    have HQ := Lib.hid (HC.out.trans (if_neg fun h => hu h.2))
    rw [decide_eq_false hu] at hne
    simp only [Bool.not_false] at hne
    clear HC hk
    generalize usB b = y at *
    clear hu
    go_enter Try.func11, Try.ntmps11
    go_wp2
    have hc : ∀ (p : Of (Stb w b)) (j : Nat), p.w.cell? ⟨w.heap.size, j, none⟩ = (Bd_.C b)[j]? := fun p => p.ok.box.all
    have hf : ∀ (p : Of (Stb w b)), (Bd_.LoadF ⟨w.heap.size, 0, none⟩).run Try.prog p.w = .ok (Bd_.v b) p.w := fun p => p.ok.box.loadF
    have _ne : Nonempty (Of (Stb w b)) := ⟨⟨_, S1.out⟩⟩
    refine wp_region_of (Stb w b) (by kernel_rfl) (by kernel_rfl) S1.out.drew ?_
    repeat (quiet_step (first | (go_at_call 24; exact Calls.of_below Stb.keep' (CU.out _))))
    refine wpQuiet_nil ?_
    rintro _ ⟨p, rfl⟩
    clear hc hf
    go_wp2
    go_ret
    exact ⟨by rw [HQ.out]; rfl, p.ok.bel⟩
  have HC2 := Lib.hid (HC.out.trans (if_pos ⟨hk, hu⟩))
  have CR := Lib.hid fun w => refRanges_any b w hb hk hu
  rw [decide_eq_true hu] at hne
  simp only [Bool.not_true] at hne
  rw [hu] at CU hne hng
  clear HC hk hu
  by_cases hn : 32 < b.nm.size
  all_goals
    first | have hn' : (32 : Int) < (b.nm.size : Int) := by omega | have hn' : ¬ (32 : Int) < (b.nm.size : Int) := by omega
    cases hr : rng b <;> rw [hr] at CR HC2
    all_goals
      first
        | have HQ := Lib.hid (HC2.out.trans ((if_pos rfl).trans (if_pos hn)))
        | have HQ := Lib.hid (HC2.out.trans ((if_pos rfl).trans (if_neg hn)))
        | have HQ := Lib.hid (HC2.out.trans (if_neg Bool.false_ne_true))
      clear HC2 hr
      go_enter Try.func11, Try.ntmps11
      go_wp2
      have hc : ∀ (p : Of (Stb w b)) (j : Nat), p.w.cell? ⟨w.heap.size, j, none⟩ = (Bd_.C b)[j]? := fun p => p.ok.box.all
      have hf : ∀ (p : Of (Stb w b)), (Bd_.LoadF ⟨w.heap.size, 0, none⟩).run Try.prog p.w = .ok (Bd_.v b) p.w := fun p => p.ok.box.loadF
      have _ne : Nonempty (Of (Stb w b)) := ⟨⟨_, S1.out⟩⟩
      refine wp_region_of (Stb w b) (by kernel_rfl) (by kernel_rfl) S1.out.drew ?_
      repeat (quiet_step (first | (go_at_call 24; exact Calls.of_below Stb.keep' (CU.out _))))
      refine wpQuiet_nil ?_
      rintro _ ⟨p, rfl⟩
      clear hc hf
      have l2 := p.ok.box.loadF
      go_wp2_with (go_at_call 25; refine (CR.out _).mono ?_; rintro e w3 ⟨rfl, hb⟩; have S3 := Lib.hid (p.ok.keep hb); have e3 := S3.out.box.all; clear hb)
      go_ret
      exact ⟨by rw [HQ.out]; rfl, S3.out.bel⟩
end Go.Proofs.Ytcpfkikifhcdmaa
