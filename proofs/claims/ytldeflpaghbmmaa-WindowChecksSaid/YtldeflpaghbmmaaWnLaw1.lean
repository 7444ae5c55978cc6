/-
  THE LAW WindowChecks over the walks.
-/
import Derived.Test.YtldeflpaghbmmaaWnLives2
import Derived.Test.YtldeflpaghbmmaaWnRefC
namespace Go.Proofs.Ytldeflpaghbmmaa
open Go.RowKit Go.Wn Go.Sq Go.Wr
attribute [local go_sem ↓ high] Wv_.loadF Wv_.storeF Wv_.v_cells Wv_.v_match
attribute [local go_sem] Wv_.C0 Wv_.C1 Wv_.C2 Wv_.C3 Wv_.loadF_new Wv_.storeF_zero Oper.semAt_some

set_option maxRecDepth 100000 in
set_option maxHeartbeats 8000000 in
theorem windowChecks_walk0 (x : Wn) (s : St) {W : World} (hL : Lies W x s) (n : Int) (_ : (Lit.int .i64 n).wf = true) :
    Calls Try.prog 3 #[Wv_.v x, .int .i64 n] W fun e w' => e = .returned (.bool true) ∧ Below W.heap.size W w' := by
  obtain ⟨w1, hw1⟩ : ∃ w1, W.alloc (.cells (Wv_.C x) 24) = w1 := ⟨_, rfl⟩
  have X1 : Wv_.Box w1 W.heap.size x := hw1 ▸ Wv_.Box.new W x
  have B1 : Below W.heap.size W w1 := hw1 ▸ (Below.refl _ _).alloc (Nat.le_refl _) _
  have V1 := Lib.hid (show Vst W W.heap.size x w1 from ⟨X1, B1⟩)
  have l1 := X1.loadF
  have CF := Lib.hid (fun w => few22_any x w)
  have CL := Lib.hid lives22_any
  by_cases h70 : x.n ≤ 70
  · rw [decide_eq_true h70] at CF
    have hl : s.l.length ≤ 1000 := by have := hL.n; omega
    have CC := Lib.hid (fun w (h : Below W.heap.size W w) => wn_check_any x s w (hL.below h) hl)
    have CR := Lib.hid (fun w (h : Below W.heap.size W w) => r22_check_any x s w (hL.below h) hl)
    have CT := Lib.hid (fun w => state22_any x w)
    have CN := Lib.hid (fun w => wn_new_any n w)
    have CM := Lib.hid (fun w => r22_mod_any n w)
    have CS : Hid (∀ w, Calls Try.prog 14 #[Ww_.v ⟨md n, 0, none, 0, 0, false⟩, .agg #[.int .i64 (md n), .int .i64 0, .slice none 0 0, .bool false]] w fun e w' => e = .returned (.bool true) ∧ Below w.heap.size w w') := fun w =>
      same22_any ⟨md n, 0, none, 0, 0, false⟩ ⟨md n, 0, none, 0, 0, false⟩ ⟨md n, 0, [], false⟩ w ⟨rfl, rfl, rfl, rfl, Sn_.Sl.none _⟩ ⟨rfl, rfl, rfl, rfl, Sn_.Sl.none _⟩ (Nat.zero_le _)
    have q1 : ∀ (q : Of (Vst W W.heap.size x)), (Wv_.LoadF ⟨W.heap.size, 0, none⟩).run Try.prog q.w = .ok (Wv_.v x) q.w := fun q => q.ok.bx.loadF
    have _ne : Nonempty (Of (Vst W W.heap.size x)) := ⟨⟨_, V1.out⟩⟩
    generalize chk s = K at *
    generalize md n = M at *
    clear hL hl h70 X1 B1
    go_enter Try.func3, Try.ntmps3
    go_wp2_with (go_at_call 9; refine (CF.out _).mono ?_; rintro e w2 ⟨rfl, hw2⟩; have V2 := Lib.hid (V1.out.keep _ _ hw2); clear hw2)
    refine wp_region_of (Vst W W.heap.size x) (by kernel_rfl) (Region.lexB_of_fast (by kernel_rfl)) V2.out.drew ?_
    repeat (go_big_quiet_step (first
      | (go_at_call 12; exact Calls.of_below Vst.keep (CT.out _))
      | (go_at_call 11; exact Calls.of_below Vst.keep (CC.out _ (Vst.bel (Of.ok _))))
      | (go_at_call 13; exact Calls.of_below Vst.keep (CR.out _ (Vst.bel (Of.ok _))))
      | (go_at_call 15; exact Calls.of_below Vst.keep (CN.out _))
      | (go_at_call 16; exact Calls.of_same (CM.out _))
      | (go_at_call 14; exact Calls.of_below Vst.keep (CS.out _))
      | (go_at_call 10; exact Calls.of_below Vst.keep (CL.out _))))
    refine wpQuiet_nil ?_
    rintro _ ⟨q, rfl⟩
    have HB2 := Lib.hid q.ok.bel
    generalize q.w = w9 at *
    clear q1
    go_wp2
    go_returns
    exact ⟨rfl, HB2.out⟩
  · rw [decide_eq_false h70] at CF
    clear hL X1 B1
    go_enter Try.func3, Try.ntmps3
    go_wp2_with (first
      | (go_at_call 9; refine (CF.out _).mono ?_; rintro e w2 ⟨rfl, hw2⟩; have V2 := Lib.hid (V1.out.keep _ _ hw2); clear hw2)
      | (go_at_call 10; refine (CL.out _).mono ?_; rintro e w3 ⟨rfl, hw3⟩; have V3 := Lib.hid (V2.out.keep _ _ hw3); clear hw3))
    go_returns
    exact ⟨rfl, V3.out.bel⟩
end Go.Proofs.Ytldeflpaghbmmaa
