/-
  WALKS of package window: Check.
-/
import Derived.Test.YtldeflpaghbmmaaWnChk
namespace Go.Proofs.Ytldeflpaghbmmaa
open Go.RowKit Go.Wn Go.Sq Go.Wr
attribute [local go_sem ↓ high] Ww_.loadF Ww_.storeF Ww_.v_cells Ww_.v_match
attribute [local go_sem] Ww_.C0 Ww_.C1 Ww_.C2 Ww_.C3 Ww_.loadF_new Ww_.storeF_zero Oper.semAt_some

theorem chk_bad {s : St} (h : vl s.nx = false ∨ s.sz < 0 ∨ 64 < s.sz) : chk s = 4 := by
  unfold chk
  rw [if_pos]
  unfold hdBad
  rcases h with h | h | h
  · rw [h]; rfl
  · rw [decide_eq_true h]; simp
  · rw [decide_eq_true h]; simp
theorem chk_go {s : St} (h0 : vl s.nx = true) (h1 : ¬ s.sz < 0) (h2 : ¬ 64 < s.sz) : chk s = chkE s := by
  unfold chk
  rw [if_neg]
  unfold hdBad
  rw [h0, decide_eq_false h1, decide_eq_false h2]; decide

set_option maxRecDepth 100000 in
set_option maxHeartbeats 8000000 in
theorem wn_check_any (x : Wn) (s : St) (w : World) (hL : Lies w x s) (hl : s.l.length ≤ 1000) :
    Calls Try.prog 11 #[Ww_.v x] w fun e w' => e = .returned (.int .i64 (chk s)) ∧ Below w.heap.size w w' := by
  obtain ⟨w1, hw1⟩ : ∃ w1, w.alloc (.cells (Ww_.C x) 29) = w1 := ⟨_, rfl⟩
  have hb : Ww_.Box w1 w.heap.size x := hw1 ▸ Ww_.Box.new w x
  have B1 : Hid (Below w.heap.size w w1) := hw1 ▸ (Below.refl _ _).alloc (Nat.le_refl _) _
  have S1 := Lib.hid (show Wst w w.heap.size x w1 from ⟨hb, B1.out⟩)
  have e1 := hb.all
  have l1 := hb.loadF
  have CV := Lib.hid (fun w => valid_any s.nx w)
  have CL : Hid (∀ W, Wst w w.heap.size x W → Calls Try.prog 40 #[Ww_.v x] W fun e w' => e = .returned (.int .i64 (chkL (bgn s) (used s) (-1) s.l)) ∧ Below W.heap.size W w') := fun W hW => wn_checkList_any x s W (hL.below hW.bel) hl
  have CU : Hid (∀ W, Wst w w.heap.size x W → Calls Try.prog 41 #[Ww_.v x] W fun e w' => e = .returned (.int .i64 (used s)) ∧ Below W.heap.size W w') := fun W hW => wn_used_any x s W (hL.below hW.bel)
  have CW := Lib.hid (fun W => wn_width_any x W)
  rw [hL.sz] at CW
  have hnx := hL.nx
  have hsz := hL.sz
  have HB := Lib.hid (@chk_bad s)
  have HG := Lib.hid (@chk_go s)
  have HE : Hid (chkE s = if chkL (bgn s) (used s) (-1) s.l = 0 then (if wid s.sz < used s then 12 else if fstDn s.l then 3 else 0) else chkL (bgn s) (used s) (-1) s.l) := rfl
  have HLI := Lib.hid hL
  have hn := hL.n
  have hn0 : s.l.length ≤ 1000 := hl
  generalize chkL (bgn s) (used s) (-1) s.l = E at *
  generalize chk s = R at *
  generalize chkE s = R2 at *
  generalize used s = U at *
  generalize wid s.sz = WD at *
  clear hL hl hb
  cases hv : vl s.nx
  · obtain rfl := HB.out (.inl hv)
    rw [hv] at CV
    clear HB HG HE
    go_enter Try.func11, Try.ntmps11
    go_wp2_with (go_at_call 39; refine (CV.out _).mono ?_; rintro e w' ⟨rfl, rfl⟩)
    go_returns
    exact ⟨rfl, B1.out⟩
  rw [hv] at CV
  by_cases h1 : s.sz < 0
  · obtain rfl := HB.out (.inr (.inl h1))
    clear HB HG HE
    go_enter Try.func11, Try.ntmps11
    go_wp2_with (go_at_call 39; refine (CV.out _).mono ?_; rintro e w' ⟨rfl, rfl⟩)
    go_returns
    exact ⟨rfl, B1.out⟩
  by_cases h2 : 64 < s.sz
  · obtain rfl := HB.out (.inr (.inr h2))
    clear HB HG HE
    go_enter Try.func11, Try.ntmps11
    go_wp2_with (go_at_call 39; refine (CV.out _).mono ?_; rintro e w' ⟨rfl, rfl⟩)
    go_returns
    exact ⟨rfl, B1.out⟩
  have HGO := Lib.hid (HG.out hv h1 h2)
  clear HB HG
  rw [HGO.out, HE.out]
  clear HGO HE
  by_cases h3 : E = 0
  · rw [if_pos h3]
    subst h3
    obtain ⟨r, hr⟩ : ∃ r : Int, (if WD < U then 12 else if fstDn s.l = true then 3 else 0) = r := ⟨_, rfl⟩
    rw [hr]
    have HR := Lib.hid hr
    clear hr
    have q0 : ∀ (q : Of (Wst w w.heap.size x)) (j : Nat), q.w.cell? ⟨w.heap.size, j, none⟩ = (Ww_.C x)[j]? := fun q j => q.ok.bx.all j
    have q1 : ∀ (q : Of (Wst w w.heap.size x)), (Ww_.LoadF ⟨w.heap.size, 0, none⟩).run Try.prog q.w = .ok (Ww_.v x) q.w := fun q => q.ok.bx.loadF
    have _ne : Nonempty (Of (Wst w w.heap.size x)) := ⟨⟨_, S1.out⟩⟩
    go_enter Try.func11, Try.ntmps11
    go_wp2_with (first
      | (go_at_call 39; refine (CV.out _).mono ?_; rintro e w' ⟨rfl, rfl⟩)
      | (go_at_call 40; refine (CL.out _ S1.out).mono ?_; rintro e w3 ⟨rfl, hw3⟩; have W3 := Lib.hid (S1.out.keep _ _ hw3); clear hw3))
    refine wp_region_of (Wst w w.heap.size x) (by kernel_rfl) (Region.lexB_of_fast (by kernel_rfl)) W3.out.drew ?_
    repeat (go_big_quiet_step (first
      | (go_at_call 42; exact Calls.of_below Wst.keep (CW.out _))
      | (go_at_call 41; exact Calls.of_below Wst.keep (CU.out _ (Of.ok _)))))
    refine wpQuiet_nil ?_
    rintro _ ⟨q, rfl⟩
    have W4 := Lib.hid q.ok
    have e4 := W4.out.bx.all
    generalize q.w = w4 at *
    clear q0 q1 e1 l1
    by_cases h4 : WD < U
    · have HR2 := Lib.hid (HR.out.symm.trans (if_pos h4))
      go_wp2
      go_returns
      exact ⟨by rw [HR2.out]; rfl, W4.out.bel⟩
    · have HR2 := Lib.hid (HR.out.symm.trans (if_neg h4))
      by_cases h5 : s.l.length = 0
      · rw [fstDn_nil h5] at HR2
        have hx0 : x.n = 0 := hn.trans h5
        go_wp2
        go_returns
        exact ⟨by rw [HR2.out]; rfl, W4.out.bel⟩
      · have h6 : 0 < s.l.length := by omega
        obtain ⟨b, off, hsa, hbl, -, -, -, k3, -⟩ := HLI.out.sl.lies 0 h6
        have c3 := (W4.out.bel.cell hbl).trans k3
        rw [Nat.zero_mul, Nat.add_zero] at c3
        rw [fstDn_cons h6] at HR2
        have hx1 : 0 < x.n := by omega
        have hx2 : (0 : Int) < (x.n : Int) := by omega
        have hle : x.n ≤ x.c := by rw [hn]; exact HLI.out.sl.le
        generalize s.l[0].dn = dd at *
        clear k3 hbl h5 h6
        cases dd
        · go_wp2
          go_returns
          exact ⟨by rw [HR2.out]; rfl, W4.out.bel⟩
        · go_wp2
          go_returns
          exact ⟨by rw [HR2.out]; rfl, W4.out.bel⟩
  · rw [if_neg h3]
    have h3' : (E != 0) = true := by simpa using h3
    go_enter Try.func11, Try.ntmps11
    go_wp2_with (first
      | (go_at_call 39; refine (CV.out _).mono ?_; rintro e w' ⟨rfl, rfl⟩)
      | (go_at_call 40; refine (CL.out _ S1.out).mono ?_; rintro e w3 ⟨rfl, hw3⟩; have W3 := Lib.hid (S1.out.keep _ _ hw3); clear hw3))
    go_returns
    exact ⟨rfl, W3.out.bel⟩
end Go.Proofs.Ytldeflpaghbmmaa
