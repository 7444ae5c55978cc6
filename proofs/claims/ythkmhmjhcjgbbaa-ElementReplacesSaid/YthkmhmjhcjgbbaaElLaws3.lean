/-
  THE LAW ElementReplaces, over the contracts.
-/
import Derived.Test.YthkmhmjhcjgbbaaElLaws2
namespace Go.Proofs.Ythkmhmjhcjgbbaa
open Go.RowKit Go.Em El_

set_option maxRecDepth 100000 in
set_option maxHeartbeats 4000000 in
theorem elementReplaces_walk1 (D : Does) (l : List El) (sa : Option Addr) (c : Nat) (W : World) (h : Sl W sa l c) (hl : l.length ≤ maxLen) (e : El) (he : (Lit.int .i64 e.id).wf = true) (x : Int) (hx : (Lit.int .i64 x).wf = true) :
    Calls Try.prog 7 #[.slice sa l.length c, v e, .int .i64 x] W fun e w' => e = .returned (.bool true) ∧ Below W.heap.size W w' := by
  have AW := Lib.hid (awake_any D)
  obtain ⟨w1, hw1⟩ : ∃ w1, w1 = W.alloc (.cells #[.int .i64 e.id, .string e.s] 35) := ⟨_, rfl⟩
  have B1 : Below W.heap.size W w1 := by rw [hw1]; exact (Below.refl _ _).alloc (Nat.le_refl _) _
  have Y1 : Stay W sa l c w1 := ⟨h.below B1, by rw [hw1]; simp, B1⟩
  have f0 : w1.cell? ⟨W.heap.size, 0, none⟩ = some (.int .i64 e.id) := by rw [hw1]; simp
  have f1 : w1.cell? ⟨W.heap.size, 1, none⟩ = some (.string e.s) := by rw [hw1]; simp
  have SM := Lib.hid (refSmall_any l sa c w1 Y1.sl.lies hl)
  cases hm : sml l
  · rw [hm] at SM
    unfold v
    have YY := Lib.hid Y1
    clear Y1 B1
    go_enter Try.func7, Try.ntmps7
    go_wp2_with fail
    rw [← hw1]
    clear hw1
    go_wp2_with (first
      | (go_at_call 8; refine SM.out.mono ?_; rintro e w' ⟨rfl, rfl⟩)
      | (go_at_call 9; refine (AW.out _).mono ?_; rintro e w2 ⟨rfl, hb⟩; have Y2 := Lib.hid (YY.out.below hb); clear hb))
    go_returns
    exact ⟨rfl, Y2.out.bel⟩
  rw [hm] at SM
  by_cases h20 : (20000 : Int) < e.s.size
  · unfold v
    have YY := Lib.hid Y1
    clear Y1 B1
    go_enter Try.func7, Try.ntmps7
    go_wp2_with fail
    rw [← hw1]
    clear hw1
    go_wp2_with (first
      | (go_at_call 8; refine SM.out.mono ?_; rintro e w' ⟨rfl, rfl⟩)
      | (go_at_call 9; refine (AW.out _).mono ?_; rintro e w2 ⟨rfl, hb⟩; have Y2 := Lib.hid (YY.out.below hb); clear hb))
    go_returns
    exact ⟨rfl, Y2.out.bel⟩
  have h20' : decide ((20000 : Int) < e.s.size) = false := decide_eq_false h20
  obtain ⟨hz, h100⟩ := sml_sz hm
  have hmz := wth_sz hz h100 (e := e) (by omega)
  have c1 := Lib.hid (fun w h => D.with_any l sa c e w h hz h100 he (by omega))
  have c2 := Lib.hid (fun w h => D.find_any l sa c e.id w h hz he)
  have c3 := Lib.hid (fun sa c w h => D.find_any (wth l e) sa c e.id w h hmz he)
  have c4 := Lib.hid (fun w h => D.find_any l sa c x w h hz hx)
  have c5 := Lib.hid (fun sa c w h => D.find_any (wth l e) sa c x w h hmz hx)
  rw [wth_self l e] at c3
  have hlen := wth_len l e
  have hother := wth_other l e x
  have hml : (wth l e).length ≤ 101 := hmz.1
  unfold WithPost at c1
  unfold v at *
  simp only at c3
  generalize (fnd l e.id).1 = d at *
  generalize (fnd l e.id).2 = was at *
  generalize fnd l x = fl at *
  generalize fnd (wth l e) x = fm at *
  generalize wth l e = m at *
  generalize e.id = id at *
  generalize e.s = t at *
  have YY := Lib.hid Y1
  have FF := Lib.hid (And.intro f0 f1)
  clear hz hm hl h B1 he hx hmz Y1 f0 f1
  obtain ⟨fl1, fl2⟩ := fl
  obtain ⟨fm1, fm2⟩ := fm
  by_cases hid : x = id
  · subst hid
    clear hother
    cases was
    all_goals
      simp only [if_true, if_false, Bool.false_eq_true] at hlen
      rw [hlen] at c3 c5
      obtain ⟨f0, f1⟩ := FF.out
      go_enter Try.func7, Try.ntmps7
      go_wp2_with fail
      rw [← hw1]
      clear hw1
      go_wp2_with (first
        | (go_at_call 8; refine SM.out.mono ?_; rintro e w' ⟨rfl, rfl⟩)
        | (go_at_call 19; refine (c1.out _ YY.out.sl).mono ?_; rintro e w2 ⟨v2, n2, rfl, hs2, hb⟩; have Y2 := Lib.hid (YY.out.below hb); have M2 := Lib.hid hs2; have g0 := (hb.cell (p := ⟨W.heap.size, 0, none⟩) YY.out.lt).trans f0; have g1 := (hb.cell (p := ⟨W.heap.size, 1, none⟩) YY.out.lt).trans f1; clear hb YY FF f0 f1 SM hs2)
        | (go_at_call 17; with_reducible refine (c2.out _ Y2.out.sl).mono ?_; rintro e w3 ⟨rfl, hb⟩; have Y3 := Lib.hid (Y2.out.below hb); have M3 := Lib.hid (M2.out.below hb); have k0 := (hb.cell (p := ⟨W.heap.size, 0, none⟩) Y2.out.lt).trans g0; have k1 := (hb.cell (p := ⟨W.heap.size, 1, none⟩) Y2.out.lt).trans g1; clear hb Y2 M2 g0 g1 c2)
        | (go_at_call 17; with_reducible refine (c3.out _ _ _ M3.out).mono ?_; rintro e w4 ⟨rfl, hb⟩; have Y4 := Lib.hid (Y3.out.below hb); have M4 := Lib.hid (M3.out.below hb); have p0 := (hb.cell (p := ⟨W.heap.size, 0, none⟩) Y3.out.lt).trans k0; have p1 := (hb.cell (p := ⟨W.heap.size, 1, none⟩) Y3.out.lt).trans k1; clear hb Y3 M3 k0 k1 c3)
        | (go_at_call 17; with_reducible refine (c4.out _ Y4.out.sl).mono ?_; rintro e w5 ⟨rfl, hb⟩; have Y5 := Lib.hid (Y4.out.below hb); have M5 := Lib.hid (M4.out.below hb); have q0 := (hb.cell (p := ⟨W.heap.size, 0, none⟩) Y4.out.lt).trans p0; clear hb Y4 M4 p0 p1 c4)
        | (go_at_call 17; with_reducible refine (c5.out _ _ _ M5.out).mono ?_; rintro e w6 ⟨rfl, hb⟩; have Y6 := Lib.hid (Y5.out.below hb); have r0 := (hb.cell (p := ⟨W.heap.size, 0, none⟩) Y5.out.lt).trans q0; clear hb Y5 M5 q0 c5)
        | (go_at_call 9; refine (AW.out _).mono ?_; rintro e w7 ⟨rfl, hb⟩; have Y7 := Lib.hid (Y6.out.below hb); clear hb))
      go_returns
      exact ⟨rfl, Y7.out.bel⟩
  · have ho := hother hid
    injection ho with ho1 ho2
    subst ho1
    subst ho2
    clear hother
    cases was
    all_goals
      simp only [if_true, if_false, Bool.false_eq_true] at hlen
      rw [hlen] at c3 c5
      obtain ⟨f0, f1⟩ := FF.out
      go_enter Try.func7, Try.ntmps7
      go_wp2_with fail
      rw [← hw1]
      clear hw1
      go_wp2_with (first
        | (go_at_call 8; refine SM.out.mono ?_; rintro e w' ⟨rfl, rfl⟩)
        | (go_at_call 19; refine (c1.out _ YY.out.sl).mono ?_; rintro e w2 ⟨v2, n2, rfl, hs2, hb⟩; have Y2 := Lib.hid (YY.out.below hb); have M2 := Lib.hid hs2; have g0 := (hb.cell (p := ⟨W.heap.size, 0, none⟩) YY.out.lt).trans f0; have g1 := (hb.cell (p := ⟨W.heap.size, 1, none⟩) YY.out.lt).trans f1; clear hb YY FF f0 f1 SM hs2)
        | (go_at_call 17; with_reducible refine (c2.out _ Y2.out.sl).mono ?_; rintro e w3 ⟨rfl, hb⟩; have Y3 := Lib.hid (Y2.out.below hb); have M3 := Lib.hid (M2.out.below hb); have k0 := (hb.cell (p := ⟨W.heap.size, 0, none⟩) Y2.out.lt).trans g0; have k1 := (hb.cell (p := ⟨W.heap.size, 1, none⟩) Y2.out.lt).trans g1; clear hb Y2 M2 g0 g1 c2)
        | (go_at_call 17; with_reducible refine (c3.out _ _ _ M3.out).mono ?_; rintro e w4 ⟨rfl, hb⟩; have Y4 := Lib.hid (Y3.out.below hb); have M4 := Lib.hid (M3.out.below hb); have p0 := (hb.cell (p := ⟨W.heap.size, 0, none⟩) Y3.out.lt).trans k0; have p1 := (hb.cell (p := ⟨W.heap.size, 1, none⟩) Y3.out.lt).trans k1; clear hb Y3 M3 k0 k1 c3)
        | (go_at_call 17; with_reducible refine (c4.out _ Y4.out.sl).mono ?_; rintro e w5 ⟨rfl, hb⟩; have Y5 := Lib.hid (Y4.out.below hb); have M5 := Lib.hid (M4.out.below hb); have q0 := (hb.cell (p := ⟨W.heap.size, 0, none⟩) Y4.out.lt).trans p0; clear hb Y4 M4 p0 p1 c4)
        | (go_at_call 17; with_reducible refine (c5.out _ _ _ M5.out).mono ?_; rintro e w6 ⟨rfl, hb⟩; have Y6 := Lib.hid (Y5.out.below hb); have r0 := (hb.cell (p := ⟨W.heap.size, 0, none⟩) Y5.out.lt).trans q0; clear hb Y5 M5 q0 c5)
        | (go_at_call 9; refine (AW.out _).mono ?_; rintro e w7 ⟨rfl, hb⟩; have Y7 := Lib.hid (Y6.out.below hb); clear hb))
      go_returns
      exact ⟨rfl, Y7.out.bel⟩
end Go.Proofs.Ythkmhmjhcjgbbaa
