/-
  THE LAW ElementFinds, over the contracts.
-/
import Derived.Test.YthkmhmjhcjgbbaaElLaws
import Derived.Deep.RegionHeld3
namespace Go.Proofs.Ythkmhmjhcjgbbaa
open Go.RowKit Go.Em El_

/-- What stays while a law's last region runs. -/
structure Stay (W : World) (sa : Option Addr) (l : List El) (c : Nat) (w : World) : Prop where
  sl : Sl w sa l c
  lt : W.heap.size < w.heap.size
  bel : Below W.heap.size W w
theorem Stay.below {W w w' : World} {sa : Option Addr} {l : List El} {c : Nat} (h : Stay W sa l c w) (hb : Below w.heap.size w w') : Stay W sa l c w' :=
  ⟨h.sl.below hb, Nat.lt_of_lt_of_le h.lt hb.size, h.bel.trans (hb.mono (Nat.le_of_lt h.lt))⟩
theorem Stay.drew {W w : World} {sa : Option Addr} {l : List El} {c : Nat} (h : Stay W sa l c w) : Stay W sa l c w.drew := ⟨h.sl.drew, h.lt, h.bel.drew⟩

set_option maxRecDepth 100000 in
set_option maxHeartbeats 4000000 in
theorem elementFinds_walk1 (D : Does) (l : List El) (sa : Option Addr) (c : Nat) (W : World) (h : Sl W sa l c) (hl : l.length ≤ maxLen) (e : El) (he : (Lit.int .i64 e.id).wf = true) :
    Calls Try.prog 6 #[.slice sa l.length c, v e] W fun e w' => e = .returned (.bool true) ∧ Below W.heap.size W w' := by
  have AW := Lib.hid (awake_any D)
  obtain ⟨w1, hw1⟩ : ∃ w1, w1 = W.alloc (.cells #[.int .i64 e.id, .string e.s] 35) := ⟨_, rfl⟩
  have B1 : Below W.heap.size W w1 := by rw [hw1]; exact (Below.refl _ _).alloc (Nat.le_refl _) _
  have Y1 : Stay W sa l c w1 := ⟨h.below B1, by rw [hw1]; simp, B1⟩
  have f0 : w1.cell? ⟨W.heap.size, 0, none⟩ = some (.int .i64 e.id) := by rw [hw1]; simp
  have f1 : w1.cell? ⟨W.heap.size, 1, none⟩ = some (.string e.s) := by rw [hw1]; simp
  have SM := Lib.hid (refSmall_any l sa c w1 Y1.sl.lies hl)
  cases hm : sml l
  · rw [hm] at SM
    unfold v
    have YY := Lib.hid Y1
    clear Y1 B1
    go_enter Try.func6, Try.ntmps6
    go_wp2_with fail
    rw [← hw1]
    clear hw1
    go_wp2_with (first
      | (go_at_call 8; refine SM.out.mono ?_; rintro e w' ⟨rfl, rfl⟩)
      | (go_at_call 9; refine (AW.out _).mono ?_; rintro e w2 ⟨rfl, hb⟩; have Y2 := Lib.hid (YY.out.below hb); clear hb))
    go_returns
    exact ⟨rfl, Y2.out.bel⟩
  rw [hm] at SM
  by_cases h20 : (20000 : Int) < e.s.size
  · unfold v
    have YY := Lib.hid Y1
    clear Y1 B1
    go_enter Try.func6, Try.ntmps6
    go_wp2_with fail
    rw [← hw1]
    clear hw1
    go_wp2_with (first
      | (go_at_call 8; refine SM.out.mono ?_; rintro e w' ⟨rfl, rfl⟩)
      | (go_at_call 9; refine (AW.out _).mono ?_; rintro e w2 ⟨rfl, hb⟩; have Y2 := Lib.hid (YY.out.below hb); clear hb))
    go_returns
    exact ⟨rfl, Y2.out.bel⟩
  have h20' : decide ((20000 : Int) < e.s.size) = false := decide_eq_false h20
  obtain ⟨hz, h100⟩ := sml_sz hm
  have c1 := Lib.hid (fun w h => D.find_any l sa c e.id w h hz he)
  have c2 := Lib.hid (fun w h => refFind_any l sa c e.id w h (by omega))
  have c3 := Lib.hid (fun w h => D.with_any l sa c e w h hz h100 he (by omega))
  have c4 := Lib.hid (fun w h => refWith_any l sa c e w h (by omega))
  have hwl : (wth l e).length ≤ 1000 := by have := wth_len l e; split at this <;> omega
  have c5 := Lib.hid (fun sa sb c c' w h h' => refSame_any (wth l e) sa sb c c' w (by omega) h h')
  unfold WithPost at c3 c4
  unfold v at *
  generalize (fnd l e.id).1 = d at *
  generalize (fnd l e.id).2 = ok at *
  generalize wth l e = m at *
  generalize e.id = id at *
  generalize e.s = t at *
  clear hz hm hl h B1 he hwl
  have YY := Lib.hid Y1
  have FF := Lib.hid (And.intro f0 f1)
  clear Y1
  go_enter Try.func6, Try.ntmps6
  go_wp2_with fail
  rw [← hw1]
  clear hw1
  go_wp2_with (first
    | (go_at_call 8; refine SM.out.mono ?_; rintro e w' ⟨rfl, rfl⟩)
    | (go_at_call 17; refine (c1.out _ YY.out.sl).mono ?_; rintro e w2 ⟨rfl, hb⟩; have Y2 := Lib.hid (YY.out.below hb); have g0 := (hb.cell (p := ⟨W.heap.size, 0, none⟩) YY.out.lt).trans FF.out.1; have g1 := (hb.cell (p := ⟨W.heap.size, 1, none⟩) YY.out.lt).trans FF.out.2; clear hb YY FF f0 f1 SM)
    | (go_at_call 18; refine (c2.out _ Y2.out.sl.lies).mono ?_; rintro e w' ⟨rfl, rfl⟩))
  -- the last region
  have HST : Hid (∀ w w' : World, (w.cell? ⟨W.heap.size, 0, none⟩ = some (.int .i64 id) ∧ w.cell? ⟨W.heap.size, 1, none⟩ = some (.string t) ∧ Stay W sa l c w) → Below w.heap.size w w' → (w'.cell? ⟨W.heap.size, 0, none⟩ = some (.int .i64 id) ∧ w'.cell? ⟨W.heap.size, 1, none⟩ = some (.string t) ∧ Stay W sa l c w')) := fun w w' h hb =>
    ⟨(hb.cell (p := ⟨W.heap.size, 0, none⟩) h.2.2.lt).trans h.1, (hb.cell (p := ⟨W.heap.size, 1, none⟩) h.2.2.lt).trans h.2.1, h.2.2.below hb⟩
  have y2 := Y2.out
  clear Y2
  have C3 : Hid (∀ w, (w.cell? ⟨W.heap.size, 0, none⟩ = some (.int .i64 id) ∧ w.cell? ⟨W.heap.size, 1, none⟩ = some (.string t) ∧ Stay W sa l c w) → Calls Try.prog 19 #[.slice sa l.length c, .agg #[.int .i64 id, .string t]] w fun r w' => (∃ v0 c', r = .returned (.slice v0 m.length c') ∧ Sl w' v0 m c' ∧ Below w.heap.size w w') ∧ (w'.cell? ⟨W.heap.size, 0, none⟩ = some (.int .i64 id) ∧ w'.cell? ⟨W.heap.size, 1, none⟩ = some (.string t) ∧ Stay W sa l c w')) := fun w hS =>
    (c3.out w hS.2.2.sl).mono fun r w' ⟨v0, c', h1, h2, h3⟩ => ⟨⟨v0, c', h1, h2, h3⟩, HST.out w w' hS h3⟩
  have C4 : Hid (∀ w, (w.cell? ⟨W.heap.size, 0, none⟩ = some (.int .i64 id) ∧ w.cell? ⟨W.heap.size, 1, none⟩ = some (.string t) ∧ Stay W sa l c w) → Calls Try.prog 20 #[.slice sa l.length c, .agg #[.int .i64 id, .string t]] w fun r w' => (∃ v0 c', r = .returned (.slice v0 m.length c') ∧ Sl w' v0 m c' ∧ Below w.heap.size w w') ∧ (w'.cell? ⟨W.heap.size, 0, none⟩ = some (.int .i64 id) ∧ w'.cell? ⟨W.heap.size, 1, none⟩ = some (.string t) ∧ Stay W sa l c w')) := fun w hS =>
    (c4.out w hS.2.2.sl).mono fun r w' ⟨v0, c', h1, h2, h3⟩ => ⟨⟨v0, c', h1, h2, h3⟩, HST.out w w' hS h3⟩
  have C5 : Hid (∀ w sa' sb' d' d'', (w.cell? ⟨W.heap.size, 0, none⟩ = some (.int .i64 id) ∧ w.cell? ⟨W.heap.size, 1, none⟩ = some (.string t) ∧ Stay W sa l c w) → At w sa' m → At w sb' m → Calls Try.prog 16 #[.slice sa' m.length d', .slice sb' m.length d''] w fun r w' => r = .returned (.bool true) ∧ (w'.cell? ⟨W.heap.size, 0, none⟩ = some (.int .i64 id) ∧ w'.cell? ⟨W.heap.size, 1, none⟩ = some (.string t) ∧ Stay W sa l c w')) := fun w sa' sb' d' d'' hS h1 h2 =>
    (c5.out sa' sb' d' d'' w h1 h2).mono fun r w' h => ⟨h.1, HST.out w w' hS h.2⟩
  have C6 : Hid (∀ w, (w.cell? ⟨W.heap.size, 0, none⟩ = some (.int .i64 id) ∧ w.cell? ⟨W.heap.size, 1, none⟩ = some (.string t) ∧ Stay W sa l c w) → Calls Try.prog 9 #[] w fun r w' => r = .returned (.bool true) ∧ (w'.cell? ⟨W.heap.size, 0, none⟩ = some (.int .i64 id) ∧ w'.cell? ⟨W.heap.size, 1, none⟩ = some (.string t) ∧ Stay W sa l c w')) := fun w hS =>
    (AW.out w).mono fun r w' h => ⟨h.1, HST.out w w' hS h.2⟩
  clear c1 c2 c3 c4 c5 AW HST
  go_region_held3 (fun w' => (w'.cell? ⟨W.heap.size, 0, none⟩ = some (.int .i64 id) ∧ w'.cell? ⟨W.heap.size, 1, none⟩ = some (.string t) ∧ Stay W sa l c w')) (first | exact ⟨by assumption, by assumption, by assumption⟩ | exact ⟨g0, g1, y2.drew⟩ | go_keep)
    (first
    | (go_at_call 19; refine (C3.out _ ?_).mono ?_; (first | assumption | exact ⟨by assumption, by assumption, by assumption⟩); rintro r w3 ⟨⟨v3, n3, rfl, hs3, hb3⟩, q30, q31, q32⟩)
    | (go_at_call 20; refine (C4.out _ ?_).mono ?_; (first | assumption | exact ⟨by assumption, by assumption, by assumption⟩); rintro r w4 ⟨⟨v4, n4, rfl, hs4, hb4⟩, q40, q41, q42⟩; have hs3' := hs3.below hb4)
    | (go_at_call 16; refine (C5.out _ _ _ _ _ ?_ ?_ ?_).mono ?_; (first | assumption | exact ⟨by assumption, by assumption, by assumption⟩); exact hs3'.lies; exact hs4.lies; rintro r w5 ⟨rfl, q50, q51, q52⟩)
    | (go_at_call 9; refine (C6.out _ ?_).mono ?_; (first | assumption | exact ⟨by assumption, by assumption, by assumption⟩); rintro r w6 ⟨rfl, q60, q61, q62⟩))
  all_goals
    have hf := q62.bel
    clear q60 q61 q62
    go_wp2
    go_returns
    exact ⟨rfl, hf⟩
end Go.Proofs.Ythkmhmjhcjgbbaa
