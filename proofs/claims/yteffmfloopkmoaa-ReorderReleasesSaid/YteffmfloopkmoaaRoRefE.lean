/-
  WALKS of the reference of layer 20: Put.
-/
import Derived.Test.YteffmfloopkmoaaRoRefD
import Derived.Test.YteffmfloopkmoaaRoRefA
namespace Go.Proofs.Yteffmfloopkmoaa
open Go.RowKit Go.Ro Go.Sq Go.Wr
attribute [local go_sem ↓ high] Rw_.loadF Rw_.storeF Rw_.v_cells Rw_.v_match
attribute [local go_sem] Rw_.C0 Rw_.C1 Rw_.C2 Rw_.loadF_new Rw_.storeF_zero Oper.semAt_some

/-- A buffer, a number and what is released, handed back. -/
def RPutPost (p : Bf × Int × List ByteArray) (w : World) (e : Ending) (w' : World) : Prop :=
  ∃ x' sa c, e = .returned (.tuple #[Rw_.v x', .int .i64 p.2.1, .slice sa p.2.2.length c]) ∧ Lies w' x' p.1 ∧ Ss_.Sl w' sa p.2.2 c ∧ Below w.heap.size w w'

set_option maxRecDepth 100000 in
set_option maxHeartbeats 4000000 in
theorem r_put_old (x : Rw) (b : Bf) (q : Int) (d : ByteArray) (w : World) (hL : Lies w x b) (hb : Ok b) (hd : d.size ≤ 5000) (ho : old b q d = true) :
    Calls Try.prog 18 #[Rw_.v x, .int .i64 q, .string d] w fun e w' => RPutPost (b, 0, []) w e w' := by
  have hl : b.hs.length ≤ 1000 := by have := hb.len; omega
  obtain ⟨w1, hw1⟩ : ∃ w1, w.alloc (.cells (Rw_.C x) 25) = w1 := ⟨_, rfl⟩
  obtain ⟨w2, hw2⟩ : ∃ w2, w1.alloc (.cells (Rw_.C zr) 25) = w2 := ⟨_, rfl⟩
  have hw2' : w1.alloc (.cells #[.int .i64 0, .int .i64 0, .slice none 0 0] 25) = w2 := hw2
  have z1 : w1.heap.size = w.heap.size + 1 := by rw [← hw1]; simp
  have T2 := Lib.hid (Two.new hw1 hw2)
  have l2 := T2.out.bx.loadF
  have e2 := T2.out.bx.all
  have hn := not20
  have hst := hL.st
  have CV := Lib.hid (fun w => refValid_any q w)
  have CD := Lib.hid (fun w => refDistance_any b.st q w)
  have CH := Lib.hid (r_has_any x b q w2 (hL.below T2.out.bel) hl)
  have HOLD : Hid (∀ w3, Two w x zr w3 → RPutPost (b, 0, []) w (.returned (.tuple #[Rw_.v x, .int .i64 0, .slice none 0 0])) (w3.setRow (w.heap.size + 1) (Rw_.C x)) ∧ Rw_.Box (w3.setRow (w.heap.size + 1) (Rw_.C x)) (w.heap.size + 1) x ∧ (Rw_.StoreF ⟨w.heap.size + 1, 0, none⟩ (Rw_.v x)).run Try.prog w3 = .ok () (w3.setRow (w.heap.size + 1) (Rw_.C x))) := fun w3 T =>
    ⟨⟨x, none, 0, rfl, lies_row2 (hL.below T.bel) (fun bb off hp e => by
      obtain ⟨b', o', e', hlt, -⟩ := hL.sl.lies 0 hp
      rw [e] at e'; cases e'; omega), Ss_.Sl.none _, (T.setY x).bel⟩, (T.setY x).rs, T.rs.storeF x⟩
  rw [old_ref b hb] at ho
  have HO : Hid (vl q = false ∨ 2048 ≤ dist b.st q ∨ has b q = true ∨ 2048 < d.size) := by
    show vl q = false ∨ 2048 ≤ dist b.st q ∨ has b q = true ∨ 2048 < d.size
    simpa using ho
  clear hL hb hl ho
  generalize dist b.st q = D at *
  generalize has b q = A at *
  cases hv : vl q
  case' true => by_cases h2 : 2048 ≤ D
  case' neg => cases A
  case' neg.false =>
    have hgt : (2048 : Int) < (d.size : Int) := by
      rcases HO.out with h | h | h | h
      · rw [hv] at h; cases h
      · exact absurd h h2
      · cases h
      · omega
  all_goals
    clear HO
    rw [hv] at CV
    have s9 := (HOLD.out w2 T2.out).2.2
    have E9 := Lib.hid (HOLD.out w2 T2.out)
    go_enter Try.func18, Try.ntmps18
    go_wp2_with (first
      | (go_at_call 25; refine (CV.out _).mono ?_; rintro e w' ⟨rfl, rfl⟩)
      | (go_at_call 10; refine (CD.out _).mono ?_; rintro e w' ⟨rfl, rfl⟩)
      | (go_at_call 36; refine CH.out.mono ?_; rintro e w3 ⟨rfl, hw3⟩; have T3 := T2.out.below hw3; have l3 := T3.bx.loadF; have s3 := (HOLD.out w3 T3).2.2; have E3 := Lib.hid (HOLD.out w3 T3); clear hw3 T3))
    first
      | exact ret_rw3 Try.results18 rfl rfl rfl E3.out.2.1 rfl E3.out.1
      | exact ret_rw3 Try.results18 rfl rfl rfl E9.out.2.1 rfl E9.out.1

set_option maxRecDepth 100000 in
set_option maxHeartbeats 4000000 in
theorem r_put_kept (x : Rw) (b : Bf) (q : Int) (d : ByteArray) (w : World) (hL : Lies w x b) (hb : Ok b) (ho : ¬ old b q d = true) (hz : dist b.st q < b.sz) :
    Calls Try.prog 18 #[Rw_.v x, .int .i64 q, .string d] w fun e w' => RPutPost ((drn (ins b q d)).1, 1, (drn (ins b q d)).2) w e w' := by
  have hl : b.hs.length ≤ 1000 := by have := hb.len; omega
  obtain ⟨w1, hw1⟩ : ∃ w1, w.alloc (.cells (Rw_.C x) 25) = w1 := ⟨_, rfl⟩
  obtain ⟨w2, hw2⟩ : ∃ w2, w1.alloc (.cells (Rw_.C zr) 25) = w2 := ⟨_, rfl⟩
  have hw2' : w1.alloc (.cells #[.int .i64 0, .int .i64 0, .slice none 0 0] 25) = w2 := hw2
  have z1 : w1.heap.size = w.heap.size + 1 := by rw [← hw1]; simp
  have T2 := Lib.hid (Two.new hw1 hw2)
  have l2 := T2.out.bx.loadF
  have e2 := T2.out.bx.all
  have hn := not20
  have hst := hL.st
  have hsz := hL.sz
  have CV := Lib.hid (fun w => refValid_any q w)
  have CD := Lib.hid (fun w => refDistance_any b.st q w)
  have CH := Lib.hid (r_has_any x b q w2 (hL.below T2.out.bel) hl)
  have hof := ho
  rw [old_ref b hb] at hof
  obtain ⟨hh, hqv, hq2, hd2⟩ := not_old ho
  have hv : vl q = true := (vl_iff q).2 hqv
  have hA : has b q = false := by
    cases hA : has b q
    · rfl
    · rw [hA] at hof; simp at hof
  rw [hv] at CV
  rw [hA] at CH
  have HIN : Hid (∀ W, Below w.heap.size w W → Calls Try.prog 38 #[Rw_.v x, .int .i64 q, .string d] W fun e w' => BfPost (ins b q d) W e w') := fun W hW => r_insert_any x b q d W (hL.below hW) hb.asc hl
  have HDN : Hid (∀ y W, Lies W y (ins b q d) → Calls Try.prog 37 #[Rw_.v y] W fun e w' => DrnPost (fun x' _ => x'.sa = y.sa ∨ ∀ bb off, x'.sa = some ⟨bb, off, none⟩ → W.heap.size ≤ bb) (drn (ins b q d)) W e w') := fun y W h => r_drain_any y (ins b q d) W h hb.st (by rw [ins_len]; have := hb.len; omega)
  have h2 : ¬ 2048 ≤ dist b.st q := by omega
  have hnd : ¬ (2048 : Int) < (d.size : Int) := by omega
  have hds : d.size ≤ 2048 := by omega
  clear hL hb hl ho hof hh hqv hq2 hd2 hv hA
  generalize dist b.st q = D at *
  obtain ⟨D1, D2, hD⟩ : ∃ D1 D2, drn (ins b q d) = (D1, D2) := ⟨_, _, rfl⟩
  rw [hD] at HDN ⊢
  dsimp only at HDN ⊢
  clear hD
  go_enter Try.func18, Try.ntmps18
  go_wp2_with (first
    | (go_at_call 25; refine (CV.out _).mono ?_; rintro e w' ⟨rfl, rfl⟩)
    | (go_at_call 10; refine (CD.out _).mono ?_; rintro e w' ⟨rfl, rfl⟩)
    | (go_at_call 36; refine CH.out.mono ?_; rintro e w3 ⟨rfl, hw3⟩; have T3 := Lib.hid (T2.out.below hw3); have l3 := T3.out.bx.loadF; have e3 := T3.out.bx.all; clear hw3))
  go_quiet (first | (go_at_call 10; exact Calls.quiet_of_same ((CD.out _).mono fun _ _ q => ⟨q.1, q.2.symm⟩)))
  rename_i nq
  have T4 : Hid (Two w x zr (w3.drewN nq)) := ⟨T3.out.bx, T3.out.rs, below_drewN20 T3.out.bel _⟩
  have l4 := T4.out.bx.loadF
  go_wp2_with (first
    | (go_at_call 38; refine (HIN.out _ T4.out.bel).mono ?_; rintro e w5 ⟨x5, rfl, hl5, hb5, hf5⟩; have T5 := Lib.hid (T4.out.below hb5); have L5 := Lib.hid (And.intro hl5 hf5); clear hl5 hb5 hf5)
    | (go_at_call 37; refine (HDN.out x5 w5 L5.out.1).mono ?_; rintro e w6 ⟨x6, sa6, c6, rfl, hl6, ho6, hb6, hp6⟩; have T6 := Lib.hid (T5.out.below hb6); have HF6 : Hid (∀ bb off, x6.sa = some ⟨bb, off, none⟩ → w.heap.size + 2 ≤ bb) := (fun bb off e => by
        have h1 := T4.out.size
        have h2 := T5.out.size
        rcases hp6 with h | h
        · rw [h] at e
          have := L5.out.2 bb off e
          omega
        · have := h bb off e
          omega); have S6 := Lib.hid (And.intro hl6 (And.intro (Ss_.sl_owns ho6) (fun bb off (e : sa6 = some ⟨bb, off, none⟩) => show w.heap.size + 2 ≤ bb by subst e; have h1 := (ho6.lt bb rfl).1; have h2 := T5.out.size; omega))); have b6 : Below w6.heap.size w6 (w6.alloc (.cells (Rw_.C x6) 25)) := (Below.refl _ _).alloc (Nat.le_refl _) _; have T7 := Lib.hid (T6.out.below b6); have s7 := T7.out.rs.storeF x6; have X7 := Lib.hid (T7.out.setY x6).rs; have F7 : Hid (RPutPost (D1, 1, D2) w (.returned (.tuple #[Rw_.v x6, .int .i64 1, .slice sa6 D2.length c6])) ((w6.alloc (.cells (Rw_.C x6) 25)).setRow (w.heap.size + 1) (Rw_.C x6))) := ⟨x6, sa6, c6, rfl, lies_row (S6.out.1.below b6) (fun bb off e => by have := HF6.out bb off e; omega), ss_row (S6.out.2.1.below b6) (fun bb off e => by have := S6.out.2.2 bb off e; omega), (T7.out.setY x6).bel⟩; clear hl6 ho6 hb6 hp6 b6))
  exact ret_rw3 Try.results18 rfl rfl rfl X7.out rfl F7.out
end Go.Proofs.Yteffmfloopkmoaa
