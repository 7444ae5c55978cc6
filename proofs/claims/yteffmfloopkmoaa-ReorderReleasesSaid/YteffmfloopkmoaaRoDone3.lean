/-
  WALKS of package reorder: Put of a packet that is put in.
-/
import Derived.Test.YteffmfloopkmoaaRoDone2
namespace Go.Proofs.Yteffmfloopkmoaa
open Go.RowKit Go.Ro Go.Sq Go.Wr
attribute [local go_sem ↓ high] Rw_.loadF Rw_.storeF Rw_.v_cells Rw_.v_match
attribute [local go_sem] Rw_.C0 Rw_.C1 Rw_.C2 Rw_.loadF_new Rw_.storeF_zero Oper.semAt_some

theorem Two.set2 {w wi : World} {x y : Rw} (h : Two w x y wi) (v0 : Option Addr) (n c : Nat) : Two w ⟨x.st, x.sz, v0, n, c⟩ y (wi.setCell ⟨w.heap.size, 2, none⟩ (.slice v0 n c)) :=
  ⟨h.bx.set2 v0 n c, h.rs.other (by simp) _, h.bel.setCell (Nat.le_refl _) _⟩
theorem sl_set20 {w : World} {sa : Option Addr} {l : List Hd} {c : Nat} {a : Addr} {u : Value} (h : Hd_.Sl w sa l c) (hg : ∀ bb off, sa = some ⟨bb, off, none⟩ → bb ≠ a.block) : Hd_.Sl (w.setCell a u) sa l c :=
  ⟨h.lies.block (by simp) (fun bb off e => Below.heap_setCell _ _ _ _ (hg bb off e)), h.le, h.nil⟩

theorem Two.keep {w wi wj : World} {x y : Rw} {B : Nat} (h : Two w x y wi) (hb : Below B wi wj) (hB : w.heap.size + 2 ≤ B) : Two w x y wj :=
  ⟨h.bx.below hb (by omega), h.rs.below hb (by omega), h.bel.trans (hb.mono (by omega))⟩

set_option maxRecDepth 100000 in
set_option maxHeartbeats 4000000 in
theorem ro_put_new (x : Rw) (b : Bf) (q : Int) (d : ByteArray) (w : World) (hL : Lies w x b) (hb : Ok b) (ho : ¬ old b q d = true) :
    Calls Try.prog 17 #[Rw_.v x, .int .i64 q, .string d] w fun e w' => PutPost (put b q d) w e w' := by
  have hl : b.hs.length ≤ 1000 := by have := hb.len; omega
  obtain ⟨w1, hw1⟩ : ∃ w1, w.alloc (.cells (Rw_.C x) 25) = w1 := ⟨_, rfl⟩
  obtain ⟨w2, hw2⟩ : ∃ w2, w1.alloc (.cells (Rw_.C zr) 25) = w2 := ⟨_, rfl⟩
  have hw2' : w1.alloc (.cells #[.int .i64 0, .int .i64 0, .slice none 0 0] 25) = w2 := hw2
  have z1 : w1.heap.size = w.heap.size + 1 := by rw [← hw1]; simp
  have T2 := Lib.hid (Two.new hw1 hw2)
  have l2 := T2.out.bx.loadF
  have hn := not20
  obtain ⟨hh, hqv, hq2, hd2⟩ := not_old ho
  have CF := Lib.hid (ro_find_any x b q w2 (hL.below T2.out.bel) hb.asc hl)
  rw [hh] at CF
  have hin : inn b.st 2048 q = true := by unfold inn; rw [(vl_iff q).2 hqv, decide_eq_true hq2]; rfl
  have CI : Hid (∀ W, Calls Try.prog 30 #[Rw_.v x, .int .i64 q] W fun e w' => e = .returned (.bool true) ∧ Below W.heap.size W w') := fun W => by
    have h := ro_isAhead_any x q W
    rw [hL.st, hin] at h
    exact h
  have CW : Hid (∀ W, Calls Try.prog 28 #[Rw_.v x, .int .i64 q] W fun e w' => e = .returned (.bool (inn b.st b.sz q)) ∧ Below W.heap.size W w') := fun W => by
    have h := ro_inWindow_any x q W
    rw [hL.st, hL.sz] at h
    exact h
  have HSZ := hb.sz
  have CA : Hid (∀ W, Calls Try.prog 32 #[.int .i64 q, .int .i64 (1 - b.sz)] W fun e w' => e = .returned (.int .i64 (add q (1 - b.sz))) ∧ W = w') := fun W => add_any q (1 - b.sz) W
  have hws : wrap64 (1 - b.sz) = 1 - b.sz := IntWalk.wrap64_in _ (by omega)
  have HCL : Hid (∀ W, Below w.heap.size w W → Calls Try.prog 34 #[.slice x.sa x.n x.c] W fun e w' => ∃ v0 c, e = .returned (.slice v0 b.hs.length c) ∧ w'.ownsRow W.heap.size 51 2 (.slice v0 b.hs.length c) b.hs.length (Hd_.flat b.hs) ∧ Below W.heap.size W w') := fun W hW => by
    have h := clone20_any x.sa b.hs x.c W (hL.sl.below hW) hl
    rw [← hL.n] at h
    refine h.mono ?_
    rintro e w' ⟨v', rfl, h1, h2⟩
    obtain ⟨v0, c, rfl⟩ := Hd_.slice_form h1
    exact ⟨v0, c, rfl, h1, h2⟩
  have HNL : Hid (n0 b q ≤ b.hs.length) := nb_le _ _ _
  have HIL := Lib.hid (ins_len b q d)
  have HR : Hid (∀ (x2 : Rw) (S : Int) (W : World), Lies W x2 (ins b q d) → (0 ≤ S ∧ S < 4096) → Calls Try.prog 35 #[Rw_.v x2, .int .i64 S] W fun e w' => RelPost (rel (ins b q d) S) W e w') := fun x2 S W h1 h2 =>
    ro_release_any x2 (ins b q d) S W h1 (ins_asc hb.asc (held_false hh)) h2 (by rw [HIL.out]; have := hb.len; omega)
  have HII : Hid (∀ (v : Value) (base : Nat) (W : World), W.ownsRow base 51 2 v b.hs.length (Hd_.flat b.hs) → base ≤ W.heap.size → Calls Try.prog 33 #[v, .int .i64 (n0 b q : Nat), .slice (some ⟨W.heap.size, 0, none⟩) 1 1] (W.alloc (.cells #[.int .i64 q, .string d] 51)) fun e w' =>
      ∃ v0 c, e = .returned (.slice v0 (b.hs.length + 1) c) ∧ Hd_.Sl w' v0 (ins b q d).hs c ∧ (∀ bb off, v0 = some ⟨bb, off, none⟩ → base ≤ bb) ∧ Below base W w') := fun v base W h1 h2 => by
    have h := insert20_any v b.hs (n0 b q) ⟨q, d⟩ base (W.alloc (.cells #[.int .i64 q, .string d] 51)) (h1.alloc _) (by simp; omega) HNL.out hl W.heap.size (Hd_.Box.new W ⟨q, d⟩ rfl) (fun e => by have := (h1.lt W.heap.size e).2; omega)
    refine h.mono ?_
    rintro e w' ⟨v', rfl, h3, h4⟩
    obtain ⟨v0, c, rfl⟩ := Hd_.slice_form h3
    have h5 : w'.ownsRow base 51 2 (.slice v0 (ins b q d).hs.length c) (ins b q d).hs.length (Hd_.flat (ins b q d).hs) := by rw [HIL.out]; exact h3
    exact ⟨v0, c, rfl, Hd_.sl_owns h5, fun bb off e => by subst e; exact (h3.lt bb rfl).1, ((Below.refl _ _).alloc h2 _).trans h4⟩
  have HP1 : Hid (inn b.st b.sz q = true → put b q d = ((rel (ins b q d) b.st).1, 1, (rel (ins b q d) b.st).2)) := fun h => by
    show put b q d = _
    unfold put; rw [if_neg ho, if_pos h]
  have HP2 : Hid (inn b.st b.sz q = false → put b q d = ((rel (ins b q d) (add q (1 - b.sz))).1, 2, (rel (ins b q d) (add q (1 - b.sz))).2)) := fun h => by
    show put b q d = _
    unfold put; rw [if_neg ho, if_neg (by rw [h]; decide)]
  have HBS := Lib.hid hb.st
  have HBA := Lib.hid (add_vl q (1 - b.sz))
  have HLX := Lib.hid (And.intro hL.st hL.sz)
  have hsz : x.sz = b.sz := hL.sz
  have hst : x.st = b.st := hL.st
  have hnd : ¬ (2048 : Int) < (d.size : Int) := by omega
  have hds : d.size ≤ 2048 := by omega
  clear hL hb hl ho hh hqv hq2 hd2 hin HSZ
  generalize n0 b q = N at *
  generalize b.hs.length = m at *
  cases hA : inn b.st b.sz q
  case' false =>
    rw [HP2.out hA]
    have HS := HBA
    generalize add q (1 - b.sz) = S at *
  case' true =>
    rw [HP1.out hA]
    have HS := HBS
    obtain ⟨S, hS⟩ : ∃ S, b.st = S := ⟨_, rfl⟩
    rw [hS] at HS ⊢
  all_goals
    rw [hA] at CW
    clear HP1 HP2
    go_enter Try.func17, Try.ntmps17
    go_wp2_with (first
      | (go_at_call 29; refine CF.out.mono ?_; rintro e w3 ⟨rfl, hw3⟩; have T3 := Lib.hid (T2.out.below (hw3.mono (Nat.le_refl _))); have l3 := T3.out.bx.loadF; clear hw3)
      | (go_at_call 30; refine (CI.out _).mono ?_; rintro e w3b ⟨rfl, hw3b⟩; have T3b := Lib.hid (T3.out.below hw3b); have l3b := T3b.out.bx.loadF; have e3b := T3b.out.bx.all; clear hw3b)
      | (go_at_call 28; refine (CW.out _).mono ?_; rintro e w4 ⟨rfl, hw4⟩; have T4 := Lib.hid (T3b.out.below hw4); have e4 := T4.out.bx.all; clear hw4)
      | (go_at_call 32; refine (CA.out _).mono ?_; rintro e w' ⟨rfl, rfl⟩)
      | (go_at_call 34; refine (HCL.out w4 T4.out.bel).mono ?_; rintro e w5 ⟨v5, c5, rfl, hown5, hb5⟩; have T5 := Lib.hid (T4.out.below hb5); have HI5 := Lib.hid (HII.out _ _ w5 hown5 hb5.size); clear hown5 hb5)
      | (go_at_call 33; refine HI5.out.mono ?_; rintro e w6 ⟨v6, c6, rfl, hs6, hf6, hb6⟩; have T6 := Lib.hid (T5.out.keep hb6 T4.out.size); have e6 := T6.out.bx.all; have f6 := T6.out.bx.frozen 2; have HF6 := Lib.hid (And.intro hs6 hf6); have T7 := Lib.hid (T6.out.set2 v6 (m + 1) c6); have l7 := T7.out.bx.loadF; have HL7 : Hid (∀ st, st = b.st → Lies (w6.setCell ⟨w.heap.size, 2, none⟩ (.slice v6 (m + 1) c6)) ⟨st, b.sz, v6, m + 1, c6⟩ (ins b q d)) := fun st e => ⟨e, rfl, HIL.out.symm, sl_set20 hs6 (fun bb off e => by have := hf6 bb off e; have := T4.out.size; show bb ≠ w.heap.size; omega)⟩; clear hs6 hf6 hb6)
      | (go_at_call 35; refine (HR.out _ _ _ (HL7.out _ (by first | rfl | exact hS.symm)) HS.out).mono ?_; rintro e w8 ⟨x8, sa8, c8, rfl, hl8, hs8, hb8, hf8, hg8⟩; have T8 := Lib.hid (T7.out.below hb8); have s8 := T8.out.bx.storeF x8; have T9 := Lib.hid (T8.out.setX x8); have l9 := T9.out.bx.loadF; have s9 := T9.out.rs.storeF x8; have X9 := Lib.hid (T9.out.setY x8).rs; have F9 := Lib.hid (fun k : Int => put_fin (k := k) T7.out hl8 hs8 hb8 hf8 hg8); clear hl8 hs8 hb8 hf8 hg8))
    first
      | exact ret_rw3 Try.results17 rfl rfl rfl X9.out rfl (F9.out 1)
      | exact ret_rw3 Try.results17 rfl rfl rfl X9.out rfl (F9.out 2)

theorem ro_put_any (x : Rw) (b : Bf) (q : Int) (d : ByteArray) (w : World) (hL : Lies w x b) (hb : Ok b) (hd : d.size ≤ 5000) :
    Calls Try.prog 17 #[Rw_.v x, .int .i64 q, .string d] w fun e w' => PutPost (put b q d) w e w' := by
  by_cases ho : old b q d = true
  · have e : put b q d = (b, 0, []) := by unfold put; rw [if_pos ho]
    rw [e]
    exact ro_put_old x b q d w hL hb hd ho
  · exact ro_put_new x b q d w hL hb ho
end Go.Proofs.Yteffmfloopkmoaa
