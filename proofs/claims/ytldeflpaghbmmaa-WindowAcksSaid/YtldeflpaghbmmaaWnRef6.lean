/-
  WALKS of the reference of layer 22: Put; and Reset of the program.
-/
import Derived.Test.YtldeflpaghbmmaaWnRef5
namespace Go.Proofs.Ytldeflpaghbmmaa
open Go.RowKit Go.Wn Go.Sq Go.Wr
attribute [local go_sem ↓ high] Wv_.loadF Wv_.storeF Wv_.v_cells Wv_.v_match Ww_.loadF Ww_.storeF Ww_.v_cells Ww_.v_match
attribute [local go_sem] Wv_.C0 Wv_.C1 Wv_.C2 Wv_.C3 Wv_.loadF_new Wv_.storeF_zero Ww_.C0 Ww_.C1 Ww_.C2 Ww_.C3 Ww_.loadF_new Ww_.storeF_zero Oper.semAt_some

theorem own_nil22 {w : World} {base n : Nat} {v : Option Addr} {c : Nat} {l : List Sn} (h : w.ownsRow base 76 5 (.slice v (0 + n) c) (0 + n) (Sn_.flat ([] ++ l))) : w.ownsRow base 76 5 (.slice v n c) n (Sn_.flat l) := by
  rw [Nat.zero_add] at h; exact h
/-- What the reference's Put hands back. -/
def PutPostV (p : St × Int × Int) (w : World) (e : Ending) (w' : World) : Prop := ∃ x', e = .returned (.tuple #[Wv_.v x', .int .i64 p.2.1, .int .i64 p.2.2]) ∧ Out p.1 w x' w'

set_option maxRecDepth 100000 in
set_option maxHeartbeats 8000000 in
theorem r22_put_any (x : Wn) (s : St) (id : Int) (d : ByteArray) (w : World) (hL : Lies w x s) (hl : s.l.length ≤ 1000) (hz : wid s.sz ≤ 9223372036854775807) :
    Calls Try.prog 18 #[Wv_.v x, .int .i64 id, .string d] w fun e w' => PutPostV (put s id d) w e w' := by
  obtain ⟨w1, hw1⟩ : ∃ w1, w.alloc (.cells (Wv_.C x) 24) = w1 := ⟨_, rfl⟩
  obtain ⟨w2, hw2⟩ : ∃ w2, w1.alloc (.cells (Wv_.C zw) 24) = w2 := ⟨_, rfl⟩
  have hw2' : w1.alloc (.cells #[.int .i64 0, .int .i64 0, .slice none 0 0, .bool false] 24) = w2 := hw2
  have z1 : w1.heap.size = w.heap.size + 1 := by rw [← hw1]; simp
  have T2 := Lib.hid (TwoV.new hw1 hw2)
  have l2 := T2.out.bx.loadF
  clear hw2
  by_cases h1 : 2048 < d.size
  · have h1' : (2048 : Int) < (d.size : Int) := by omega
    have HE := Lib.hid (put_long (s := s) (id := id) h1)
    rw [HE.out]
    have t0 : (Wv_.StoreF ⟨w.heap.size + 1, 0, none⟩ (.agg #[.int .i64 0, .int .i64 0, .slice none 0 0, .bool false])).run Try.prog w2 = .ok () (w2.setRow (w.heap.size + 1) (Wv_.C zw)) := T2.out.rs.storeF zw
    have T0 := Lib.hid (T2.out.setY zw)
    clear hL hl hz HE h1
    go_enter Try.func18, Try.ntmps18
    go_wp2
    exact ret_wv3 Try.results18 rfl rfl rfl T0.out.rs rfl ⟨_, rfl, out_zst T0.out.bel⟩
  have h1' : ¬ (2048 : Int) < (d.size : Int) := by omega
  have CR := Lib.hid (r22_room_any x s w2 (hL.below T2.out.bel) hz)
  by_cases h2 : room s = 0
  · have HE := Lib.hid (put_full (id := id) h1 h2)
    rw [HE.out]
    rw [h2] at CR
    clear hL hl hz HE h1 h2
    go_enter Try.func18, Try.ntmps18
    go_wp2_with (go_at_call 23; refine CR.out.mono ?_; rintro e w3 ⟨rfl, hw3⟩; have T3 := Lib.hid (T2.out.below hw3); have t3 : (Wv_.StoreF ⟨w.heap.size + 1, 0, none⟩ (.agg #[.int .i64 0, .int .i64 0, .slice none 0 0, .bool false])).run Try.prog w3 = .ok () (w3.setRow (w.heap.size + 1) (Wv_.C zw)) := T3.out.rs.storeF zw; have T4 := Lib.hid (T3.out.setY zw); clear hw3)
    exact ret_wv3 Try.results18 rfl rfl rfl T4.out.rs rfl ⟨_, rfl, out_zst T4.out.bel⟩
  · have HE := Lib.hid (put_go (id := id) h1 h2)
    rw [HE.out]
    have h2' : (room s == 0) = false := by rw [beq_eq_false_iff_ne]; exact h2
    have HI := Lib.hid (info_parts Sn_.info)
    have hnx := hL.nx
    have HL := Lib.hid hL
    have HLN := Lib.hid hl
    have CM : Hid (∀ W, Calls Try.prog 16 #[.int .i64 (wrap64 (s.nx + 1))] W fun e w' => e = .returned (.int .i64 (add s.nx 1)) ∧ W = w') := fun W => by
      have h := r22_mod_any (wrap64 (s.nx + 1)) W
      rw [show md (wrap64 (s.nx + 1)) = add s.nx 1 from wrap_md _] at h
      exact h
    have CWI := Lib.hid (fun (sa : Option Addr) (n c : Nat) W => r22_with_any x sa n c W)
    generalize hM : add s.nx 1 = M at *
    generalize room s = R at *
    clear hL hl hz HE h1 h2 hM
    obtain ⟨n, hn⟩ : ∃ n, s.l.length = n := ⟨_, rfl⟩
    have hxn : x.n = n := HL.out.n.trans hn
    have HN := Lib.hid hn
    clear hn
    go_enter Try.func18, Try.ntmps18
    go_wp2_with (first
      | (go_at_call 23; refine CR.out.mono ?_; rintro e w3 ⟨rfl, hw3⟩; have T3 := Lib.hid (T2.out.below hw3); have T3b := Lib.hid (T3.out.below ((Below.refl _ _).alloc (Nat.le_refl _) (.cells #[] 76))); have e3 := T3b.out.bx.all; clear hw3)
      | (at_builtin; refine wpList_appSn _ rfl _ _ rfl w3.heap.size _ 0 [] rfl (Sn_.owns_lit w3 [] (Nat.le_refl _) (Nat.zero_le _)) x.sa n x.c s.l (by first | rfl | (rw [← hxn]; rfl)) HN.out (HL.out.sl.below T3b.out.bel) (by have := HLN.out; have := HN.out; omega) (by simp) ?_))
    intro v4 c4 w4 h4 hb4
    have HO4 := Lib.hid (show w4.ownsRow w3.heap.size 76 5 (.slice v4 n c4) n (Sn_.flat s.l) from h4)
    have B4 := Lib.hid (((Below.refl w3.heap.size w3).alloc (Nat.le_refl _) (.cells #[] 76)).trans hb4)
    have T4 := Lib.hid (T3.out.below B4.out)
    have e4 := T4.out.bx.all
    have l4 := T4.out.bx.loadF
    clear h4 hb4
    go_wp2_with (at_builtin; obtain ⟨i0, hi0, hz0, hz1, hz2⟩ := HI.out; refine wpList_append_own _ rfl _ _ 22 rfl w3.heap.size 76 i0 (.agg #[.int .i64 0, .int .i64 0, .int .i64 0, .bool false, .string ⟨#[]⟩]) 5 48 Try.underlying22 hi0 hz0 hz1 hz2 rfl (by decide) _ _ _ (by first | rfl | (rw [Nat.zero_add]; rfl)) (HO4.out.alloc _) ⟨w4.heap.size, 0, none⟩ 1 1 (Sn_.cs ⟨id, s.nx, 0, false, d⟩) rfl rfl ?c1 (Sn_.flat_one _) ?c3 ?c4 ?c5 ?_)
    case c1 =>
      intro j x hj
      match j, hj with
      | 0, hj => simp [Sn_.cs] at hj; subst hj; simp [Addr.add]
      | 1, hj => simp [Sn_.cs] at hj; subst hj; simp [Addr.add]
      | 2, hj => simp [Sn_.cs] at hj; subst hj; simp [Addr.add]
      | 3, hj => simp [Sn_.cs] at hj; subst hj; simp [Addr.add]
      | 4, hj => simp [Sn_.cs] at hj; subst hj; simp [Addr.add]
    case c3 => have := HLN.out; have := HN.out; unfold maxLen; omega
    case c4 => have := HLN.out; have := HN.out; omega
    case c5 => have h := B4.out.size; simp; omega
    intro v5 w5 hown5 hgrow hn'
    clear hi0 hz0 hz1 hz2
    obtain ⟨v0, c', rfl⟩ := Sn_.slice_form hown5
    obtain ⟨p, hp⟩ : ∃ p : Sn, p = ⟨id, s.nx, 0, false, d⟩ := ⟨_, rfl⟩
    have HPL : Hid ((s.l ++ [p]).length = n + 1) := by show _ = _; rw [List.length_append, HN.out]; rfl
    have hown6 : w5.ownsRow w3.heap.size 76 5 (.slice v0 (s.l ++ [p]).length c') (s.l ++ [p]).length (Sn_.flat (s.l ++ [p])) := by
      rw [Sn_.flat_snoc, HPL.out, hp]
      exact hown5
    have HS := Lib.hid (Sn_.sl_owns hown6)
    have HF := Lib.hid (Fr.own hown6)
    have B5 := Lib.hid ((B4.out.alloc B4.out.size _).grown hgrow (by simp; have := B4.out.size; omega) (fun j hj => (HO4.out.lt j hj).1))
    have T5 := Lib.hid (T3.out.below B5.out)
    have hz3 := T3.out.size
    have e5 := T5.out.bx.all
    have l5 := T5.out.bx.loadF
    rw [hp] at HPL HS
    clear hown5 hown6 hgrow hn' hp e3 l2 e4 l4
    go_wp2_with fail
    refine (CWI.out v0 (n + 1) c' w5).mono ?_
    rintro e w6 ⟨rfl, hb6⟩
    have T6 := Lib.hid (T5.out.below hb6)
    have HS6 := Lib.hid (HS.out.below hb6)
    obtain ⟨w7, hw7⟩ : ∃ w7, w6.alloc (.cells (Wv_.C ⟨s.nx, x.sz, v0, n + 1, c', x.rq⟩) 24) = w7 := ⟨_, rfl⟩
    have Y7 := Lib.hid (show Wv_.Box w7 w6.heap.size ⟨s.nx, x.sz, v0, n + 1, c', x.rq⟩ from hw7 ▸ Wv_.Box.new w6 _)
    have b7 : Below w6.heap.size w6 w7 := hw7 ▸ (Below.refl _ _).alloc (Nat.le_refl _) _
    have T7 := Lib.hid (T6.out.below b7)
    have HS7 := Lib.hid (HS6.out.below b7)
    have e7 := T7.out.bx.all
    have y7 := Y7.out.all
    have f7 := Y7.out.frozen
    have Y8 := Lib.hid (Y7.out.set0 M)
    have z6 := T6.out.size
    have z5 : Hid (w3.heap.size ≤ w6.heap.size) := Nat.le_trans B5.out.size hb6.size
    have T8 := Lib.hid (T7.out.up (show Below (w.heap.size + 2) w7 (w7.setCell ⟨w6.heap.size, 0, none⟩ (.int .i64 M)) from (Below.refl _ _).setCell (by show w.heap.size + 2 ≤ w6.heap.size; omega) _))
    have z7 : Hid (v0 = none ∨ ∀ bb off, v0 = some ⟨bb, off, none⟩ → bb < w6.heap.size) := by
      right
      intro bb off e
      have h := HS6.out.lies 0 (by rw [HPL.out]; omega)
      obtain ⟨b, o, e2, hlt, -⟩ := h
      rw [e] at e2
      cases e2
      exact hlt
    have HS8 : Hid (Sn_.Sl (w7.setCell ⟨w6.heap.size, 0, none⟩ (.int .i64 M)) v0 (s.l ++ [⟨id, s.nx, 0, false, d⟩]) c') := by
      refine ⟨HS7.out.lies.block (by simp [World.setCell]) (fun bb off e => Below.heap_setCell _ _ _ _ ?_), HS7.out.le, HS7.out.nil⟩
      rcases z7.out with h | h
      · rw [h] at e; cases e
      · have := h bb off e
        show bb ≠ w6.heap.size
        omega
    obtain ⟨w8, hw8⟩ : ∃ w8, w7.setCell ⟨w6.heap.size, 0, none⟩ (.int .i64 M) = w8 := ⟨_, rfl⟩
    rw [hw8] at Y8 T8 HS8
    have l8 := Y8.out.drew.loadF
    have e8 := T8.out.drew.bx.all
    have t8 := T8.out.drew.rs.storeF ⟨M, x.sz, v0, n + 1, c', x.rq⟩
    have T9 := Lib.hid (T8.out.drew.setY ⟨M, x.sz, v0, n + 1, c', x.rq⟩)
    have e9 := T9.out.bx.all
    have HS9 := Lib.hid (sl_row22 (r := w.heap.size + 1) (cs := Wv_.C ⟨M, x.sz, v0, n + 1, c', x.rq⟩) HS8.out.drew HF.out (by omega))
    have HF9 := Lib.hid (HF.out.up (show w.heap.size ≤ w3.heap.size by omega))
    clear hb6 b7 HS HS6 HS7 z7 e5 l5
    go_wp2_with (go_at_call 16; refine (CM.out _).mono ?_; rintro e w' ⟨rfl, rfl⟩)
    go_region_with (fail)
    all_goals
      go_wp2
      exact ret_wv3 Try.results18 rfl rfl rfl T9.out.rs rfl ⟨_, rfl, ⟨rfl, HL.out.sz, HL.out.rq, HPL.out.symm, HS9.out⟩, T9.out.bel, HF9.out⟩
end Go.Proofs.Ytldeflpaghbmmaa
