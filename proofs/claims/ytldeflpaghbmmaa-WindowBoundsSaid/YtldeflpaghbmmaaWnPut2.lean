/-
  WALKS of package window: Put.
-/
import Derived.Test.YtldeflpaghbmmaaWnPut
namespace Go.Proofs.Ytldeflpaghbmmaa
open Go.RowKit Go.Wn Go.Sq Go.Wr
attribute [local go_sem ↓ high] Ww_.loadF Ww_.storeF Ww_.v_cells Ww_.v_match
attribute [local go_sem] Ww_.C0 Ww_.C1 Ww_.C2 Ww_.C3 Ww_.loadF_new Ww_.storeF_zero Oper.semAt_some

/-- What Put hands back. -/
def PutPost (p : St × Int × Int) (w : World) (e : Ending) (w' : World) : Prop := ∃ x', e = .returned (.tuple #[Ww_.v x', .int .i64 p.2.1, .int .i64 p.2.2]) ∧ Out p.1 w x' w'
theorem put_long {s : St} {id : Int} {d : ByteArray} (h : 2048 < d.size) : put s id d = (zst, 0, 2) := if_pos h
theorem put_full {s : St} {id : Int} {d : ByteArray} (h : ¬ 2048 < d.size) (h2 : room s = 0) : put s id d = (zst, 0, 6) := (if_neg h).trans (if_pos h2)
theorem put_go {s : St} {id : Int} {d : ByteArray} (h : ¬ 2048 < d.size) (h2 : ¬ room s = 0) : put s id d = ({ s with nx := add s.nx 1, l := s.l ++ [⟨id, s.nx, 0, false, d⟩] }, s.nx, 0) := (if_neg h).trans (if_neg h2)

set_option maxRecDepth 100000 in
set_option maxHeartbeats 4000000 in
theorem wn_put_any (x : Wn) (s : St) (id : Int) (d : ByteArray) (w : World) (hL : Lies w x s) (hl : s.l.length ≤ 1000) (hz : wid s.sz ≤ 9223372036854775807) :
    Calls Try.prog 17 #[Ww_.v x, .int .i64 id, .string d] w fun e w' => PutPost (put s id d) w e w' := by
  obtain ⟨w1, hw1⟩ : ∃ w1, w.alloc (.cells (Ww_.C x) 29) = w1 := ⟨_, rfl⟩
  obtain ⟨w2, hw2⟩ : ∃ w2, w1.alloc (.cells (Ww_.C zw) 29) = w2 := ⟨_, rfl⟩
  have hw2' : w1.alloc (.cells #[.int .i64 0, .int .i64 0, .slice none 0 0, .bool false] 29) = w2 := hw2
  have z1 : w1.heap.size = w.heap.size + 1 := by rw [← hw1]; simp
  have T2 := Lib.hid (Two.new hw1 hw2)
  have l2 := T2.out.bx.loadF
  clear hw2
  by_cases h1 : 2048 < d.size
  · have h1' : (2048 : Int) < (d.size : Int) := by omega
    have HE := Lib.hid (put_long (s := s) (id := id) h1)
    rw [HE.out]
    have t0 : (Ww_.StoreF ⟨w.heap.size + 1, 0, none⟩ (.agg #[.int .i64 0, .int .i64 0, .slice none 0 0, .bool false])).run Try.prog w2 = .ok () (w2.setRow (w.heap.size + 1) (Ww_.C zw)) := T2.out.rs.storeF zw
    have T0 := Lib.hid (T2.out.setY zw)
    clear hL hl hz HE h1
    go_enter Try.func17, Try.ntmps17
    go_wp2
    exact ret_wn3 Try.results17 rfl rfl rfl T0.out.rs rfl ⟨_, rfl, out_zst T0.out.bel⟩
  have h1' : ¬ (2048 : Int) < (d.size : Int) := by omega
  have CR := Lib.hid (wn_room_any x s w2 (hL.below T2.out.bel) hz)
  by_cases h2 : room s = 0
  · have HE := Lib.hid (put_full (id := id) h1 h2)
    rw [HE.out]
    rw [h2] at CR
    clear hL hl hz HE h1 h2
    go_enter Try.func17, Try.ntmps17
    go_wp2_with (go_at_call 22; refine CR.out.mono ?_; rintro e w3 ⟨rfl, hw3⟩; have T3 := Lib.hid (T2.out.below hw3); have t3 : (Ww_.StoreF ⟨w.heap.size + 1, 0, none⟩ (.agg #[.int .i64 0, .int .i64 0, .slice none 0 0, .bool false])).run Try.prog w3 = .ok () (w3.setRow (w.heap.size + 1) (Ww_.C zw)) := T3.out.rs.storeF zw; have T4 := Lib.hid (T3.out.setY zw); clear hw3)
    exact ret_wn3 Try.results17 rfl rfl rfl T4.out.rs rfl ⟨_, rfl, out_zst T4.out.bel⟩
  · have HE := Lib.hid (put_go (id := id) h1 h2)
    rw [HE.out]
    have h2' : (room s == 0) = false := by rw [beq_eq_false_iff_ne]; exact h2
    have HI := Lib.hid (info_parts Sn_.info)
    have CC := Lib.hid (fun W (hW : Below w.heap.size w W) => clone22_any x.sa s.l x.c W (hL.sl.below hW) hl)
    rw [← hL.n] at CC
    have CA := Lib.hid (fun w => add_any s.nx 1 w)
    have hnx := hL.nx
    have HL := Lib.hid hL
    have HLN := Lib.hid hl
    generalize hM : add s.nx 1 = M at *
    generalize room s = R at *
    clear hL hl hz HE h1 h2 hM
    go_enter Try.func17, Try.ntmps17
    go_wp2_with (first
      | (go_at_call 22; refine CR.out.mono ?_; rintro e w3 ⟨rfl, hw3⟩; have T3 := Lib.hid (T2.out.below hw3); have e3 := T3.out.bx.all; clear hw3)
      | (go_at_call 46; refine (CC.out _ T3.out.bel).mono ?_; rintro e w4 ⟨v', rfl, hown, hb4⟩; have T4 := Lib.hid (T3.out.below hb4); have HO := Lib.hid hown; have HB4 := Lib.hid hb4; have e4 := T4.out.bx.all; clear hown hb4)
      | (at_builtin; obtain ⟨i0, hi0, hz0, hz1, hz2⟩ := HI.out; refine wpList_append_own _ rfl _ _ 22 rfl w3.heap.size 76 i0 (.agg #[.int .i64 0, .int .i64 0, .int .i64 0, .bool false, .string ⟨#[]⟩]) 5 48 Try.underlying22 hi0 hz0 hz1 hz2 rfl (by decide) _ _ _ rfl (HO.out.alloc _) ⟨w4.heap.size, 0, none⟩ 1 1 (Sn_.cs ⟨id, s.nx, 0, false, d⟩) rfl rfl ?c1 (Sn_.flat_one _) ?c3 ?c4 ?c5 ?_))
    case c1 =>
      intro j x hj
      match j, hj with
      | 0, hj => simp [Sn_.cs] at hj; subst hj; simp [Addr.add]
      | 1, hj => simp [Sn_.cs] at hj; subst hj; simp [Addr.add]
      | 2, hj => simp [Sn_.cs] at hj; subst hj; simp [Addr.add]
      | 3, hj => simp [Sn_.cs] at hj; subst hj; simp [Addr.add]
      | 4, hj => simp [Sn_.cs] at hj; subst hj; simp [Addr.add]
    case c3 => have := HLN.out; unfold maxLen; omega
    case c4 => have := HLN.out; omega
    case c5 => have h := HB4.out.size; simp; omega
    intro v5 w5 hown5 hgrow hn'
    clear hi0 hz0 hz1 hz2
    obtain ⟨v0, c', rfl⟩ := Sn_.slice_form hown5
    obtain ⟨p, hp⟩ : ∃ p : Sn, p = ⟨id, s.nx, 0, false, d⟩ := ⟨_, rfl⟩
    have HPL : Hid ((s.l ++ [p]).length = s.l.length + 1) := List.length_append
    have hown6 : w5.ownsRow w3.heap.size 76 5 (.slice v0 (s.l ++ [p]).length c') (s.l ++ [p]).length (Sn_.flat (s.l ++ [p])) := by
      rw [Sn_.flat_snoc, HPL.out, hp]
      exact hown5
    have HS := Lib.hid (Sn_.sl_owns hown6)
    have HF := Lib.hid (Fr.own hown6)
    have B5 := Lib.hid ((HB4.out.alloc HB4.out.size _).grown hgrow (by simp; have := HB4.out.size; omega) (fun j hj => (HO.out.lt j hj).1))
    have T5 := Lib.hid (T3.out.below B5.out)
    have hz3 := T3.out.size
    have e5 := T5.out.bx.all
    have f5 := T5.out.bx.frozen
    have T6 := Lib.hid (T5.out.set2 v0 (s.l.length + 1) c')
    obtain ⟨w6, hw6⟩ : ∃ w6, w5.setCell ⟨w.heap.size, 2, none⟩ (.slice v0 (s.l.length + 1) c') = w6 := ⟨_, rfl⟩
    have HS6 := Lib.hid (sl_set22 (a := ⟨w.heap.size, 2, none⟩) (u := .slice v0 (s.l.length + 1) c') HS.out HF.out (by show w.heap.size < w3.heap.size; omega))
    rw [hw6] at T6 HS6
    have e6 := T6.out.bx.all
    have f6 := T6.out.bx.frozen
    have T7 := Lib.hid (T6.out.set0 M)
    obtain ⟨w7, hw7⟩ : ∃ w7, w6.setCell ⟨w.heap.size, 0, none⟩ (.int .i64 M) = w7 := ⟨_, rfl⟩
    have HS7 := Lib.hid (sl_set22 (a := ⟨w.heap.size, 0, none⟩) (u := .int .i64 M) HS6.out HF.out (by show w.heap.size < w3.heap.size; omega))
    rw [hw7] at T7 HS7
    have l7 := T7.out.bx.loadF
    have t7 := T7.out.rs.storeF ⟨M, x.sz, v0, s.l.length + 1, c', x.rq⟩
    have T8 := Lib.hid (T7.out.setY ⟨M, x.sz, v0, s.l.length + 1, c', x.rq⟩)
    have HS8 := Lib.hid (sl_row22 (r := w.heap.size + 1) (cs := Ww_.C ⟨M, x.sz, v0, s.l.length + 1, c', x.rq⟩) HS7.out HF.out (by omega))
    have HF8 := Lib.hid (HF.out.up (show w.heap.size ≤ w3.heap.size by omega))
    rw [hp] at HS8 HPL
    clear hown5 hown6 hgrow hn' hz3 e3 e4 hp
    go_wp2_with (go_at_call 45; refine (CA.out _).mono ?_; rintro e w' ⟨rfl, rfl⟩)
    exact ret_wn3 Try.results17 rfl rfl rfl T8.out.rs rfl ⟨_, rfl, ⟨rfl, HL.out.sz, HL.out.rq, HPL.out.symm, HS8.out⟩, T8.out.bel, HF8.out⟩
end Go.Proofs.Ytldeflpaghbmmaa
