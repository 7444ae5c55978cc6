/-
  WALKS of package window: Reset.
-/
import Derived.Test.YtldeflpaghbmmaaWnFns2
import Derived.Test.YtldeflpaghbmmaaWnAck
import Derived.Deep.RegionWith
import Derived.BigRegion
namespace Go.Proofs.Ytldeflpaghbmmaa
open Go.RowKit Go.Wn Go.Sq Go.Wr
attribute [local go_sem ↓ high] Ww_.loadF Ww_.storeF Ww_.v_cells Ww_.v_match
attribute [local go_sem] Ww_.C0 Ww_.C1 Ww_.C2 Ww_.C3 Ww_.loadF_new Ww_.storeF_zero Oper.semAt_some

set_option maxRecDepth 100000 in
set_option maxHeartbeats 8000000 in
theorem wn_reset_any (x : Wn) (s : St) (w : World) (hL : Lies w x s) (hl : s.l.length ≤ 1000) :
    Calls Try.prog 34 #[Ww_.v x] w fun e w' => StIds (reset s) w e w' := by
  obtain ⟨w1, hw1⟩ : ∃ w1, w.alloc (.cells (Ww_.C x) 29) = w1 := ⟨_, rfl⟩
  obtain ⟨w2, hw2⟩ : ∃ w2, w1.alloc (.cells (Ww_.C zw) 29) = w2 := ⟨_, rfl⟩
  have hw2' : w1.alloc (.cells #[.int .i64 0, .int .i64 0, .slice none 0 0, .bool false] 29) = w2 := hw2
  have z1 : w1.heap.size = w.heap.size + 1 := by rw [← hw1]; simp
  have T2 := Lib.hid (Two.new hw1 hw2).drew
  have e2 := T2.out.bx.all
  have sl2 := hL.sl.below T2.out.bel
  have HE : Hid (reset s = (⟨s.nx, 0, [], false⟩, ids (s.l.filter isOp))) := rfl
  have hlf : (s.l.filter isOp).length ≤ 1000 := Nat.le_trans (List.length_filter_le _ _) hl
  have CF := Lib.hid (fun W (hW : Below w.heap.size w W) => wn_filter_any (fun _ => True) 49 #[] isOp (open_tells _) x.sa s.l x.c W (fun _ _ => trivial) (hL.sl.below hW) hl)
  rw [← hL.n] at CF
  have CI := Lib.hid (fun (sa : Option Addr) (c : Nat) W (h : Sn_.Sl W sa (s.l.filter isOp) c) => wn_ids_any sa _ c W h hlf)
  have hnx := hL.nx
  have HNX := Lib.hid hnx
  have HSN := Lib.hid (fun W => Sn_.Sl.none W)
  have ty2 : (Ww_.StoreF ⟨w.heap.size + 1, 0, none⟩ (.agg #[.int .i64 x.nx, .int .i64 0, .slice none 0 0, .bool false])).run Try.prog w2.drew = .ok () (w2.drew.setRow (w.heap.size + 1) (Ww_.C ⟨x.nx, 0, none, 0, 0, false⟩)) := T2.out.rs.storeF ⟨x.nx, 0, none, 0, 0, false⟩
  have TY := Lib.hid (T2.out.setY ⟨x.nx, 0, none, 0, 0, false⟩)
  have eY := TY.out.bx.all
  clear hL hl hw2 hnx sl2
  generalize s.l.filter isOp = LF at *
  go_enter Try.func34, Try.ntmps34
  go_wp2_with fail
  go_region_with (first
    | (go_at_call 48; first
        | (refine (CF.out w2.drew T2.out.bel).mono ?_; rintro e w3 ⟨v3, rfl, ho3, hb3⟩; obtain ⟨sa3, c3, rfl⟩ := Sn_.slice_form ho3; have T3 := Lib.hid (T2.out.below hb3); have S3 := Lib.hid (Sn_.sl_owns ho3); have F3 := Lib.hid (Fr.own ho3); have e3 := T3.out.bx.all; have t3 : (Ww_.StoreF ⟨w.heap.size + 1, 0, none⟩ (.agg #[.int .i64 x.nx, .int .i64 0, .slice none 0 0, .bool false])).run Try.prog w3 = .ok () (w3.setRow (w.heap.size + 1) (Ww_.C ⟨x.nx, 0, none, 0, 0, false⟩)) := T3.out.rs.storeF ⟨x.nx, 0, none, 0, 0, false⟩; have TY3 := Lib.hid (T3.out.setY ⟨x.nx, 0, none, 0, 0, false⟩); have eY3 := TY3.out.bx.all; have hz3 := T2.out.size; have S3Y := Lib.hid (sl_row22 (r := w.heap.size + 1) (cs := Ww_.C ⟨x.nx, 0, none, 0, 0, false⟩) S3.out F3.out (by show w.heap.size + 1 < w2.drew.heap.size; omega)); clear ho3 hb3 hz3)
        | (refine (CF.out _ TY.out.bel).mono ?_; rintro e w3 ⟨v3, rfl, ho3, hb3⟩; obtain ⟨sa3, c3, rfl⟩ := Sn_.slice_form ho3; have TY3 := Lib.hid (TY.out.below hb3); have S3Y := Lib.hid (Sn_.sl_owns ho3); have eY3 := TY3.out.bx.all; clear ho3 hb3))
    | (go_at_call 52; first
        | (refine (CI.out sa3 c3 w3 S3.out).mono ?_; rintro e w4 ⟨v4, rfl, ho4, hb4⟩; obtain ⟨sa4, c4, rfl⟩ := Is_.slice_form ho4; have T4 := Lib.hid (T3.out.below hb4); have I4 := Lib.hid (Is_.sl_owns ho4); have F4 := Lib.hid ((Fr.own ho4).up (show w.heap.size + 2 ≤ w3.heap.size from T3.out.size)); have e4 := T4.out.bx.all; have t4 : (Ww_.StoreF ⟨w.heap.size + 1, 0, none⟩ (.agg #[.int .i64 x.nx, .int .i64 0, .slice none 0 0, .bool false])).run Try.prog w4 = .ok () (w4.setRow (w.heap.size + 1) (Ww_.C ⟨x.nx, 0, none, 0, 0, false⟩)) := T4.out.rs.storeF ⟨x.nx, 0, none, 0, 0, false⟩; have TZ := Lib.hid (T4.out.setY ⟨x.nx, 0, none, 0, 0, false⟩); have IZ := Lib.hid (is_row22 (r := w.heap.size + 1) (cs := Ww_.C ⟨x.nx, 0, none, 0, 0, false⟩) I4.out F4.out (by omega)); clear ho4 hb4)
        | (refine (CI.out sa3 c3 _ S3Y.out).mono ?_; rintro e w4 ⟨v4, rfl, ho4, hb4⟩; obtain ⟨sa4, c4, rfl⟩ := Is_.slice_form ho4; have TZ := Lib.hid (TY3.out.below hb4); have IZ := Lib.hid (Is_.sl_owns ho4); have F4 := Lib.hid ((Fr.own ho4).up TY3.out.size); clear ho4 hb4)))
  all_goals
    go_wp2
    refine ret_wn2 Try.results34 rfl rfl TZ.out.rs rfl ?_
    rw [HE.out]
    exact ⟨⟨x.nx, 0, none, 0, 0, false⟩, sa4, c4, rfl, ⟨⟨HNX.out, rfl, rfl, rfl, HSN.out _⟩, TZ.out.bel, Fr.none _⟩, IZ.out, F4.out.up (by omega)⟩
end Go.Proofs.Ytldeflpaghbmmaa
