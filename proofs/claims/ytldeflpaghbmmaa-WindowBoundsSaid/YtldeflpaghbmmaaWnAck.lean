/-
  WALKS of package window: Acked.
-/
import Derived.Test.YtldeflpaghbmmaaWnFns2
namespace Go.Proofs.Ytldeflpaghbmmaa
open Go.RowKit Go.Wn Go.Sq Go.Wr
attribute [local go_sem ↓ high] Ww_.loadF Ww_.storeF Ww_.v_cells Ww_.v_match
attribute [local go_sem] Ww_.C0 Ww_.C1 Ww_.C2 Ww_.C3 Ww_.loadF_new Ww_.storeF_zero Oper.semAt_some

/-- What came in in its cell, the result's cell, some cells further on. -/
structure TwoR (k : Nat) (w : World) (x y : Wn) (wi : World) : Prop where
  pos : 0 < k
  bx : Ww_.Box wi w.heap.size x
  rs : Ww_.Box wi (w.heap.size + k) y
  bel : Below w.heap.size w wi
theorem TwoR.below {k : Nat} {w wi wj : World} {x y : Wn} (h : TwoR k w x y wi) (hb : Below wi.heap.size wi wj) : TwoR k w x y wj :=
  ⟨h.pos, h.bx.below hb h.bx.lt, h.rs.below hb h.rs.lt, h.bel.trans (hb.mono h.bel.size)⟩
theorem TwoR.size {k : Nat} {w wi : World} {x y : Wn} (h : TwoR k w x y wi) : w.heap.size + k < wi.heap.size := h.rs.lt
theorem TwoR.setY {k : Nat} {w wi : World} {x y : Wn} (h : TwoR k w x y wi) (y' : Wn) : TwoR k w x y' (wi.setRow (w.heap.size + k) (Ww_.C y')) :=
  ⟨h.pos, (Ww_.setRow_other (by have := h.pos; omega) _).trans h.bx, h.rs.setRow y', below_row22 h.bel (Nat.le_add_right _ _) _⟩
theorem TwoR.set2 {k : Nat} {w wi : World} {x y : Wn} (h : TwoR k w x y wi) (sa : Option Addr) (n c : Nat) : TwoR k w { x with sa := sa, n := n, c := c } y (wi.setCell ⟨w.heap.size, 2, none⟩ (.slice sa n c)) :=
  ⟨h.pos, h.bx.set2 sa n c, h.rs.other (by have := h.pos; show w.heap.size + k ≠ w.heap.size; omega) _, below_set22 h.bel (Nat.le_refl _) _⟩
theorem TwoR.set3 {k : Nat} {w wi : World} {x y : Wn} (h : TwoR k w x y wi) (u : Bool) : TwoR k w { x with rq := u } y (wi.setCell ⟨w.heap.size, 3, none⟩ (.bool u)) :=
  ⟨h.pos, h.bx.set3 u, h.rs.other (by have := h.pos; show w.heap.size + k ≠ w.heap.size; omega) _, below_set22 h.bel (Nat.le_refl _) _⟩
theorem is_row22 {w : World} {sa : Option Addr} {l : List Int} {c r B : Nat} {cs : Array Value} (h : Is_.Sl w sa l c) (hf : Fr B sa) (hr : r < B) : Is_.Sl (w.setRow r cs) sa l c :=
  ⟨h.lies.block (by simp [World.setRow]) (fun bb off e => Ww_.setRow_other (by have := hf bb off e; omega) _), h.le, h.nil⟩
theorem is_set22 {w : World} {sa : Option Addr} {l : List Int} {c B : Nat} {a : Addr} {u : Value} (h : Is_.Sl w sa l c) (hf : Fr B sa) (hr : a.block < B) : Is_.Sl (w.setCell a u) sa l c :=
  ⟨h.lies.block (by simp [World.setCell]) (fun bb off e => Below.heap_setCell _ _ _ _ (by have := hf bb off e; omega)), h.le, h.nil⟩

theorem cell_new22 (w : World) (u : Value) (t : TypeId) : (w.alloc (.cells #[u] t)).cell? ⟨w.heap.size, 0, none⟩ = some u := by
  have h : (w.alloc (.cells #[u] t)).heap[w.heap.size]? = some (.cells #[u] t (0, 0)) := by
    show (w.heap.push _)[w.heap.size]? = _
    rw [Array.getElem?_push, if_pos rfl]
  exact cell_of_row _ _ 0 #[u] _ _ h

/-- A state and identifiers handed back. -/
def StIds (p : St × List Int) (w : World) (e : Ending) (w' : World) : Prop :=
  ∃ x' sa c, e = .returned (.tuple #[Ww_.v x', .slice sa p.2.length c]) ∧ Out p.1 w x' w' ∧ Is_.Sl w' sa p.2 c ∧ Fr w.heap.size sa

set_option maxRecDepth 100000 in
set_option maxHeartbeats 4000000 in
theorem wn_acked_any (x : Wn) (s : St) (st : Int) (m : Nat) (hm : m < 18446744073709551616) (w : World) (hL : Lies w x s) (hl : s.l.length ≤ 1000) :
    Calls Try.prog 27 #[Ww_.v x, .int .i64 st, .int .u64 m] w fun e w' => StIds (acked s st m) w e w' := by
  obtain ⟨w1, hw1⟩ : ∃ w1, w.alloc (.cells (Ww_.C x) 29) = w1 := ⟨_, rfl⟩
  have z1 : w1.heap.size = w.heap.size + 1 := by rw [← hw1]; simp
  obtain ⟨w2, hw2⟩ : ∃ w2, w1.alloc (.cells #[.int .i64 st] 3) = w2 := ⟨_, rfl⟩
  have z2 : w2.heap.size = w.heap.size + 2 := by rw [← hw2]; simp [z1]
  obtain ⟨w3, hw3⟩ : ∃ w3, w2.alloc (.cells #[.int .u64 m] 47) = w3 := ⟨_, rfl⟩
  have z3 : w3.heap.size = w.heap.size + 3 := by rw [← hw3]; simp [z2]
  obtain ⟨w4, hw4⟩ : ∃ w4, w3.alloc (.cells (Ww_.C zw) 29) = w4 := ⟨_, rfl⟩
  have hw4' : w3.alloc (.cells #[.int .i64 0, .int .i64 0, .slice none 0 0, .bool false] 29) = w4 := hw4
  have T4 : Hid (TwoR 3 w x zw w4) := by
    subst hw1 hw2 hw3 hw4
    refine ⟨by decide, (((Ww_.Box.new w x).allocC _).allocC _).allocC _, ?_, ?_⟩
    · rw [← z3]; exact Ww_.Box.new _ _
    · exact (((((Below.refl _ _).alloc (Nat.le_refl _) _).alloc (by simp) _).alloc (by simp; omega) _).alloc (by simp; omega) _)
  have S4 : Hid (Sa (w.heap.size + 2) (w.heap.size + 1) m st w4) := by
    have c2 : w2.cell? ⟨w.heap.size + 1, 0, none⟩ = some (.int .i64 st) := by subst hw2; rw [← z1]; exact cell_new22 _ _ _
    have c3 : w3.cell? ⟨w.heap.size + 2, 0, none⟩ = some (.int .u64 (m : Int)) := by subst hw3; rw [← z2]; exact cell_new22 _ _ _
    have b3 : Below w3.heap.size w3 w4 := hw4 ▸ (Below.refl _ _).alloc (Nat.le_refl _) _
    have b2 : Below w2.heap.size w2 w3 := hw3 ▸ (Below.refl _ _).alloc (Nat.le_refl _) _
    have b24 := b2.trans (b3.mono b2.size)
    have h4 := T4.out.size
    exact ⟨(b3.cell (by show w.heap.size + 2 < w3.heap.size; omega)).trans c3, (b24.cell (by show w.heap.size + 1 < w2.heap.size; omega)).trans c2, by omega, by omega⟩
  have e4 := T4.out.bx.all
  have CF := Lib.hid (wn_filter_any (Sa (w.heap.size + 2) (w.heap.size + 1) m st) 50 #[.pointer (some ⟨w.heap.size + 2, 0, none⟩), .pointer (some ⟨w.heap.size + 1, 0, none⟩)] (ak st m) (acked_tells _ _ m st hm) x.sa s.l x.c w4 (fun W hW => S4.out.keep _ _ hW) (hL.sl.below T4.out.bel) hl)
  rw [← hL.n] at CF
  have hlf : (s.l.filter (ak st m)).length ≤ 1000 := Nat.le_trans (List.length_filter_le _ _) hl
  have HLF := Lib.hid hlf
  have CI := Lib.hid (fun (sa : Option Addr) (c : Nat) W (h : Sn_.Sl W sa (s.l.filter (ak st m)) c) => wn_ids_any sa _ c W h HLF.out)
  have CC := Lib.hid (fun W (hW : Below w4.heap.size w4 W) => wn_change_any (Sa (w.heap.size + 2) (w.heap.size + 1) m st) 50 #[.pointer (some ⟨w.heap.size + 2, 0, none⟩), .pointer (some ⟨w.heap.size + 1, 0, none⟩)] (ak st m) (acked_tells _ _ m st hm) (fun _ => True) 54 mk wn_mark_does x.sa s.l x.c W (fun W2 hW2 => S4.out.keep _ _ (hW.trans (hW2.mono hW.size))) (hL.sl.below (T4.out.bel.trans (hW.mono T4.out.bel.size))) hl (fun _ _ => trivial))
  rw [← hL.n] at CC
  have hlc : (chg (ak st m) mk s.l).length = s.l.length := by unfold chg; rw [List.length_map]
  have CT := Lib.hid (fun (y : Wn) W (h : Lies W y { s with l := chg (ak st m) mk s.l }) => wn_trim_any y _ W h (by show (chg (ak st m) mk s.l).length ≤ 1000; rw [hlc]; exact hl))
  have HL := Lib.hid hL
  have HE : Hid (acked s st m = ({ s with l := trimL (chg (ak st m) mk s.l) }, ids (s.l.filter (ak st m)))) := rfl
  rw [HE.out]
  clear hL hl hlf hlc hm HE hw4
  generalize chg (ak st m) mk s.l = LC at *
  generalize s.l.filter (ak st m) = LF at *
  go_enter Try.func27, Try.ntmps27
  go_wp2_with fail
  refine CF.out.mono ?_
  rintro e w5 ⟨v5, rfl, ho5, hb5⟩
  obtain ⟨sa5, c5, rfl⟩ := Sn_.slice_form ho5
  have B5 := Lib.hid hb5
  have T5 := Lib.hid (T4.out.below hb5)
  have CI5 := Lib.hid (CI.out sa5 c5 w5 (Sn_.sl_owns ho5))
  clear ho5 hb5 CI CF
  go_wp2_with fail
  refine CI5.out.mono ?_
  rintro e w6 ⟨v6, rfl, ho6, hb6⟩
  obtain ⟨sa6, c6, rfl⟩ := Is_.slice_form ho6
  have B6 := Lib.hid (B5.out.trans (hb6.mono B5.out.size))
  have T6 := Lib.hid (T5.out.below hb6)
  have I6 := Lib.hid (Is_.sl_owns ho6)
  have F6 := Lib.hid (Fr.own ho6)
  have e6 := T6.out.bx.all
  clear ho6 hb6 CI5
  go_wp2_with fail
  refine (CC.out w6 B6.out).mono ?_
  rintro e w7 ⟨v7, rfl, ho7, hb7⟩
  obtain ⟨sa7, c7, rfl⟩ := Sn_.slice_form ho7
  have T7 := Lib.hid (T6.out.below hb7)
  have I7 := Lib.hid (I6.out.below hb7)
  have S7 := Lib.hid (Sn_.sl_owns ho7)
  have F7 := Lib.hid (Fr.own ho7)
  have e7 := T7.out.bx.all
  have f7 := T7.out.bx.frozen
  have T8 := Lib.hid (T7.out.set2 sa7 LC.length c7)
  obtain ⟨w8, hw8⟩ : ∃ w8, w7.setCell ⟨w.heap.size, 2, none⟩ (.slice sa7 LC.length c7) = w8 := ⟨_, rfl⟩
  have z5 := T5.out.size
  have z6 := T6.out.size
  have S8 := Lib.hid (sl_set22 (a := ⟨w.heap.size, 2, none⟩) (u := .slice sa7 LC.length c7) S7.out F7.out (by show w.heap.size < w6.heap.size; omega))
  have I8 := Lib.hid (is_set22 (a := ⟨w.heap.size, 2, none⟩) (u := .slice sa7 LC.length c7) I7.out F6.out (by show w.heap.size < w5.heap.size; omega))
  rw [hw8] at T8 S8 I8
  have l8 := T8.out.bx.loadF
  have e8 := T8.out.bx.all
  have CT8 := Lib.hid (CT.out ⟨x.nx, x.sz, sa7, LC.length, c7, x.rq⟩ w8 ⟨HL.out.nx, HL.out.sz, HL.out.rq, rfl, S8.out⟩)
  clear ho7 hb7 CC CT
  go_wp2_with fail
  refine CT8.out.mono ?_
  rintro e w9 ⟨x9, rfl, hl9, hb9, hs9⟩
  have T9 := Lib.hid (T8.out.below hb9)
  have I9 := Lib.hid (I8.out.below hb9)
  have L9 := Lib.hid hl9
  have F9 := Lib.hid (F7.out.sib hs9)
  have t9 := T9.out.rs.storeF x9
  have T10 := Lib.hid (T9.out.setY x9)
  have I10 := Lib.hid (is_row22 (r := w.heap.size + 3) (cs := Ww_.C x9) I9.out F6.out (by omega))
  have S10 := Lib.hid (sl_row22 (r := w.heap.size + 3) (cs := Ww_.C x9) L9.out.sl F9.out (by omega))
  have FF := Lib.hid (And.intro (F6.out.up (show w.heap.size ≤ w5.heap.size by omega)) (F9.out.up (show w.heap.size ≤ w6.heap.size by omega)))
  clear hl9 hb9 hs9 CT8 z5 z6
  go_wp2
  exact ret_wn2 Try.results27 rfl rfl T10.out.rs rfl ⟨x9, sa6, c6, rfl, ⟨⟨L9.out.nx, L9.out.sz, L9.out.rq, L9.out.n, S10.out⟩, T10.out.bel, FF.out.2⟩, I10.out, FF.out.1⟩
end Go.Proofs.Ytldeflpaghbmmaa
