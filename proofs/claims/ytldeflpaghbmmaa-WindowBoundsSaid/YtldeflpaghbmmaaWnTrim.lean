/-
  WALKS of package window: identifiers, trim, Confirm, Resize.
-/
import Derived.Test.YtldeflpaghbmmaaWnChange
import Derived.Deep.LoopGhost
namespace Go.Proofs.Ytldeflpaghbmmaa
open Go.RowKit Go.Wn Go.Sq Go.Wr
attribute [local go_sem ↓ high] Ww_.loadF Ww_.storeF Ww_.v_cells Ww_.v_match
attribute [local go_sem] Ww_.C0 Ww_.C1 Ww_.C2 Ww_.C3 Ww_.loadF_new Ww_.storeF_zero Oper.semAt_some

/-- Identifiers in a row of the call's own. -/
def OwnIs (w w' : World) (v : Value) (l : List Int) : Prop := w'.ownsRow w.heap.size 3 1 v l.length (Is_.vs l) ∧ Below w.heap.size w w'

set_option maxRecDepth 100000 in
set_option maxHeartbeats 4000000 in
theorem wn_ids_any (sa : Option Addr) (l : List Sn) (c : Nat) (w : World) (hS : Sn_.Sl w sa l c) (hl : l.length ≤ 1000) :
    Calls Try.prog 52 #[.slice sa l.length c] w fun e w' => ∃ v', e = .returned v' ∧ OwnIs w w' v' (ids l) := by
  have HI := Lib.hid (info_parts Is_.info)
  have HS := Lib.hid hS
  have HL := Lib.hid hl
  clear hS hl
  generalize hn : l.length = n at *
  have HN := Lib.hid hn
  clear hn
  go_enter Try.func52, Try.ntmps52
  go_wp2
  go_loopw [3, 8] (fun v z wr => ∃ i : Nat, z = .int .i64 i ∧ i ≤ n ∧ OwnIs w wr v (ids (l.take i))) (fun _ z _ => n - (intOf z).toNat)
  case atStart => exact ⟨0, rfl, Nat.zero_le _, World.ownsRow_nil _ _ _ _, Below.refl _ _⟩
  case round =>
    rename World => wr
    obtain ⟨i, rfl, hi, ho⟩ := hrel
    have HO := Lib.hid ho
    clear ho
    by_cases hlt : i < n
    · have hil : i < l.length := by have := HN.out; omega
      obtain ⟨b, off, hsa, hbl, k0, k1, k2, k3, k4⟩ := HS.out.lies i hil
      subst hsa
      have c0 := (HO.out.2.cell hbl).trans k0
      have c1 := (HO.out.2.cell hbl).trans k1
      have c2 := (HO.out.2.cell hbl).trans k2
      have c3 := (HO.out.2.cell hbl).trans k3
      have c4 := (HO.out.2.cell hbl).trans k4
      have HT : Hid (ids (l.take (i + 1)) = ids (l.take i) ++ [l[i].id]) := by
        show ids (l.take (i + 1)) = _
        unfold ids
        rw [List.take_succ_eq_append_getElem hil, List.map_append]; rfl
      have HLN : Hid ((ids (l.take i)).length ≤ 1000) := by
        show (ids (l.take i)).length ≤ 1000
        unfold ids
        have := HN.out; have := HL.out
        rw [List.length_map, List.length_take]; omega
      generalize l[i] = h at *
      generalize ids (l.take i) = L at *
      obtain ⟨w1, hw1⟩ : ∃ w1, wr.alloc (.cells #[.int .i64 h.id, .int .i64 h.q, .int .i64 h.tr, .bool h.dn, .string h.da] 76) = w1 := ⟨_, rfl⟩
      have X1 := (show Sn_.Box w1 wr.heap.size h from hw1 ▸ Sn_.Box.new wr h rfl)
      have lx := X1.load
      have e1 := X1.cells
      have b1 : Below wr.heap.size wr w1 := hw1 ▸ (Below.refl _ _).alloc (Nat.le_refl _) _
      have HB1 := Lib.hid (HO.out.2.trans (b1.mono HO.out.2.size))
      have HO1 := Lib.hid (owns_below22 HO.out.1 b1)
      have HM : Hid (L.length + 1 ≤ maxLen ∧ (L.length + 1) * 8 ≤ 140737488355328) := by
        have := HLN.out
        refine ⟨?_, by omega⟩
        unfold maxLen; omega
      have hi1 : i ≤ 1000 := by have := HL.out; omega
      clear k0 k1 k2 k3 k4 hbl hil b1
      go_wp2_with (at_builtin; obtain ⟨i0, hi0, hz0, hz1, hz2⟩ := HI.out; refine wpList_append_own _ rfl _ _ 48 rfl w.heap.size 3 i0 (.int .i64 0) 1 8 Try.underlying48 hi0 hz0 hz1 hz2 rfl (by decide) _ _ _ rfl (HO1.out.alloc _) ⟨w1.heap.size, 0, none⟩ 1 1 [.int .i64 h.id] rfl rfl ?c1 ?c2 HM.out.1 HM.out.2 ?c5 ?_)
      case c1 =>
        intro j x hj
        match j, hj with
        | 0, hj => simp at hj; subst hj; simp [Addr.add]
      case c2 => intro x hx; simp at hx; subst hx; rfl
      case c5 => have := HB1.out.size; simp; omega
      intro v4 w4 hown4 hgrow hn'
      clear hi0 hz0 hz1 hz2
      have R : Hid (OwnIs w w4 v4 (L ++ [h.id])) := by
        refine ⟨?_, ?_⟩
        · rw [Is_.vs_snoc, List.length_append]
          exact hown4
        · refine Below.grown (HB1.out.alloc HB1.out.size _) hgrow (by simp; have := HB1.out.size; omega) (fun j hj => ?_)
          exact (HO1.out.lt j hj).1
      have HLT := Lib.hid hlt
      clear hown4 hgrow hn'
      go_wp2
      go_roundw
      case rel => exact ⟨i + 1, by go_num, HLT.out, by rw [HT.out]; exact R.out⟩
      case measure => have := HLT.out; simp [intOf]; omega
    · obtain rfl : i = n := by omega
      rw [show l.take i = l by rw [← HN.out, List.take_length]] at HO
      go_wp2
      go_returns
      exact ⟨_, rfl, HO.out⟩

/-- What came in in its cell, the result's cell. -/
structure Two (w : World) (x y : Wn) (wi : World) : Prop where
  bx : Ww_.Box wi w.heap.size x
  rs : Ww_.Box wi (w.heap.size + 1) y
  bel : Below w.heap.size w wi
theorem Two.new {w w1 w2 : World} {x : Wn} (h1 : w.alloc (.cells (Ww_.C x) 29) = w1) (h2 : w1.alloc (.cells (Ww_.C zw) 29) = w2) : Two w x zw w2 := by
  subst h1 h2
  refine ⟨(Ww_.Box.new w x).allocC _, ?_, ((Below.refl _ _).alloc (Nat.le_refl _) _).alloc (by simp) _⟩
  have := Ww_.Box.new (w.alloc (.cells (Ww_.C x) 29)) zw
  rwa [show (w.alloc (.cells (Ww_.C x) 29)).heap.size = w.heap.size + 1 by simp] at this
theorem Two.size {w wi : World} {x y : Wn} (h : Two w x y wi) : w.heap.size + 2 ≤ wi.heap.size := h.rs.lt
theorem Two.below {w wi wj : World} {x y : Wn} (h : Two w x y wi) (hb : Below wi.heap.size wi wj) : Two w x y wj :=
  ⟨h.bx.below hb h.bx.lt, h.rs.below hb h.rs.lt, h.bel.trans (hb.mono h.bel.size)⟩
theorem Two.drew {w wi : World} {x y : Wn} (h : Two w x y wi) : Two w x y wi.drew := ⟨h.bx, h.rs, ⟨h.bel.os, h.bel.tape, h.bel.output, h.bel.size, h.bel.block⟩⟩
theorem Two.setY {w wi : World} {x y : Wn} (h : Two w x y wi) (y' : Wn) : Two w x y' (wi.setRow (w.heap.size + 1) (Ww_.C y')) :=
  ⟨(Ww_.setRow_other (by omega) _).trans h.bx, h.rs.setRow y', below_row22 h.bel (Nat.le_succ _) _⟩
theorem Two.set0 {w wi : World} {x y : Wn} (h : Two w x y wi) (u : Int) : Two w { x with nx := u } y (wi.setCell ⟨w.heap.size, 0, none⟩ (.int .i64 u)) :=
  ⟨h.bx.set0 u, h.rs.other (by show w.heap.size + 1 ≠ w.heap.size; omega) _, below_set22 h.bel (Nat.le_refl _) _⟩
theorem Two.set2 {w wi : World} {x y : Wn} (h : Two w x y wi) (sa : Option Addr) (n c : Nat) : Two w { x with sa := sa, n := n, c := c } y (wi.setCell ⟨w.heap.size, 2, none⟩ (.slice sa n c)) :=
  ⟨h.bx.set2 sa n c, h.rs.other (by show w.heap.size + 1 ≠ w.heap.size; omega) _, below_set22 h.bel (Nat.le_refl _) _⟩
theorem Two.set3 {w wi : World} {x y : Wn} (h : Two w x y wi) (u : Bool) : Two w { x with rq := u } y (wi.setCell ⟨w.heap.size, 3, none⟩ (.bool u)) :=
  ⟨h.bx.set3 u, h.rs.other (by show w.heap.size + 1 ≠ w.heap.size; omega) _, below_set22 h.bel (Nat.le_refl _) _⟩

/-- The block of a slice is that of another. -/
def Sib (a b : Option Addr) : Prop := ∀ bb off, a = some ⟨bb, off, none⟩ → ∃ off', b = some ⟨bb, off', none⟩
theorem trimL_done {L : List Sn} (h : 0 < L.length) (hd : L[0].dn = true) : trimL L = trimL (L.drop 1) := by
  cases L with
  | nil => cases h
  | cons x t => exact List.dropWhile_cons_of_pos hd
theorem trimL_open {L : List Sn} (h : 0 < L.length) (hd : L[0].dn = false) : trimL L = L := by
  cases L with
  | nil => cases h
  | cons x t => exact List.dropWhile_cons_of_neg (by rw [show x.dn = false from hd]; simp)
/-- Where trim stands. -/
structure Tr (w : World) (x : Wn) (s : St) (y : Wn) (L : List Sn) : Prop where
  nx : y.nx = s.nx
  sz : y.sz = s.sz
  rq : y.rq = s.rq
  n : y.n = L.length
  sl : Sn_.Sl w y.sa L y.c
  eq : trimL L = trimL s.l
  sib : Sib y.sa x.sa
theorem Tr.step {w : World} {x : Wn} {s : St} {y : Wn} {L : List Sn} (h : Tr w x s y L) (hl : 0 < L.length) (hd : L[0].dn = true) : Tr w x s { y with sa := cut22 y.sa 1 y.c, n := y.n - 1, c := y.c - 1 } (L.drop 1) := by
  refine ⟨h.nx, h.sz, h.rq, by rw [List.length_drop]; exact congrArg (· - 1) h.n, sl_drop22 h.sl 1 hl, (trimL_done hl hd).symm.trans h.eq, fun bb off e => ?_⟩
  obtain ⟨b, o, e2, -⟩ := h.sl.lies 0 hl
  have e : cut22 y.sa 1 y.c = some ⟨bb, off, none⟩ := e
  obtain ⟨o2, h2⟩ := h.sib b o e2
  unfold cut22 at e
  rw [e2, Option.map_some] at e
  by_cases hc : y.c = 1
  · rw [if_pos hc] at e
    cases e
    exact ⟨_, h2⟩
  · rw [if_neg hc, Addr.add_lit] at e
    cases e
    exact ⟨_, h2⟩
/-- What a function hands back: a state, its packets. -/
def StPost (s : St) (w : World) (e : Ending) (w' : World) : Prop := ∃ x', e = .returned (Ww_.v x') ∧ Lies w' x' s ∧ Below w.heap.size w w'

set_option maxRecDepth 100000 in
set_option maxHeartbeats 4000000 in
theorem wn_trim_any (x : Wn) (s : St) (w : World) (hL : Lies w x s) (hl : s.l.length ≤ 1000) :
    Calls Try.prog 55 #[Ww_.v x] w fun e w' => ∃ x', e = .returned (Ww_.v x') ∧ Lies w' x' { s with l := trimL s.l } ∧ Below w.heap.size w w' ∧ Sib x'.sa x.sa := by
  obtain ⟨w1, hw1⟩ : ∃ w1, w.alloc (.cells (Ww_.C x) 29) = w1 := ⟨_, rfl⟩
  obtain ⟨w2, hw2⟩ : ∃ w2, w1.alloc (.cells (Ww_.C zw) 29) = w2 := ⟨_, rfl⟩
  have hw2' : w1.alloc (.cells #[.int .i64 0, .int .i64 0, .slice none 0 0, .bool false] 29) = w2 := hw2
  have z1 : w1.heap.size = w.heap.size + 1 := by rw [← hw1]; simp
  have T2 := Lib.hid (Two.new hw1 hw2)
  have R0 := Lib.hid (show Tr w x s x s.l from ⟨hL.nx, hL.sz, hL.rq, hL.n, hL.sl, rfl, fun bb off e => ⟨off, e⟩⟩)
  have HLN := Lib.hid hl
  clear hL hl
  go_enter Try.func55, Try.ntmps55
  go_wp2
  clear hw1 hw2 hw2' z1
  go_loopg [] s.l.length (fun k wr => ∃ (y : Wn) (L : List Sn), L.length = k ∧ k ≤ 1000 ∧ Hid (Tr w x s y L) ∧ Hid (Two w y zw wr))
  case atStart => exact ⟨x, s.l, rfl, HLN.out, R0, T2⟩
  case round =>
    obtain ⟨y, L, hLk, hk, HR, HT⟩ := hrel
    have e1 := HT.out.bx.all
    have f1 := HT.out.bx.frozen
    by_cases h0 : L.length = 0
    · have hn : y.n = 0 := HR.out.n.trans h0
      have HF := Lib.hid (show trimL s.l = L by rw [← HR.out.eq, List.eq_nil_of_length_eq_zero h0]; rfl)
      have l1 := HT.out.bx.loadF
      have t1 := HT.out.rs.storeF y
      have X2 := Lib.hid (HT.out.setY y)
      clear hLk hk h0
      go_wp2
      refine ret_wn1 Try.results55 rfl X2.out.rs rfl ⟨y, rfl, ?_, X2.out.bel, HR.out.sib⟩
      rw [HF.out]
      exact ⟨HR.out.nx, HR.out.sz, HR.out.rq, HR.out.n, HR.out.sl.below X2.out.bel⟩
    · have hl0 : 0 < L.length := by omega
      obtain ⟨b, off, hsa, hbl, -, -, -, k3, -⟩ := HR.out.sl.lies 0 hl0
      have c3 := (HT.out.bel.cell hbl).trans k3
      rw [Nat.zero_mul, Nat.add_zero] at c3
      have hn : 0 < y.n := by rw [HR.out.n]; exact hl0
      have hn2 : (0 : Int) < (y.n : Int) := by omega
      have hn3 : ¬ (y.n = 0) := by omega
      have hle : y.n ≤ y.c := by rw [HR.out.n]; exact HR.out.sl.le
      cases hd : L[0].dn
      · rw [hd] at c3
        have HF := Lib.hid (show trimL s.l = L by rw [← HR.out.eq]; exact trimL_open hl0 hd)
        have l1 := HT.out.bx.loadF
        have t1 := HT.out.rs.storeF y
        have X2 := Lib.hid (HT.out.setY y)
        clear hLk hk h0 k3 hbl hl0 hd
        go_wp2
        refine ret_wn1 Try.results55 rfl X2.out.rs rfl ⟨y, rfl, ?_, X2.out.bel, HR.out.sib⟩
        rw [HF.out]
        exact ⟨HR.out.nx, HR.out.sz, HR.out.rq, HR.out.n, HR.out.sl.below X2.out.bel⟩
      · rw [hd] at c3
        have HR2 := Lib.hid (HR.out.step hl0 hd)
        have HT2 := Lib.hid (HT.out.set2 (cut22 y.sa 1 y.c) (y.n - 1) (y.c - 1))
        have hLd : Hid ((L.drop 1).length < gk ∧ (L.drop 1).length ≤ 1000) := by
          show _ ∧ _
          rw [List.length_drop]; omega
        by_cases hc : y.c = 1
        · have hcu : cut22 y.sa 1 y.c = some ⟨b, off, none⟩ := by
            unfold cut22
            rw [hsa, Option.map_some, if_pos hc]
          have hn1 : y.n = 1 := by omega
          rw [hcu] at HR2 HT2
          simp only [hc, hn1, Nat.sub_self] at HR2 HT2
          clear hn hn2 hn3 hle
          clear hLk hk h0 k3 hbl hl0 hd hcu
          go_wp2
          go_roundg ((L.drop 1).length)
          case measure => exact hLd.out.1
          case rel => exact ⟨_, L.drop 1, rfl, hLd.out.2, HR2, HT2⟩
        · have hcu : cut22 y.sa 1 y.c = some ⟨b, off + 5, none⟩ := by
            unfold cut22
            rw [hsa, Option.map_some, if_neg hc, Addr.add_lit]
          rw [hcu] at HR2 HT2
          have hc2 : 1 < y.c := by omega
          clear hLk hk h0 k3 hbl hl0 hd hcu
          go_wp2
          go_roundg ((L.drop 1).length)
          case measure => exact hLd.out.1
          case rel => exact ⟨_, L.drop 1, rfl, hLd.out.2, HR2, HT2⟩
end Go.Proofs.Ytldeflpaghbmmaa
