/-
  WALKS of package window: Missed.
-/
import Derived.Test.YtldeflpaghbmmaaWnAck
namespace Go.Proofs.Ytldeflpaghbmmaa
open Go.RowKit Go.Wn Go.Sq Go.Wr
attribute [local go_sem ↓ high] Ww_.loadF Ww_.storeF Ww_.v_cells Ww_.v_match
attribute [local go_sem] Ww_.C0 Ww_.C1 Ww_.C2 Ww_.C3 Ww_.loadF_new Ww_.storeF_zero Oper.semAt_some

theorem run_store_func22 {P : Program} {w : World} {a : Addr} {m : Mode} (f : Fn) (x y : Array Value) : (store a (.func f x y) m).run P w = stored P w a (.func f x y) m := run_store P w a _ m rfl
attribute [local go_sem] run_store_func22
theorem one22 (W : World) (b : Nat) (u0 u : Value) (t : TypeId) (h : W.heap[b]? = some (.cells #[u0] t (0, 0))) : W.frozen? ⟨b, 0, none⟩ = false ∧ (W.setCell ⟨b, 0, none⟩ u).cell? ⟨b, 0, none⟩ = some u := by
  refine ⟨by simp [World.frozen?, h], ?_⟩
  have h2 : (W.setCell ⟨b, 0, none⟩ u).heap[b]? = some (.cells #[u] t (0, 0)) := by simp [World.setCell, Array.getElem?_modify, h]
  exact cell_of_row _ _ 0 #[u] _ _ h2
/-- A cell that is made and written. -/
theorem made22 (w : World) (u0 u : Value) (t : TypeId) {b : Nat} (hb : b = w.heap.size) : ((w.alloc (.cells #[u0] t)).cell? ⟨b, 0, none⟩ = some u0 ∧ (w.alloc (.cells #[u0] t)).frozen? ⟨b, 0, none⟩ = false) ∧
    ((w.alloc (.cells #[u0] t)).setCell ⟨b, 0, none⟩ u).cell? ⟨b, 0, none⟩ = some u ∧ Below w.heap.size w ((w.alloc (.cells #[u0] t)).setCell ⟨b, 0, none⟩ u) ∧ ((w.alloc (.cells #[u0] t)).setCell ⟨b, 0, none⟩ u).heap.size = w.heap.size + 1 := by
  subst hb
  have h : (w.alloc (.cells #[u0] t)).heap[w.heap.size]? = some (.cells #[u0] t (0, 0)) := by
    show (w.heap.push _)[w.heap.size]? = _
    rw [Array.getElem?_push, if_pos rfl]
  refine ⟨⟨cell_of_row _ _ 0 #[u0] _ _ h, (one22 _ _ u0 u t h).1⟩, (one22 _ _ u0 u t h).2, ((Below.refl _ _).alloc (Nat.le_refl _) _).setCell (Nat.le_refl _) _, ?_⟩
  · simp [World.setCell]

set_option maxRecDepth 100000 in
set_option maxHeartbeats 4000000 in
theorem wn_missed_any (x : Wn) (s : St) (sq : Option Addr) (seqs : List Int) (cq : Nat) (lim : Int) (w : World) (hL : Lies w x s) (hl : s.l.length ≤ 1000) (hQ : Is_.Sl w sq seqs cq) (hq : seqs.length ≤ 1000) (ht : ∀ p ∈ s.l, 0 ≤ p.tr) :
    Calls Try.prog 29 #[Ww_.v x, .slice sq seqs.length cq, .int .i64 lim] w fun e w' => StIds (missed s seqs lim) w e w' := by
  obtain ⟨w1, hw1⟩ : ∃ w1, w.alloc (.cells (Ww_.C x) 29) = w1 := ⟨_, rfl⟩
  have z1 : w1.heap.size = w.heap.size + 1 := by rw [← hw1]; simp
  obtain ⟨w2, hw2⟩ : ∃ w2, w1.alloc (.cells #[.slice sq seqs.length cq] 48) = w2 := ⟨_, rfl⟩
  have z2 : w2.heap.size = w.heap.size + 2 := by rw [← hw2]; simp [z1]
  obtain ⟨w3, hw3⟩ : ∃ w3, w2.alloc (.cells #[.int .i64 lim] 3) = w3 := ⟨_, rfl⟩
  have z3 : w3.heap.size = w.heap.size + 3 := by rw [← hw3]; simp [z2]
  obtain ⟨w4, hw4⟩ : ∃ w4, w3.alloc (.cells (Ww_.C zw) 29) = w4 := ⟨_, rfl⟩
  have hw4' : w3.alloc (.cells #[.int .i64 0, .int .i64 0, .slice none 0 0, .bool false] 29) = w4 := hw4
  have z4 : w4.heap.size = w.heap.size + 4 := by rw [← hw4]; simp [z3]
  have T4 : Hid (TwoR 3 w x zw w4) := by
    subst hw1 hw2 hw3 hw4
    refine ⟨by decide, (((Ww_.Box.new w x).allocC _).allocC _).allocC _, ?_, ?_⟩
    · rw [← z3]; exact Ww_.Box.new _ _
    · exact (((((Below.refl _ _).alloc (Nat.le_refl _) _).alloc (by simp) _).alloc (by simp; omega) _).alloc (by simp; omega) _)
  have HS4 : Hid (S1 (w.heap.size + 1) sq seqs cq w4 ∧ w4.cell? ⟨w.heap.size + 2, 0, none⟩ = some (.int .i64 lim)) := by
    have c2 : w2.cell? ⟨w.heap.size + 1, 0, none⟩ = some (.slice sq seqs.length cq) := by subst hw2; rw [← z1]; exact cell_new22 _ _ _
    have c3 : w3.cell? ⟨w.heap.size + 2, 0, none⟩ = some (.int .i64 lim) := by subst hw3; rw [← z2]; exact cell_new22 _ _ _
    have b3 : Below w3.heap.size w3 w4 := hw4 ▸ (Below.refl _ _).alloc (Nat.le_refl _) _
    have b2 : Below w2.heap.size w2 w3 := hw3 ▸ (Below.refl _ _).alloc (Nat.le_refl _) _
    have b24 := b2.trans (b3.mono b2.size)
    exact ⟨⟨(b24.cell (by show w.heap.size + 1 < w2.heap.size; omega)).trans c2, by omega, hQ.below T4.out.bel⟩, (b3.cell (by show w.heap.size + 2 < w3.heap.size; omega)).trans c3⟩
  obtain ⟨w5, hw5⟩ : ∃ w5, w4.alloc (.cells #[.nilFunc] 82) = w5 := ⟨_, rfl⟩
  obtain ⟨⟨c5, f5⟩, m6, b6, z6⟩ := made22 w4 .nilFunc (.func (.func 58) #[] #[.pointer (some ⟨w.heap.size + 1, 0, none⟩)]) 82 z4.symm
  rw [hw5] at c5 f5 m6 b6 z6
  obtain ⟨w6, hw6⟩ : ∃ w6, w5.setCell ⟨w.heap.size + 4, 0, none⟩ (.func (.func 58) #[] #[.pointer (some ⟨w.heap.size + 1, 0, none⟩)]) = w6 := ⟨_, rfl⟩
  rw [hw6] at m6 b6 z6
  have zz6 : w6.heap.size = w.heap.size + 5 := by omega
  obtain ⟨w7, hw7⟩ : ∃ w7, w6.alloc (.cells #[.nilFunc] 82) = w7 := ⟨_, rfl⟩
  obtain ⟨⟨c7, f7⟩, m8, b8, z8⟩ := made22 w6 .nilFunc (.func (.func 61) #[] #[.pointer (some ⟨w.heap.size + 4, 0, none⟩), .pointer (some ⟨w.heap.size + 2, 0, none⟩)]) 82 zz6.symm
  rw [hw7] at c7 f7 m8 b8 z8
  obtain ⟨w8, hw8⟩ : ∃ w8, w7.setCell ⟨w.heap.size + 5, 0, none⟩ (.func (.func 61) #[] #[.pointer (some ⟨w.heap.size + 4, 0, none⟩), .pointer (some ⟨w.heap.size + 2, 0, none⟩)]) = w8 := ⟨_, rfl⟩
  rw [hw8] at m8 b8 z8
  have hS3 : S3 (w.heap.size + 1) (w.heap.size + 4) (w.heap.size + 2) (w.heap.size + 5) sq seqs cq lim w8 := by
    have b48 := b6.trans (b8.mono b6.size)
    have k4 : w.heap.size + 2 < w4.heap.size := by omega
    exact ⟨⟨HS4.out.1.keep _ _ b48, (b8.cell (by show w.heap.size + 4 < w6.heap.size; omega)).trans m6, by omega, (b48.cell k4).trans HS4.out.2, by omega⟩, m8, by omega⟩
  have T8 := Lib.hid ((T4.out.below b6).below b8)
  have S8 := Lib.hid hS3
  have e8 := T8.out.bx.all
  have hw2' : w1.alloc (.cells #[.slice sq seqs.length cq] 48) = w2 := hw2
  have ga8 := m8
  have gm8 := S8.out.s2.m
  have hlc : (missL s seqs).length = s.l.length := by unfold missL chg; rw [List.length_map]
  have CC := Lib.hid (wn_change_any (S1 (w.heap.size + 1) sq seqs cq) 58 #[.pointer (some ⟨w.heap.size + 1, 0, none⟩)] (ms seqs) (missed_tells _ sq seqs cq hq) (fun p => 0 ≤ p.tr) 63 bump wn_count_does x.sa s.l x.c w8 (fun W hW => S8.out.s2.s1.keep _ _ hW) (hL.sl.below T8.out.bel) hl ht)
  rw [← hL.n, show chg (ms seqs) bump s.l = missL s seqs from rfl] at CC
  have CF := Lib.hid (fun (sa : Option Addr) (c : Nat) W (hW : Below w8.heap.size w8 W) (h : Sn_.Sl W sa (missL s seqs) c) => wn_filter_any (S2 (w.heap.size + 1) (w.heap.size + 4) (w.heap.size + 2) sq seqs cq lim) 61 #[.pointer (some ⟨w.heap.size + 4, 0, none⟩), .pointer (some ⟨w.heap.size + 2, 0, none⟩)] (lst seqs lim) (lost_tells _ _ _ sq seqs cq lim hq) sa _ c W (fun W2 hW2 => S8.out.s2.keep _ _ (hW.trans (hW2.mono hW.size))) h (by rw [hlc]; exact hl))
  have CG := Lib.hid (fun (sa : Option Addr) (c : Nat) W (hW : Below w8.heap.size w8 W) (h : Sn_.Sl W sa (missL s seqs) c) => wn_filter_any (S3 (w.heap.size + 1) (w.heap.size + 4) (w.heap.size + 2) (w.heap.size + 5) sq seqs cq lim) 62 #[.pointer (some ⟨w.heap.size + 5, 0, none⟩)] (lft seqs lim) (left_tells _ _ _ _ sq seqs cq lim hq) sa _ c W (fun W2 hW2 => S8.out.keep _ _ (hW.trans (hW2.mono hW.size))) h (by rw [hlc]; exact hl))
  have hlf : ((missL s seqs).filter (lst seqs lim)).length ≤ 1000 := Nat.le_trans (List.length_filter_le _ _) (by rw [hlc]; exact hl)
  have hlg : ((missL s seqs).filter (lft seqs lim)).length ≤ 1000 := Nat.le_trans (List.length_filter_le _ _) (by rw [hlc]; exact hl)
  have HLF := Lib.hid hlf
  have CI := Lib.hid (fun (sa : Option Addr) (c : Nat) W (h : Sn_.Sl W sa ((missL s seqs).filter (lst seqs lim)) c) => wn_ids_any sa _ c W h HLF.out)
  have HLG := Lib.hid hlg
  have CT := Lib.hid (fun (y : Wn) (s2 : St) W (h : Lies W y s2) (hs : s2.l.length ≤ 1000) => wn_trim_any y s2 W h hs)
  have HL := Lib.hid hL
  have HE : Hid (missed s seqs lim = ({ s with l := trimL ((missL s seqs).filter (lft seqs lim)), rq := rqOf s (ids ((missL s seqs).filter (lst seqs lim))) }, ids ((missL s seqs).filter (lst seqs lim)))) := rfl
  rw [HE.out]
  clear hL hl hlf hlg hlc hQ ht HE hw4 hw2 hS3 HS4
  generalize (missL s seqs).filter (lft seqs lim) = LG at *
  generalize (missL s seqs).filter (lst seqs lim) = LF at *
  generalize missL s seqs = LC at *
  go_enter Try.func29, Try.ntmps29
  go_wp2_with fail
  refine CC.out.mono ?_
  rintro e w9 ⟨v9, rfl, ho9, hb9⟩
  obtain ⟨sa9, c9, rfl⟩ := Sn_.slice_form ho9
  have B9 := Lib.hid hb9
  have T9 := Lib.hid (T8.out.below hb9)
  have S9 := Lib.hid (Sn_.sl_owns ho9)
  have g9 := (S8.out.keep _ _ hb9).t
  clear ho9 hb9 CC
  go_wp2_with fail
  refine (CF.out sa9 c9 w9 B9.out S9.out).mono ?_
  rintro e w10 ⟨v10, rfl, ho10, hb10⟩
  obtain ⟨sa10, c10, rfl⟩ := Sn_.slice_form ho10
  have B10 := Lib.hid (B9.out.trans (hb10.mono B9.out.size))
  have T10 := Lib.hid (T9.out.below hb10)
  have S10 := Lib.hid (S9.out.below hb10)
  have CI10 := Lib.hid (CI.out sa10 c10 w10 (Sn_.sl_owns ho10))
  clear ho10 hb10 CI CF g9
  go_wp2_with fail
  refine CI10.out.mono ?_
  rintro e w11 ⟨v11, rfl, ho11, hb11⟩
  obtain ⟨sa11, c11, rfl⟩ := Is_.slice_form ho11
  have B11 := Lib.hid (B10.out.trans (hb11.mono B10.out.size))
  have T11 := Lib.hid (T10.out.below hb11)
  have S11 := Lib.hid (S10.out.below hb11)
  have I11 := Lib.hid (Is_.sl_owns ho11)
  have F11 := Lib.hid (Fr.own ho11)
  clear ho11 hb11 CI10
  go_wp2_with fail
  refine (CG.out sa9 c9 w11 B11.out S11.out).mono ?_
  rintro e w12 ⟨v12, rfl, ho12, hb12⟩
  obtain ⟨sa12, c12, rfl⟩ := Sn_.slice_form ho12
  have T12 := Lib.hid (T11.out.below hb12)
  have I12 := Lib.hid (I11.out.below hb12)
  have S12 := Lib.hid (Sn_.sl_owns ho12)
  have F12 := Lib.hid (Fr.own ho12)
  have e12 := T12.out.bx.all
  have f12 := T12.out.bx.frozen
  have T13 := Lib.hid (T12.out.set2 sa12 LG.length c12)
  obtain ⟨w13, hw13⟩ : ∃ w13, w12.setCell ⟨w.heap.size, 2, none⟩ (.slice sa12 LG.length c12) = w13 := ⟨_, rfl⟩
  have z10 := T10.out.size
  have z11 := T11.out.size
  have S13 := Lib.hid (sl_set22 (a := ⟨w.heap.size, 2, none⟩) (u := .slice sa12 LG.length c12) S12.out F12.out (by show w.heap.size < w11.heap.size; omega))
  have I13 := Lib.hid (is_set22 (a := ⟨w.heap.size, 2, none⟩) (u := .slice sa12 LG.length c12) I12.out F11.out (by show w.heap.size < w10.heap.size; omega))
  rw [hw13] at T13 S13 I13
  have e13 := T13.out.bx.all
  have f13 := T13.out.bx.frozen
  have l13 := T13.out.bx.loadF
  have HQR : Hid (rqOf s (ids LF) = (x.rq || (decide (0 < (ids LF).length) && decide (x.sz ≠ 0)))) := by
    show rqOf s (ids LF) = _
    unfold rqOf
    rw [HL.out.rq, HL.out.sz]
  have fin : Hid (∀ (r : Bool) (w14 : World) (y : Wn), rqOf s (ids LF) = r → y = ⟨x.nx, x.sz, sa12, LG.length, c12, r⟩ → TwoR 3 w y zw w14 → Sn_.Sl w14 sa12 LG c12 → Is_.Sl w14 sa11 (ids LF) c11 →
      (Calls Try.prog 55 #[Ww_.v y] w14 fun e w15 => ∃ x', e = .returned (Ww_.v x') ∧ (Ww_.StoreF ⟨w.heap.size + 3, 0, none⟩ (Ww_.v x')).run Try.prog w15 = .ok () (w15.setRow (w.heap.size + 3) (Ww_.C x')) ∧
        TwoR 3 w y x' (w15.setRow (w.heap.size + 3) (Ww_.C x')) ∧ StIds ({ s with l := trimL LG, rq := rqOf s (ids LF) }, ids LF) w (.returned (.tuple #[Ww_.v x', .slice sa11 (ids LF).length c11])) (w15.setRow (w.heap.size + 3) (Ww_.C x')))) := by
    intro r w14 y hr hy hT hS hI
    subst hy
    refine (CT.out ⟨x.nx, x.sz, sa12, LG.length, c12, r⟩ ⟨s.nx, s.sz, LG, r⟩ w14 ⟨HL.out.nx, HL.out.sz, rfl, rfl, hS⟩ HLG.out).mono ?_
    rintro e w15 ⟨x', rfl, hl', hb', hs'⟩
    have T15 := hT.below hb'
    have F15 := F12.out.sib hs'
    refine ⟨x', rfl, T15.rs.storeF x', T15.setY x', x', sa11, c11, rfl, ⟨⟨hl'.nx, hl'.sz, by rw [hr]; exact hl'.rq, hl'.n, sl_row22 hl'.sl F15 (by omega)⟩, (T15.setY x').bel, F15.up (by omega)⟩, is_row22 (hI.below hb') F11.out (by omega), F11.out.up (by omega)⟩
  have HF12 := Lib.hid F12.out
  clear ho12 hb12 CG CT HLG HLF z10 z11 F12 S12 I12
  generalize (ids LF).length = N at *
  by_cases h0 : 0 < N
  · have h0' : (0 : Int) < (N : Int) := by omega
    by_cases h1 : x.sz = 0
    · have h1' : (x.sz != 0) = false := by rw [h1]; rfl
      have hr : rqOf s (ids LF) = x.rq := by rw [HQR.out, decide_eq_false (show ¬ x.sz ≠ 0 by simpa using h1), Bool.and_false, Bool.or_false]
      have FIN0 := fin.out x.rq w13 ⟨x.nx, x.sz, sa12, LG.length, c12, x.rq⟩ hr rfl T13.out S13.out I13.out
      have FIN := Lib.hid FIN0
      clear FIN0 hr h1 h0
      clear fin HQR
      go_wp2_with (go_at_call 55; refine FIN.out.mono ?_; rintro e w15 ⟨x', rfl, hst, hT', hR⟩; have HT' := Lib.hid hT'; have HR := Lib.hid hR; clear hT' hR)
      exact ret_wn2 Try.results29 rfl rfl HT'.out.rs rfl HR.out
    · have h1' : (x.sz != 0) = true := by simpa using h1
      have T14 := Lib.hid (T13.out.set3 true)
      obtain ⟨w14, hw14⟩ : ∃ w14, w13.setCell ⟨w.heap.size, 3, none⟩ (.bool true) = w14 := ⟨_, rfl⟩
      have S14 := Lib.hid (sl_set22 (a := ⟨w.heap.size, 3, none⟩) (u := .bool true) S13.out HF12.out (by show w.heap.size < w11.heap.size; have := T11.out.size; omega))
      have I14 := Lib.hid (is_set22 (a := ⟨w.heap.size, 3, none⟩) (u := .bool true) I13.out F11.out (by show w.heap.size < w10.heap.size; have := T10.out.size; omega))
      rw [hw14] at T14 S14 I14
      have l14 := T14.out.bx.loadF
      have hr : rqOf s (ids LF) = true := by rw [HQR.out, decide_eq_true h0, decide_eq_true h1, Bool.and_true, Bool.or_true]
      have FIN0 := fin.out true w14 ⟨x.nx, x.sz, sa12, LG.length, c12, true⟩ hr rfl T14.out S14.out I14.out
      have FIN := Lib.hid FIN0
      clear FIN0 hr h1 h0
      clear fin HQR
      go_wp2_with (go_at_call 55; refine FIN.out.mono ?_; rintro e w15 ⟨x', rfl, hst, hT', hR⟩; have HT' := Lib.hid hT'; have HR := Lib.hid hR; clear hT' hR)
      exact ret_wn2 Try.results29 rfl rfl HT'.out.rs rfl HR.out
  · have h0' : ¬ (0 : Int) < (N : Int) := by omega
    have hr : rqOf s (ids LF) = x.rq := by rw [HQR.out, decide_eq_false h0, Bool.false_and, Bool.or_false]
    have FIN0 := fin.out x.rq w13 ⟨x.nx, x.sz, sa12, LG.length, c12, x.rq⟩ hr rfl T13.out S13.out I13.out
    have FIN := Lib.hid FIN0
    clear FIN0 hr h0
    clear fin HQR
    go_wp2_with (go_at_call 55; refine FIN.out.mono ?_; rintro e w15 ⟨x', rfl, hst, hT', hR⟩; have HT' := Lib.hid hT'; have HR := Lib.hid hR; clear hT' hR)
    exact ret_wn2 Try.results29 rfl rfl HT'.out.rs rfl HR.out
end Go.Proofs.Ytldeflpaghbmmaa
