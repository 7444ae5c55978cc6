/-
  THE LAW WindowResets over the walks.
-/
import Derived.Test.YtldeflpaghbmmaaWnRefC
import Derived.Test.YtldeflpaghbmmaaWnReset
import Derived.Test.YtldeflpaghbmmaaWnSame
namespace Go.Proofs.Ytldeflpaghbmmaa
open Go.RowKit Go.Wn Go.Sq Go.Wr
attribute [local go_sem ↓ high] Wv_.loadF Wv_.storeF Wv_.v_cells Wv_.v_match Ww_.loadF Ww_.storeF Ww_.v_cells Ww_.v_match
attribute [local go_sem] Wv_.C0 Wv_.C1 Wv_.C2 Wv_.C3 Wv_.loadF_new Wv_.storeF_zero Ww_.C0 Ww_.C1 Ww_.C2 Ww_.C3 Ww_.loadF_new Ww_.storeF_zero Oper.semAt_some

set_option maxRecDepth 100000 in
set_option maxHeartbeats 8000000 in
theorem windowResets_walk0 (x : Wn) (s : St) {W : World} (hL : Lies W x s) (z : Int) (_ : (Lit.int .i64 z).wf = true) :
    Calls Try.prog 6 #[Wv_.v x, .int .i64 z] W fun e w' => e = .returned (.bool true) ∧ Below W.heap.size W w' := by
  obtain ⟨w1, hw1⟩ : ∃ w1, W.alloc (.cells (Wv_.C x) 24) = w1 := ⟨_, rfl⟩
  have X1 : Wv_.Box w1 W.heap.size x := hw1 ▸ Wv_.Box.new W x
  have B1 : Below W.heap.size W w1 := hw1 ▸ (Below.refl _ _).alloc (Nat.le_refl _) _
  have V1 := Lib.hid (show Kv W W.heap.size x s w1 from ⟨X1, hL.below B1, B1⟩)
  have l1 := X1.loadF
  have CF := Lib.hid (fun w => few22_any x w)
  have CL := Lib.hid lives22_any
  have hn := hL.n
  clear hL X1 B1
  by_cases h70 : x.n ≤ 70
  · rw [decide_eq_true h70] at CF
    have hl : s.l.length ≤ 1000 := by omega
    have CR := Lib.hid (fun w (h : Lies w x s) => r22_check_any x s w h hl)
    by_cases hK : chk s = 0
    · rw [hK] at CR
      have HE := Lib.hid (rfl : reset s = reset s)
      have hlr : (reset s).2.length ≤ 1000 := by
        show (ids (s.l.filter isOp)).length ≤ 1000
        unfold ids; rw [List.length_map]; exact Nat.le_trans (List.length_filter_le _ _) hl
      have hlz : (resize s z).1.l.length ≤ 1000 := by unfold resize; split <;> first | exact Nat.zero_le _ | (split <;> exact Nat.zero_le _)
      have hlt : (reset s).1.l.length ≤ 1000 := Nat.zero_le _
      have CT := Lib.hid (fun w => state22_any x w)
      have CZ := Lib.hid (fun w h => wn_resize_any x s z w h)
      have CZr := Lib.hid (fun w h => r22_resize_any x s z w h)
      have CE := Lib.hid (fun w h => wn_reset_any x s w h hl)
      have CEr := Lib.hid (fun w h => r22_reset_any x s w h hl)
      have CS1 := Lib.hid (fun p q w h h' => same22_any p q (resize s z).1 w h h' hlz)
      have CS2 := Lib.hid (fun p q w h h' => same22_any p q (reset s).1 w h h' hlt)
      have CI := Lib.hid (fun sa sb c c' w h h' => sameIs22_any (reset s).2 sa sb c c' w h h' hlr)
      unfold StErr at CZ
      unfold StErrV at CZr
      unfold StIds at CE
      unfold StIdsV at CEr
      generalize resize s z = PZ at *
      generalize reset s = PR at *
      clear hK h70 hl hlr hlz hlt HE hn
      go_enter Try.func6, Try.ntmps6
      go_wp2_with (first
        | (go_at_call 9; refine (CF.out _).mono ?_; rintro e w2 ⟨rfl, hw2⟩; have V2 := Lib.hid (V1.out.keep hw2); have l2 := V2.out.bx.loadF; clear hw2)
        | (go_at_call 13; refine (CR.out w2 V2.out.lies).mono ?_; rintro e w3 ⟨rfl, hw3⟩; have V3 := Lib.hid (V2.out.keep hw3); have l3 := V3.out.bx.loadF; clear hw3)
        | (go_at_call 12; refine (CT.out w3).mono ?_; rintro e w4 ⟨rfl, hw4⟩; have V4 := Lib.hid (V3.out.keep hw4); clear hw4)
        | (go_at_call 32; refine (CZ.out w4 V4.out.lies).mono ?_))
      rintro e w5 ⟨x1, rfl, hO1⟩
      obtain ⟨w6, hw6⟩ : ∃ w6, w5.alloc (.cells (Ww_.C x1) 29) = w6 := ⟨_, rfl⟩
      have hz6 := Ww_.storeF_zero w5 x1
      rw [hw6] at hz6
      have A6 := Lib.hid (show Kp W w5.heap.size x1 PZ.1 w6 from hw6 ▸ Kp.new hO1 V4.out.bel)
      have V6 := Lib.hid (V4.out.keep (hO1.bel.trans ((show Below w5.heap.size w5 w6 from hw6 ▸ (Below.refl _ _).alloc (Nat.le_refl _) _).mono hO1.bel.size)))
      have l6 := V6.out.bx.loadF
      clear hO1
      go_wp2_with fail
      refine (CZr.out w6 V6.out.lies).mono ?_
      rintro e w7 ⟨x2, rfl, hL2, hb2⟩
      obtain ⟨w8, hw8⟩ : ∃ w8, w7.alloc (.cells (Wv_.C x2) 24) = w8 := ⟨_, rfl⟩
      have hz8 := Wv_.storeF_zero w7 x2
      rw [hw8] at hz8
      have b68 := hb2.trans ((show Below w7.heap.size w7 w8 from hw8 ▸ (Below.refl _ _).alloc (Nat.le_refl _) _).mono hb2.size)
      have D8 := Lib.hid (show Kv W w7.heap.size x2 PZ.1 w8 from hw8 ▸ Kv.new hL2 hb2 V6.out.bel)
      have A8 := Lib.hid (A6.out.keep b68)
      have V8 := Lib.hid (V6.out.keep b68)
      have l8 := V8.out.bx.loadF
      clear hL2 hb2 b68
      go_wp2_with (go_at_call 12; refine (CT.out w8).mono ?_; rintro e w9 ⟨rfl, hw9⟩; have V9 := Lib.hid (V8.out.keep hw9); have A9 := Lib.hid (A8.out.keep hw9); have D9 := Lib.hid (D8.out.keep hw9); clear hw9)
      refine (CE.out w9 V9.out.lies).mono ?_
      rintro e w10 ⟨x3, sa3, c3, rfl, hO3, hI3, -⟩
      obtain ⟨w11, hw11⟩ : ∃ w11, w10.alloc (.cells (Ww_.C x3) 29) = w11 := ⟨_, rfl⟩
      have hz11 := Ww_.storeF_zero w10 x3
      rw [hw11] at hz11
      have b10 : Below w10.heap.size w10 w11 := hw11 ▸ (Below.refl _ _).alloc (Nat.le_refl _) _
      have b9 := hO3.bel.trans (b10.mono hO3.bel.size)
      have E11 := Lib.hid (show Kp W w10.heap.size x3 PR.1 w11 from hw11 ▸ Kp.new hO3 V9.out.bel)
      have I11 := Lib.hid (hI3.below b10)
      have A11 := Lib.hid (A9.out.keep b9)
      have D11 := Lib.hid (D9.out.keep b9)
      have V11 := Lib.hid (V9.out.keep b9)
      have l11 := V11.out.bx.loadF
      clear hO3 hI3 b10 b9
      go_wp2_with fail
      refine (CEr.out w11 V11.out.lies).mono ?_
      rintro e w12 ⟨x4, sa4, c4, rfl, hO4, hI4, -⟩
      obtain ⟨w13, hw13⟩ : ∃ w13, w12.alloc (.cells (Wv_.C x4) 24) = w13 := ⟨_, rfl⟩
      have hz13 := Wv_.storeF_zero w12 x4
      rw [hw13] at hz13
      have b12 : Below w12.heap.size w12 w13 := hw13 ▸ (Below.refl _ _).alloc (Nat.le_refl _) _
      have b11 := hO4.bel.trans (b12.mono hO4.bel.size)
      have F13 := Lib.hid (show Kv W w12.heap.size x4 PR.1 w13 from hw13 ▸ Kv.new hO4.lies hO4.bel V11.out.bel)
      have J13 := Lib.hid (hI4.below b12)
      have I13 := Lib.hid (I11.out.below b11)
      have A13 := Lib.hid (A11.out.keep b11)
      have D13 := Lib.hid (D11.out.keep b11)
      have E13 := Lib.hid (E11.out.keep b11)
      have la13 := A13.out.bx.loadF
      have ld13 := D13.out.bx.loadF
      clear hO4 hI4 b12 b11
      go_wp2_with (first
        | (go_at_call 14; with_reducible refine (CS1.out x1 x2 w13 A13.out.lies D13.out.lies).mono ?_; rintro e w14 ⟨rfl, hb14⟩; have E14 := Lib.hid (E13.out.keep hb14); have F14 := Lib.hid (F13.out.keep hb14); have I14 := Lib.hid (I13.out.below hb14); have J14 := Lib.hid (J13.out.below hb14); have le14 := E14.out.bx.loadF; have lf14 := F14.out.bx.loadF; clear hb14)
        | (go_at_call 14; with_reducible refine (CS2.out x3 x4 w14 E14.out.lies F14.out.lies).mono ?_; rintro e w15 ⟨rfl, hb15⟩; have E15 := Lib.hid (E14.out.keep hb15); have I15 := Lib.hid (I14.out.below hb15); have J15 := Lib.hid (J14.out.below hb15); clear hb15)
        | (go_at_call 31; refine (CI.out _ _ _ _ w15 I15.out J15.out).mono ?_; rintro e w16 ⟨rfl, hb16⟩; have E16 := Lib.hid (E15.out.keep hb16); clear hb16)
        | (go_at_call 10; refine (CL.out w16).mono ?_; rintro e w17 ⟨rfl, hb17⟩; have E17 := Lib.hid (E16.out.keep hb17); clear hb17))
      go_returns
      exact ⟨rfl, E17.out.bel⟩
    · have hK' : (chk s != 0) = true := by simpa using hK
      generalize chk s = K at *
      clear hK hl hn
      go_enter Try.func6, Try.ntmps6
      go_wp2_with (first
        | (go_at_call 9; refine (CF.out _).mono ?_; rintro e w2 ⟨rfl, hw2⟩; have V2 := Lib.hid (V1.out.keep hw2); have l2 := V2.out.bx.loadF; clear hw2)
        | (go_at_call 13; refine (CR.out w2 V2.out.lies).mono ?_; rintro e w3 ⟨rfl, hw3⟩; have V3 := Lib.hid (V2.out.keep hw3); clear hw3)
        | (go_at_call 10; refine (CL.out w3).mono ?_; rintro e w4 ⟨rfl, hw4⟩; have V4 := Lib.hid (V3.out.keep hw4); clear hw4))
      go_returns
      exact ⟨rfl, V4.out.bel⟩
  · rw [decide_eq_false h70] at CF
    clear hn
    go_enter Try.func6, Try.ntmps6
    go_wp2_with (first
      | (go_at_call 9; refine (CF.out _).mono ?_; rintro e w2 ⟨rfl, hw2⟩; have V2 := Lib.hid (V1.out.keep hw2); clear hw2)
      | (go_at_call 10; refine (CL.out w2).mono ?_; rintro e w3 ⟨rfl, hw3⟩; have V3 := Lib.hid (V2.out.keep hw3); clear hw3))
    go_returns
    exact ⟨rfl, V3.out.bel⟩
end Go.Proofs.Ytldeflpaghbmmaa
