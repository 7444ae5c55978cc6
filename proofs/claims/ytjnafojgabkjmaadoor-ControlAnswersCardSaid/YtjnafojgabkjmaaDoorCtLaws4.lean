/-
  THE LAWS of layer 11: ControlAnswers, where the category and the number are in their ranges; the law.
-/
import Derived.Test.YtjnafojgabkjmaaDoorCtLaws3
namespace Go.Proofs.YtjnafojgabkjmaaDoor
open Go.RowKit Go.Hd Go.Wr Go.Ct
attribute [local go_sem ↓ high] Fr_.loadF Fr_.storeF Fr_.v_cells Fr_.v_match fr_guard fr_eql
attribute [local go_sem] Fr_.C0 Fr_.C1 Fr_.C2 Fr_.C3 Fr_.C4 Fr_.C5 Fr_.C6 Fr_.C7 Fr_.C8 Fr_.C9 Fr_.C10 Fr_.C11 Fr_.C12 Fr_.C13 Fr_.C14 Fr_.C15 Fr_.C16 Fr_.C17 Fr_.loadF_new Fr_.storeF_zero

set_option maxRecDepth 100000 in
set_option maxHeartbeats 8000000 in
theorem answers_yes (x : Int) (hx : (Lit.int .i64 x).wf = true) (y : Int) (hy : (Lit.int .i64 y).wf = true) (d c s : Int) (n : Nat) (hn : n < 18446744073709551616) (W : World) (hl : LaidFacts W)
    (h1 : ¬ Go.Ad.nod x = 0) (h2 : ¬ Go.Ad.nod y = 0) (h3 : ¬ d < 0) (h4 : ¬ 32767 < d) (hw : win c s) :
    Calls Tryd.prog 3 #[.int .i64 x, .int .i64 y, .int .i64 d, .int .i64 c, .int .i64 s, .int .u64 (n : Int)] W fun e w' => e = .returned (.bool true) ∧ Below W.heap.size W w' := by
  have HT : Hid (∀ w', Below W.heap.size W w' → Tabs w') := fun w' hb => hl.below hb (Nat.le_refl _)
  have HB : Hid (∀ w' w'', Below W.heap.size W w' → Below w'.heap.size w' w'' → Below W.heap.size W w'') := fun w' w'' h hb => h.trans (hb.mono h.size)
  have B0 : Hid (Below W.heap.size W W) := Below.refl _ _
  have NX := Lib.hid (fun w => node_any x w hx)
  have NY := Lib.hid (fun w => node_any y w hy)
  have A := ans_of x y d W hl (nod_zero h1) (nod_zero h2) ⟨by omega, by omega⟩
  have e1 : ((Go.Ad.nod x : Int) == 0) = false := by rw [beq_eq_false_iff_ne]; omega
  have e2 : ((Go.Ad.nod y : Int) == 0) = false := by rw [beq_eq_false_iff_ne]; omega
  have vx := nod_vad (nod_zero h1)
  have vy := nod_vad (nod_zero h2)
  have uQ : FrU (mkF 15 0 (Go.Ad.nod x) (Go.Ad.nod y) (bw (ql c s))) := lv_u (nod_u64 x) (nod_u64 y)
  have cQ : chk (mkF 15 0 (Go.Ad.nod x) (Go.Ad.nod y) (bw (ql c s))) = 0 := chk_mk (.inr (.inl rfl)) (by decide) vx vy (by rw [bw_size, ql_len]; rfl)
  have oQ : okB (mkF 15 0 (Go.Ad.nod x) (Go.Ad.nod y) (bw (ql c s))) c s := ⟨⟨cQ, vx.2⟩, .inl rfl, hw⟩
  have cK : chk (mkF 16 0 (Go.Ad.nod y) (Go.Ad.nod x) (bw (bl c s n))) = 0 := chk_mk (.inr (.inr rfl)) (by decide) vy vx (by rw [bw_size, bl_len]; rfl)
  have CQ : Hid (∀ w', Calls Tryd.prog 13 #[.int .u64 (Go.Ad.nod x : Int), .int .u64 (Go.Ad.nod y : Int), .int .i64 c, .int .i64 s] w' fun e w'' => e = .returned (Fr_.v (mkF 15 0 (Go.Ad.nod x) (Go.Ad.nod y) (bw (ql c s)))) ∧ Below w'.heap.size w' w'') := fun w' => by
    have h := request_any (Go.Ad.nod x) (Go.Ad.nod y) c s w'
    rw [show reqF (Go.Ad.nod x) (Go.Ad.nod y) c s = mkF 15 0 (Go.Ad.nod x) (Go.Ad.nod y) (bw (ql c s)) from if_pos hw] at h
    exact h
  have CB : Hid (∀ w', Below W.heap.size W w' → Calls Tryd.prog 14 #[Fr_.v (mkF 15 0 (Go.Ad.nod x) (Go.Ad.nod y) (bw (ql c s))), .int .i64 c, .int .i64 s, .int .u64 (n : Int)] w' fun e w'' => e = .returned (.tuple #[Fr_.v (mkF 16 0 (Go.Ad.nod y) (Go.Ad.nod x) (bw (bl c s n))), .bool true]) ∧ Below w'.heap.size w' w'') := fun w' hb =>
    block_yes _ c s n hn w' (HT.out w' hb).hd uQ oQ
  have CRQ : Hid (∀ w', Calls Tryd.prog 15 #[Fr_.v (mkF 15 0 (Go.Ad.nod x) (Go.Ad.nod y) (bw (ql c s)))] w' fun e w'' => e = .returned (.tuple #[.int .i64 c, .int .i64 s, .int .i64 0]) ∧ Below w'.heap.size w' w'') := fun w' => by
    have h := readRequest_any (mkF 15 0 (Go.Ad.nod x) (Go.Ad.nod y) (bw (ql c s))) w'
    have r := rd_req (ta := Go.Ad.nod x) (fa := Go.Ad.nod y) hw
    rw [show reqF (Go.Ad.nod x) (Go.Ad.nod y) c s = mkF 15 0 (Go.Ad.nod x) (Go.Ad.nod y) (bw (ql c s)) from if_pos hw] at r
    rw [r.1, r.2.1, r.2.2] at h
    exact h
  have CRB : Hid (∀ w', Calls Tryd.prog 16 #[Fr_.v (mkF 16 0 (Go.Ad.nod y) (Go.Ad.nod x) (bw (bl c s n)))] w' fun e w'' => e = .returned (.tuple #[.int .i64 c, .int .i64 s, .int .u64 (n : Int), .int .i64 0]) ∧ Below w'.heap.size w' w'') := fun w' => by
    have h := readBlock_any (mkF 16 0 (Go.Ad.nod y) (Go.Ad.nod x) (bw (bl c s n))) w'
    have r := rd_blk (k := 16) (d := 0) (ta := Go.Ad.nod y) (fa := Go.Ad.nod x) rfl hw hn
    rw [r.1, r.2.1, r.2.2.1, r.2.2.2] at h
    exact h
  have KQ : Hid (∀ w', Below W.heap.size W w' → Calls Tryd.prog 12 #[Fr_.v (mkF 15 0 (Go.Ad.nod x) (Go.Ad.nod y) (bw (ql c s)))] w' fun e w'' => e = .returned (.int .i64 0) ∧ Below w'.heap.size w' w'') := fun w' hb => by
    have h := progCheck_any _ w' (HT.out w' hb).hd uQ
    rw [cQ] at h
    exact h
  have KK : Hid (∀ w', Below W.heap.size W w' → Calls Tryd.prog 12 #[Fr_.v (mkF 16 0 (Go.Ad.nod y) (Go.Ad.nod x) (bw (bl c s n)))] w' fun e w'' => e = .returned (.int .i64 0) ∧ Below w'.heap.size w' w'') := fun w' hb => by
    have h := progCheck_any _ w' (HT.out w' hb).hd (show FrU (mkF 16 0 (Go.Ad.nod y) (Go.Ad.nod x) (bw (bl c s n))) from lv_u (nod_u64 y) (nod_u64 x))
    rw [cK] at h
    exact h
  have k1 : (mkF 16 0 (Go.Ad.nod y) (Go.Ad.nod x) (bw (bl c s n))).ta = (Go.Ad.nod y : Int) := rfl
  have k2 : (mkF 16 0 (Go.Ad.nod y) (Go.Ad.nod x) (bw (bl c s n))).fa = (Go.Ad.nod x : Int) := rfl
  have hc1 : ¬ c < 0 := by have := hw.1; omega
  have hc2 : ¬ 4 ≤ c := by have := hw.1; omega
  have hc3 : ¬ s < 0 := by have := hw.2; omega
  have hc4 : ¬ 4096 ≤ s := by have := hw.2; omega
  clear vx vy uQ cQ oQ cK
  generalize mkF 16 0 (Go.Ad.nod y) (Go.Ad.nod x) (bw (bl c s n)) = K at *
  generalize mkF 15 0 (Go.Ad.nod x) (Go.Ad.nod y) (bw (ql c s)) = Q at *
  generalize mkF 12 d (Go.Ad.nod x) (Go.Ad.nod y) ⟨#[]⟩ = R at *
  generalize mkF 13 (rsd d 7) (Go.Ad.nod y) 0 ⟨#[]⟩ = T at *
  generalize (Go.Ad.nod x : Int) = a at *
  generalize (Go.Ad.nod y : Int) = b at *
  generalize (n : Int) = m at *
  have CT := Lib.hid A.rts
  have CC := Lib.hid A.cts
  have KR := Lib.hid A.ckR
  have KT := Lib.hid A.ckT
  have hta := A.to
  have hdu := A.du
  clear hl h1 h2 hw hx hy hn A
  rcases hdu with ⟨g1, g2, g3⟩ | ⟨g1, g3⟩
  all_goals
    · skip
      go_enter Tryd.func3, Tryd.ntmps3
      go_wp2_with (first
        | (go_at_call 8; with_reducible refine (NX.out _).mono ?_; rintro e w' ⟨rfl, rfl⟩)
        | (go_at_call 8; with_reducible refine (NY.out _).mono ?_; rintro e w' ⟨rfl, rfl⟩)
        | (go_at_call 10; refine (CT.out _).mono ?_; rintro e w1 ⟨rfl, hb⟩; have B1 := Lib.hid (HB.out _ _ B0.out hb); clear hb
           obtain ⟨w2, hw2⟩ : ∃ w2, w1.alloc (.cells (Fr_.C R) 27) = w2 := ⟨_, rfl⟩
           have B2 := Lib.hid (show Below W.heap.size W w2 from hw2 ▸ B1.out.alloc B1.out.size _)
           have R2 := Lib.hid (show Fr_.Box w2 w1.heap.size R from hw2 ▸ Fr_.Box.newC w1 R)
           have l2 := R2.out.loadF)
        | (go_at_call 11; refine (CC.out _ B2.out).mono ?_; rintro e w3 ⟨rfl, hb⟩; have B3 := Lib.hid (HB.out _ _ B2.out hb); have R3 := Lib.hid (R2.out.below hb R2.out.lt); clear hb l2
           obtain ⟨w4, hw4⟩ : ∃ w4, w3.alloc (.cells (Fr_.C T) 27) = w4 := ⟨_, rfl⟩
           have B4 := Lib.hid (show Below W.heap.size W w4 from hw4 ▸ B3.out.alloc B3.out.size _)
           have R4 := Lib.hid (show Fr_.Box w4 w1.heap.size R from hw4 ▸ R3.out.allocC _)
           have T4 := Lib.hid (show Fr_.Box w4 w3.heap.size T from hw4 ▸ Fr_.Box.newC w3 T)
           have l4 := R4.out.loadF)
        | (go_at_call 12; with_reducible refine (KR.out _ B4.out).mono ?_; rintro e w5 ⟨rfl, hb⟩; have B5 := Lib.hid (HB.out _ _ B4.out hb); have T5 := Lib.hid (T4.out.below hb T4.out.lt); clear hb l4; have l5 := T5.out.loadF)
        | (go_at_call 12; with_reducible refine (KT.out _ B5.out).mono ?_; rintro e w6 ⟨rfl, hb⟩; have B6 := Lib.hid (HB.out _ _ B5.out hb); have T6 := Lib.hid (T5.out.below hb T5.out.lt); clear hb l5; have e6 := T6.out.all)
        | (go_at_call 13; refine (CQ.out _).mono ?_; rintro e w7 ⟨rfl, hb⟩; have B7 := Lib.hid (HB.out _ _ B6.out hb); clear hb e6
           obtain ⟨w8, hw8⟩ : ∃ w8, w7.alloc (.cells (Fr_.C Q) 27) = w8 := ⟨_, rfl⟩
           have B8 := Lib.hid (show Below W.heap.size W w8 from hw8 ▸ B7.out.alloc B7.out.size _)
           have Q8 := Lib.hid (show Fr_.Box w8 w7.heap.size Q from hw8 ▸ Fr_.Box.newC w7 Q)
           have l8 := Q8.out.loadF)
        | (go_at_call 14; refine (CB.out _ B8.out).mono ?_; rintro e w9 ⟨rfl, hb⟩; have B9 := Lib.hid (HB.out _ _ B8.out hb); have Q9 := Lib.hid (Q8.out.below hb Q8.out.lt); clear hb l8
           obtain ⟨w10, hw10⟩ : ∃ w10, w9.alloc (.cells (Fr_.C K) 27) = w10 := ⟨_, rfl⟩
           have B10 := Lib.hid (show Below W.heap.size W w10 from hw10 ▸ B9.out.alloc B9.out.size _)
           have Q10 := Lib.hid (show Fr_.Box w10 w7.heap.size Q from hw10 ▸ Q9.out.allocC _)
           have K10 := Lib.hid (show Fr_.Box w10 w9.heap.size K from hw10 ▸ Fr_.Box.newC w9 K)
           have l10 := Q10.out.loadF
           have e10 := Q10.out.all)
        | (go_at_call 15; refine (CRQ.out _).mono ?_; rintro e w11 ⟨rfl, hb⟩; have B11 := Lib.hid (HB.out _ _ B10.out hb); have Q11 := Lib.hid (Q10.out.below hb Q10.out.lt); have K11 := Lib.hid (K10.out.below hb K10.out.lt); clear hb l10 e10; have l11 := K11.out.loadF)
        | (go_at_call 16; refine (CRB.out _).mono ?_; rintro e w12 ⟨rfl, hb⟩; have B12 := Lib.hid (HB.out _ _ B11.out hb); have Q12 := Lib.hid (Q11.out.below hb Q11.out.lt); have K12 := Lib.hid (K11.out.below hb K11.out.lt); clear hb l11; have l12 := Q12.out.loadF)
        | (go_at_call 12; with_reducible refine (KQ.out _ B12.out).mono ?_; rintro e w13 ⟨rfl, hb⟩; have B13 := Lib.hid (HB.out _ _ B12.out hb); have K13 := Lib.hid (K12.out.below hb K12.out.lt); clear hb l12; have l13 := K13.out.loadF)
        | (go_at_call 12; with_reducible refine (KK.out _ B13.out).mono ?_; rintro e w14 ⟨rfl, hb⟩; have B14 := Lib.hid (HB.out _ _ B13.out hb); have K14 := Lib.hid (K13.out.below hb K13.out.lt); clear hb l13; have e14 := K14.out.all)
        | (go_at_call 9; refine (lives11_any _ (HT.out _ B14.out)).mono ?_; rintro e w15 ⟨rfl, hb⟩; have B15 := Lib.hid (HB.out _ _ B14.out hb); clear hb))
      go_returns
      exact ⟨rfl, B15.out⟩

theorem controlAnswers_walk0 (x : Int) (hx : (Lit.int .i64 x).wf = true) (y : Int) (hy : (Lit.int .i64 y).wf = true) (d : Int) (_ : (Lit.int .i64 d).wf = true) (c : Int) (_ : (Lit.int .i64 c).wf = true) (s : Int) (_ : (Lit.int .i64 s).wf = true) (m : Int) (hm : (Lit.int .u64 m).wf = true) (W : World) (hl : LaidFacts W) :
    Calls Tryd.prog 3 #[.int .i64 x, .int .i64 y, .int .i64 d, .int .i64 c, .int .i64 s, .int .u64 m] W fun e w' => e = .returned (.bool true) ∧ Below W.heap.size W w' := by
  obtain ⟨n, rfl⟩ : ∃ n : Nat, m = n := ⟨m.toNat, by have := (u64_wf hm).1; omega⟩
  have hn : n < 18446744073709551616 := by have := (u64_wf hm).2; omega
  by_cases h1 : Go.Ad.nod x = 0
  · exact answers_out x hx y hy d c s n W hl (.inl h1)
  by_cases h2 : Go.Ad.nod y = 0
  · exact answers_out x hx y hy d c s n W hl (.inr (.inl ⟨h1, h2⟩))
  by_cases h3 : d < 0
  · exact answers_out x hx y hy d c s n W hl (.inr (.inr (.inl ⟨h1, h2, h3⟩)))
  by_cases h4 : 32767 < d
  · exact answers_out x hx y hy d c s n W hl (.inr (.inr (.inr ⟨h1, h2, h3, h4⟩)))
  by_cases hw : win c s
  · exact answers_yes x hx y hy d c s n hn W hl h1 h2 h3 h4 hw
  · exact answers_no x hx y hy d c s n W hl h1 h2 h3 h4 hw
end Go.Proofs.YtjnafojgabkjmaaDoor
