/-
  THE WALK of the law WireWrites: true, for every sequence of calls.
-/
import Derived.Test.YtekdfcbkpljllaaWrStates
import Derived.Test.YtekdfcbkpljllaaWrLives
import Derived.Test.YtekdfcbkpljllaaWrOps
namespace Go.Proofs.Ytekdfcbkpljllaa
open Go.RowKit Go.Wr

set_option maxRecDepth 100000 in
set_option maxHeartbeats 8000000 in
theorem writes_walk (ops : List Opr) (sa : Option Addr) (c : Nat) (w : World) (h : OpsAt w sa ops) :
    Calls Try.prog 4 #[.slice sa ops.length c] w fun e w' => e = .returned (.bool true) ∧ Below w.heap.size w w' := by
  have HL : Hid (∀ w, Calls Try.prog 9 #[] w fun e w' => e = .returned (.bool true) ∧ Below w.heap.size w w') := lives_any
  have HO := Lib.hid h
  clear h
  cases hfew : fewB ops with
  | false =>
    have HFW : Hid (∀ W, OpsAt W sa ops → Calls Try.prog 8 #[.slice sa ops.length c] W fun e w' => e = .returned (.bool false) ∧ W = w') := fun W h => by
      have := few_any ops sa c W h; rwa [hfew] at this
    clear hfew
    go_enter Try.func4, Try.ntmps4
    go_wp2_with (first | (go_at_call 8; refine (HFW.out _ HO.out).mono ?_; rintro e w' ⟨rfl, rfl⟩) | (go_at_call 9; refine (HL.out _).mono ?_; rintro e w1 ⟨rfl, hb1⟩))
    go_returns
    exact ⟨rfl, hb1⟩
  | true =>
    have HFW : Hid (∀ W, OpsAt W sa ops → Calls Try.prog 8 #[.slice sa ops.length c] W fun e w' => e = .returned (.bool true) ∧ W = w') := fun W h => by
      have := few_any ops sa c W h; rwa [hfew] at this
    have hlen := fewB_len hfew
    have HTX : Hid (∀ i (hi : i < ops.length), ops[i].t.size ≤ 200) := fewB_txt hfew
    clear hfew
    have HZ : Hid (WrS ((w.alloc (.cells #[.int .i64 0, .pointer none, .string ⟨#[]⟩] 30)).alloc (.cells #[.string ⟨#[]⟩, .int .i64 0] 45)) w.heap.size 0 []) :=
      .inl ⟨rfl, (Wr.zero w _ rfl).below ((Below.refl _ _).alloc (Nat.le_refl _) _)⟩
    go_enter Try.func4, Try.ntmps4
    go_wp2_with (go_at_call 8; refine (HFW.out _ HO.out).mono ?_; rintro e w' ⟨rfl, rfl⟩)
    go_loopw [5] (fun i wr => ∃ (m : Nat) (e : Int) (L : List UInt8), m ≤ ops.length ∧ i = .int .i64 m ∧ WrS wr w.heap.size e L ∧ Blk wr (w.heap.size + 1) 45 [.string (str L), .int .i64 e] ∧ Below w.heap.size w wr ∧ L.length ≤ 206 * m)
      (fun i _ => ops.length - (intOf i).toNat)
    case atStart => exact ⟨0, 0, [], Nat.zero_le _, rfl, HZ.out, Blk.new _ _ _ _ (by simp), ((Below.refl _ _).alloc (Nat.le_refl _) _).alloc (by simp) _, Nat.le_refl _⟩
    case round =>
      obtain ⟨m, e, L, hm, rfl, hw, hblk, hbel, hL⟩ := hrel
      have hsz : w.heap.size + 1 < wr.heap.size := hblk.lt
      have HW := Lib.hid hw
      have HBK := Lib.hid hblk
      have HBL := Lib.hid hbel
      have HLL := Lib.hid hL
      have HSZ := Lib.hid hsz
      clear hw hblk hbel hL hsz HZ
      by_cases hlt : m < ops.length
      · obtain ⟨b, off, rfl, hbl, c0, c1, c2, c3, c4⟩ := HO.out m hlt
        have HBB := Lib.hid hbl
        clear c4 hbl
        have d0 := (HBL.out.cell (p := ⟨b, off + m * 5, none⟩) HBB.out).trans c0
        have d1 := (HBL.out.cell (p := ⟨b, off + m * 5 + 1, none⟩) HBB.out).trans c1
        have d2 := (HBL.out.cell (p := ⟨b, off + m * 5 + 2, none⟩) HBB.out).trans c2
        have d3 := (HBL.out.cell (p := ⟨b, off + m * 5 + 3, none⟩) HBB.out).trans c3
        clear c0 c1 c2 c3
        have HTM := Lib.hid (HTX.out m hlt)
        generalize ops[m] = o at *
        obtain ⟨ok, on, oz, ot, oe⟩ := o
        dsimp only at d0 d1 d2 d3
        have HTT : Hid (ot.size ≤ 200) := HTM.out
        by_cases k0 : ok = 0
        · subst k0
          obtain ⟨e', he'⟩ : ∃ x, x = (put e L on oz).1 := ⟨_, rfl⟩
          obtain ⟨L', hL'⟩ : ∃ x, x = (put e L on oz).2 := ⟨_, rfl⟩
          have P1 : Hid (∀ W, WrS W w.heap.size e L → Calls Try.prog 10 #[.pointer (some ⟨w.heap.size, 0, none⟩), .int .i64 on, .int .i64 oz] W fun r w' => r = .returned (.tuple #[]) ∧ WrS w' w.heap.size e' L' ∧ But w.heap.size W w') := fun W h => by
            rw [he', hL']; exact put_st _ _ _ _ _ _ h (by have := HLL.out; omega)
          have P2 : Hid (∀ W, Calls Try.prog 19 #[.agg #[.string (str L), .int .i64 e], .int .i64 on, .int .i64 oz] W fun r w' => r = .returned (.agg #[.string (str L'), .int .i64 e']) ∧ Below W.heap.size W w') := fun W => by
            rw [he', hL']; exact refNum_st _ _ _ _ _ (by have := HLL.out; omega)
          have HLN : Hid (L'.length ≤ 206 * (m + 1)) := by have h1 := put_len e L on oz; rw [← hL'] at h1; have := HLL.out; show _ ≤ _; omega
          clear he' hL'
          go_wp2
          go_region_with (go_at_call 10; go_loud (refine (P1.out _ ?hw).mono ?_; (case hw => exact HW.out.drew); rintro r w1 ⟨rfl, hs1, hb1⟩; have d1' := oldCell hb1 HBB.out (Nat.le_refl _) HBL.out.size d1; have d2' := oldCell hb1 HBB.out (Nat.le_refl _) HBL.out.size d2; have hblk1 := hb1.blk HBK.out (by omega); have q0 := Blk.cell hblk1 0 _ rfl; have q1 := Blk.cell hblk1 1 _ rfl))
          all_goals
            have HS1 := Lib.hid hs1
            have HK1 := Lib.hid hblk1
            have HB1 := Lib.hid (HBL.out.trans ((Below.refl _ _).drew.trans (hb1.below (B := w.heap.size) HBL.out.size (Nat.le_refl _))))
            clear hs1 hblk1 hb1 d0 d1 d2 d3 P1 HW HBL HBK HSZ HLL
            go_wp2
            go_region_with (go_at_call 19; refine (P2.out _).mono ?_; rintro r w2 ⟨rfl, hb2⟩; have hk2 := HK1.out.drew.of_block (hb2.block _ HK1.out.lt); have q0' := Blk.cell hk2 0 _ rfl; have q1' := Blk.cell hk2 1 _ rfl; have f0' := Blk.frozen hk2 0; have f1' := Blk.frozen hk2 1)
            all_goals
              have HS2 := HS1.out.drew.below hb2
              have HS3 := Lib.hid ((HS2.setOther hk2 (by decide) (by omega) 0 (.string (str L'))).setOther (hk2.set 0 (.string (str L'))) (by decide) (by omega) 1 (.int .i64 e'))
              have HK3 : Hid (Blk ((w2.setCell ⟨w.heap.size + 1, 0, none⟩ (.string (str L'))).setCell ⟨w.heap.size + 1, 1, none⟩ (.int .i64 e')) (w.heap.size + 1) 45 [.string (str L'), .int .i64 e']) := (hk2.set 0 (.string (str L'))).set 1 (.int .i64 e')
              have HB3 := Lib.hid (((HB1.out.trans ((Below.refl _ _).drew.trans (hb2.mono HB1.out.size))).setCell (p := ⟨w.heap.size + 1, 0, none⟩) (by simp) (.string (str L'))).setCell (p := ⟨w.heap.size + 1, 1, none⟩) (by simp) (.int .i64 e'))
              generalize (w2.setCell ⟨w.heap.size + 1, 0, none⟩ (.string (str L'))).setCell ⟨w.heap.size + 1, 1, none⟩ (.int .i64 e') = W3 at *
              clear hk2 q0' q1' f0' f1' HS2 hb2 HS1 HK1 HB1 P2
              have r0 := Blk.cell HK3.out 0 _ rfl
              have r1 := Blk.cell HK3.out 1 _ rfl
              have PD : Hid (∀ W, WrS W w.heap.size e' L' → Calls Try.prog 12 #[.pointer (some ⟨w.heap.size, 0, none⟩)] W fun r w' => r = .returned (.tuple #[.string (outS e' L'), .int .i64 e']) ∧ Below W.heap.size W w') := fun W h => done_st _ _ _ _ h (by have := HLN.out; omega)
              have PR : Hid (∀ W, Calls Try.prog 21 #[.agg #[.string (str L'), .int .i64 e']] W fun r w' => r = .returned (.tuple #[.string (outS e' L'), .int .i64 e']) ∧ Below W.heap.size W w') := fun W => refDone_st _ _ W
              generalize outS e' L' = out at PD PR
              go_wp2_with (first | (go_at_call 12; refine (PD.out _ HS3.out).mono ?_; rintro r w4 ⟨rfl, hb4⟩; have q0 := Blk.cell (HK3.out.of_block (hb4.block _ HK3.out.lt)) 0 _ rfl; have q1 := Blk.cell (HK3.out.of_block (hb4.block _ HK3.out.lt)) 1 _ rfl) | (go_at_call 21; refine (PR.out _).mono ?_; rintro r w5 ⟨rfl, hb5⟩))
              go_roundw
              case rel =>
                have hb35 := hb4.trans (hb5.mono hb4.size)
                exact ⟨m + 1, e', L', by omega, by go_num, HS3.out.below hb35, HK3.out.of_block (hb35.block _ HK3.out.lt), HB3.out.trans (hb35.mono HB3.out.size), HLN.out⟩
              case measure => simp [intOf]; omega
        · by_cases k1 : ok = 1
          · subst k1
            obtain ⟨e', he'⟩ : ∃ x, x = (txt e L ot).1 := ⟨_, rfl⟩
            obtain ⟨L', hL'⟩ : ∃ x, x = (txt e L ot).2 := ⟨_, rfl⟩
            have P1 : Hid (∀ W, WrS W w.heap.size e L → Calls Try.prog 11 #[.pointer (some ⟨w.heap.size, 0, none⟩), .string ot] W fun r w' => r = .returned (.tuple #[]) ∧ WrS w' w.heap.size e' L' ∧ But w.heap.size W w') := fun W h => by
              rw [he', hL']; exact text_st _ _ _ _ _ h (by have := HLL.out; have := HTT.out; omega)
            have P2 : Hid (∀ W, Calls Try.prog 20 #[.agg #[.string (str L), .int .i64 e], .string ot] W fun r w' => r = .returned (.agg #[.string (str L'), .int .i64 e']) ∧ Below W.heap.size W w') := fun W => by
              rw [he', hL']; exact refText_st _ _ _ _ (by have := HLL.out; have := HTT.out; omega)
            have HLN : Hid (L'.length ≤ 206 * (m + 1)) := by have h1 := txt_len e L ot; rw [← hL'] at h1; have := HLL.out; have := HTT.out; show _ ≤ _; omega
            clear he' hL' k0
            go_wp2_with (go_at_call 11; refine (P1.out _ HW.out).mono ?_; rintro r w1 ⟨rfl, hs1, hb1⟩; have d3' := oldCell hb1 HBB.out (Nat.le_refl _) HBL.out.size d3; have hblk1 := hb1.blk HBK.out (by omega); have q0 := Blk.cell hblk1 0 _ rfl; have q1 := Blk.cell hblk1 1 _ rfl)
            have HS1 := Lib.hid hs1
            have HK1 := Lib.hid hblk1
            have HB1 := Lib.hid (HBL.out.trans (hb1.below (B := w.heap.size) HBL.out.size (Nat.le_refl _)))
            clear hs1 hblk1 hb1 d0 d1 d2 d3 P1 HW HBL HBK HSZ HLL
            go_region_with (go_at_call 20; refine (P2.out _).mono ?_; rintro r w2 ⟨rfl, hb2⟩; have hk2 := HK1.out.drew.of_block (hb2.block _ HK1.out.lt); have q0' := Blk.cell hk2 0 _ rfl; have q1' := Blk.cell hk2 1 _ rfl; have f0' := Blk.frozen hk2 0; have f1' := Blk.frozen hk2 1)
            all_goals
              have HS2 := HS1.out.drew.below hb2
              have HS3 := Lib.hid ((HS2.setOther hk2 (by decide) (by omega) 0 (.string (str L'))).setOther (hk2.set 0 (.string (str L'))) (by decide) (by omega) 1 (.int .i64 e'))
              have HK3 : Hid (Blk ((w2.setCell ⟨w.heap.size + 1, 0, none⟩ (.string (str L'))).setCell ⟨w.heap.size + 1, 1, none⟩ (.int .i64 e')) (w.heap.size + 1) 45 [.string (str L'), .int .i64 e']) := (hk2.set 0 (.string (str L'))).set 1 (.int .i64 e')
              have HB3 := Lib.hid (((HB1.out.trans ((Below.refl _ _).drew.trans (hb2.mono HB1.out.size))).setCell (p := ⟨w.heap.size + 1, 0, none⟩) (by simp) (.string (str L'))).setCell (p := ⟨w.heap.size + 1, 1, none⟩) (by simp) (.int .i64 e'))
              generalize (w2.setCell ⟨w.heap.size + 1, 0, none⟩ (.string (str L'))).setCell ⟨w.heap.size + 1, 1, none⟩ (.int .i64 e') = W3 at *
              clear hk2 q0' q1' f0' f1' HS2 hb2 HS1 HK1 HB1 P2
              have r0 := Blk.cell HK3.out 0 _ rfl
              have r1 := Blk.cell HK3.out 1 _ rfl
              have PD : Hid (∀ W, WrS W w.heap.size e' L' → Calls Try.prog 12 #[.pointer (some ⟨w.heap.size, 0, none⟩)] W fun r w' => r = .returned (.tuple #[.string (outS e' L'), .int .i64 e']) ∧ Below W.heap.size W w') := fun W h => done_st _ _ _ _ h (by have := HLN.out; omega)
              have PR : Hid (∀ W, Calls Try.prog 21 #[.agg #[.string (str L'), .int .i64 e']] W fun r w' => r = .returned (.tuple #[.string (outS e' L'), .int .i64 e']) ∧ Below W.heap.size W w') := fun W => refDone_st _ _ W
              generalize outS e' L' = out at PD PR
              go_wp2_with (first | (go_at_call 12; refine (PD.out _ HS3.out).mono ?_; rintro r w4 ⟨rfl, hb4⟩; have q0 := Blk.cell (HK3.out.of_block (hb4.block _ HK3.out.lt)) 0 _ rfl; have q1 := Blk.cell (HK3.out.of_block (hb4.block _ HK3.out.lt)) 1 _ rfl) | (go_at_call 21; refine (PR.out _).mono ?_; rintro r w5 ⟨rfl, hb5⟩))
              go_roundw
              case rel =>
                have hb35 := hb4.trans (hb5.mono hb4.size)
                exact ⟨m + 1, e', L', by omega, by go_num, HS3.out.below hb35, HK3.out.of_block (hb35.block _ HK3.out.lt), HB3.out.trans (hb35.mono HB3.out.size), HLN.out⟩
              case measure => simp [intOf]; omega
          · have k0' : (ok == 0) = false := beq_eq_false_iff_ne.2 k0
            have k1' : (ok == 1) = false := beq_eq_false_iff_ne.2 k1
            clear k0 k1 d1 d2 d3
            have HS3 := HW
            have HK3 := HBK
            have HB3 := HBL
            have HLN : Hid (L.length ≤ 206 * (m + 1)) := by have := HLL.out; show _ ≤ _; omega
            clear HW HBK HBL
            have r0 := Blk.cell HK3.out 0 _ rfl
            have r1 := Blk.cell HK3.out 1 _ rfl
            have PD : Hid (∀ W, WrS W w.heap.size e L → Calls Try.prog 12 #[.pointer (some ⟨w.heap.size, 0, none⟩)] W fun r w' => r = .returned (.tuple #[.string (outS e L), .int .i64 e]) ∧ Below W.heap.size W w') := fun W h => done_st _ _ _ _ h (by have := HLN.out; omega)
            have PR : Hid (∀ W, Calls Try.prog 21 #[.agg #[.string (str L), .int .i64 e]] W fun r w' => r = .returned (.tuple #[.string (outS e L), .int .i64 e]) ∧ Below W.heap.size W w') := fun W => refDone_st _ _ W
            generalize outS e L = out at PD PR
            go_wp2_with (first | (go_at_call 12; refine (PD.out _ HS3.out).mono ?_; rintro r w4 ⟨rfl, hb4⟩; have q0 := Blk.cell (HK3.out.of_block (hb4.block _ HK3.out.lt)) 0 _ rfl; have q1 := Blk.cell (HK3.out.of_block (hb4.block _ HK3.out.lt)) 1 _ rfl) | (go_at_call 21; refine (PR.out _).mono ?_; rintro r w5 ⟨rfl, hb5⟩))
            go_roundw
            case rel =>
              have hb35 := hb4.trans (hb5.mono hb4.size)
              exact ⟨m + 1, e, L, by omega, by go_num, HS3.out.below hb35, HK3.out.of_block (hb35.block _ HK3.out.lt), HB3.out.trans (hb35.mono HB3.out.size), HLN.out⟩
            case measure => simp [intOf]; omega
      · obtain rfl : m = ops.length := by omega
        go_wp2_with (go_at_call 9; refine (HL.out _).mono ?_; rintro e w1 ⟨rfl, hb1⟩)
        go_returns
        exact ⟨rfl, HBL.out.trans (hb1.mono HBL.out.size)⟩

theorem wireWrites_walk0 (sa : Option Addr) (ops : List Opr) (c : Nat) (W : World) (h : OpsAt W sa ops) :
    Calls Try.prog 4 #[.slice sa ops.length c] W fun e W' => e = .returned (.bool true) ∧ Below W.heap.size W W' := writes_walk ops sa c W h
end Go.Proofs.Ytekdfcbkpljllaa
