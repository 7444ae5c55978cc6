/-
  THE WALK of the law WireScans: true, for every string and sequence of calls.
-/
import Derived.Test.YtekdfcbkpljllaaWrStep
import Derived.Test.YtekdfcbkpljllaaWrLives
import Derived.Deep.DeepCutAuto
namespace Go.Proofs.Ytekdfcbkpljllaa
open Go.RowKit Go.Wr

set_option maxRecDepth 100000 in
set_option maxHeartbeats 8000000 in
theorem scans_walk (s : ByteArray) (ops : List Opr) (sa : Option Addr) (c : Nat) (w : World) (h : OpsAt w sa ops) :
    Calls Try.prog 5 #[.string s, .slice sa ops.length c] w fun e w' => e = .returned (.bool true) ∧ Below w.heap.size w w' := by
  have HL : Hid (∀ w, Calls Try.prog 9 #[] w fun e w' => e = .returned (.bool true) ∧ Below w.heap.size w w') := lives_any
  have HO := Lib.hid h
  clear h
  have HFW : Hid (∀ W, OpsAt W sa ops → Calls Try.prog 8 #[.slice sa ops.length c] W fun e w' => e = .returned (.bool (fewB ops)) ∧ W = w') := fun W h => few_any ops sa c W h
  by_cases hgo : fewB ops = true ∧ s.size ≤ 1000
  · obtain ⟨hfew, hs⟩ := hgo
    have hs' : ¬ (1000 : Int) < s.size := by omega
    have hlen := fewB_len hfew
    rw [hfew] at HFW
    clear hfew hs
    go_enter Try.func5, Try.ntmps5
    go_wp2_with (first | (go_at_call 8; refine (HFW.out _ HO.out).mono ?_; rintro e w' ⟨rfl, rfl⟩) | fail)
    refine (new_any s _).mono ?_
    rintro x w1 ⟨rfl, hw⟩
    have hR1 : RdS w1 w.heap.size 0 s.data.toList := by rw [← hw]; exact ⟨s, Blk.new _ _ _ _ rfl, fun _ => rfl⟩
    have hB1 : Below w.heap.size w w1 := by rw [← hw]; exact (Below.refl _ _).alloc (Nat.le_refl _) _
    have hZ1 : w1.heap.size = w.heap.size + 1 := by rw [← hw]; simp
    have HR1 := Lib.hid hR1
    have HB1 := Lib.hid hB1
    have HZ1 := Lib.hid hZ1
    clear hw hR1 hB1 hZ1
    go_wp2_with fail
    have HR2 := Lib.hid (RdS.below HR1.out ((Below.refl _ _).alloc (Nat.le_refl _) (.cells #[.string s, .int .i64 0] 49)))
    have HM2 : Hid (Blk (w1.alloc (.cells #[.string s, .int .i64 0] 49)) (w.heap.size + 1) 49 [.string (str s.data.toList), .int .i64 0]) := Blk.new _ _ _ _ HZ1.out.symm
    have HB2 := Lib.hid (HB1.out.alloc (by have := HZ1.out; omega) (.cells #[.string s, .int .i64 0] 49))
    rw [HZ1.out]
    clear HR1 HB1 HZ1
    generalize w1.alloc (.cells #[.string s, .int .i64 0] 49) = w2 at *
    generalize s.data.toList = L0 at *
    go_loopw [7] (fun i wr => ∃ (m : Nat) (e : Int) (L : List UInt8), m ≤ ops.length ∧ i = .int .i64 m ∧ RdS wr w.heap.size e L ∧ Blk wr (w.heap.size + 1) 49 [.string (str L), .int .i64 e] ∧ Below w.heap.size w wr)
      (fun i _ => ops.length - (intOf i).toNat)
    case atStart => exact ⟨0, 0, L0, Nat.zero_le _, rfl, HR2.out, HM2.out, HB2.out⟩
    case round =>
      clear HR2 HM2 HB2
      obtain ⟨m, e, L, hm, rfl, hr, hblk, hb⟩ := hrel
      have HR := Lib.hid hr
      have HM := Lib.hid hblk
      have HB := Lib.hid hb
      clear hr hblk hb
      by_cases hlt : m < ops.length
      · obtain ⟨b, off, rfl, hbl, c0, c1, c2, c3, c4⟩ := HO.out m hlt
        have d0 := (HB.out.cell (p := ⟨b, off + m * 5, none⟩) hbl).trans c0
        have d1 := (HB.out.cell (p := ⟨b, off + m * 5 + 1, none⟩) hbl).trans c1
        have d2 := (HB.out.cell (p := ⟨b, off + m * 5 + 2, none⟩) hbl).trans c2
        have d3 := (HB.out.cell (p := ⟨b, off + m * 5 + 3, none⟩) hbl).trans c3
        have d4 := (HB.out.cell (p := ⟨b, off + m * 5 + 4, none⟩) hbl).trans c4
        have q0 := Blk.cell HM.out 0 _ rfl
        have q1 := Blk.cell HM.out 1 _ rfl
        clear c0 c1 c2 c3 c4
        have bw : ∀ C, Below wr.heap.size wr (wr.alloc C) := fun C => (Below.refl _ _).alloc (Nat.le_refl _) C
        have hbr : b < wr.heap.size := Nat.lt_of_lt_of_le hbl HB.out.size
        have a0 := fun C => ((bw C).cell (p := ⟨b, off + m * 5, none⟩) hbr).trans d0
        have a1 := fun C => ((bw C).cell (p := ⟨b, off + m * 5 + 1, none⟩) hbr).trans d1
        have a2 := fun C => ((bw C).cell (p := ⟨b, off + m * 5 + 2, none⟩) hbr).trans d2
        have a3 := fun C => ((bw C).cell (p := ⟨b, off + m * 5 + 3, none⟩) hbr).trans d3
        have a4 := fun C => ((bw C).cell (p := ⟨b, off + m * 5 + 4, none⟩) hbr).trans d4
        have g0 := fun C => ((bw C).cell (p := ⟨w.heap.size + 1, 0, none⟩) HM.out.lt).trans q0
        have g1 := fun C => ((bw C).cell (p := ⟨w.heap.size + 1, 1, none⟩) HM.out.lt).trans q1
        clear bw hbr hbl
        generalize ops[m] = o at *
        obtain ⟨e', L', hst⟩ := step_any w.heap.size e L o
        obtain ⟨ok, on, oz, ot, oe⟩ := o
        dsimp only at d0 d1 d2 d3 d4 a0 a1 a2 a3 a4
        unfold Opr.v at hst
        dsimp only at hst
        have ST := Lib.hid hst
        clear hst
        go_wp2
        have HRA : Hid (RdS (wr.alloc (.cells #[.string ⟨#[]⟩, .int .i64 0] 49)) w.heap.size e L) := HR.out.below ((Below.refl _ _).alloc (Nat.le_refl _) _)
        have HWS : Hid (w.heap.size + 1 < wr.heap.size) := HM.out.lt
        go_cut [8, 9] (fun s8 s9 wc => ∃ g8, s8 = .pointer (some ⟨g8, 0, none⟩) ∧ s9 = .bool true ∧ RdS wc w.heap.size e' L' ∧ Blk wc (w.heap.size + 1) 49 [.string (str L), .int .i64 e] ∧ Blk wc g8 49 [.string (str L'), .int .i64 e'] ∧ Below w.heap.size w wc)
        case first =>
          go_region_with (first
            | (go_at_call 22; refine (ST.out _ ?hw).mono ?_; (case hw => exact HR.out); rintro r w3 ⟨rfl, hr3, hb3⟩)
            | (go_at_call 22; refine (ST.out _ ?hw).mono ?_; (case hw => exact HRA.out); rintro r w3 ⟨rfl, hr3, hb3'⟩; have hn3 := hb3'.blk (g := wr.heap.size) (Blk.new wr _ 49 [.string ⟨#[]⟩, .int .i64 0] rfl).drew (by have := HWS.out; omega); have p0 := Blk.cell hn3 0 _ rfl; have p1 := Blk.cell hn3 1 _ rfl; have f0 := Blk.frozen hn3 0; have f1 := Blk.frozen hn3 1))
          all_goals (try go_wp2_with fail)
          all_goals go_meet
          all_goals first
            | (have hm3 := hb3.blk HM.out.drew (by omega)
               have HR4 := Lib.hid (hr3.below ((Below.refl _ _).alloc (Nat.le_refl _) (.cells #[.string (str L'), .int .i64 e'] 49)))
               have HM4 := Lib.hid (hm3.alloc (.cells #[.string (str L'), .int .i64 e'] 49))
               have HN4 := Lib.hid (Blk.new w3 _ 49 [.string (str L'), .int .i64 e'] rfl)
               have hb34 := HB.out.drew.trans (hb3.below (B := w.heap.size) HB.out.size (Nat.le_refl _))
               have HB4 := Lib.hid (hb34.alloc hb34.size (.cells #[.string (str L'), .int .i64 e'] 49))
               exact ⟨_, rfl, rfl, HR4.out, HM4.out, HN4.out, HB4.out⟩)
            | (have hm3 := hb3'.blk (HM.out.alloc (.cells #[.string ⟨#[]⟩, .int .i64 0] 49)).drew (by omega)
               have HR4 := Lib.hid (hr3.blk (w' := (w3.setCell ⟨wr.heap.size, 0, none⟩ (.string (str L'))).setCell ⟨wr.heap.size, 1, none⟩ (.int .i64 e')) (by have := HWS.out; rw [Below.heap_setCell _ _ _ _ (by simp; omega), Below.heap_setCell _ _ _ _ (by simp; omega)]))
               have HM4 := Lib.hid ((hm3.setOther (a := ⟨wr.heap.size, 0, none⟩) (by have := HWS.out; simp; omega) (.string (str L'))).setOther (a := ⟨wr.heap.size, 1, none⟩) (by have := HWS.out; simp; omega) (.int .i64 e'))
               have HN4 : Hid (Blk ((w3.setCell ⟨wr.heap.size, 0, none⟩ (.string (str L'))).setCell ⟨wr.heap.size, 1, none⟩ (.int .i64 e')) wr.heap.size 49 [.string (str L'), .int .i64 e']) := (hn3.set 0 (.string (str L'))).set 1 (.int .i64 e')
               have hb34 := (HB.out.alloc HB.out.size (.cells #[.string ⟨#[]⟩, .int .i64 0] 49)).drew.trans (hb3'.below (B := w.heap.size) (by have := HWS.out; simp; omega) (Nat.le_refl _))
               have HB4 := Lib.hid ((hb34.setCell (p := ⟨wr.heap.size, 0, none⟩) (by have := HWS.out; simp; omega) (.string (str L'))).setCell (p := ⟨wr.heap.size, 1, none⟩) (by have := HWS.out; simp; omega) (.int .i64 e'))
               exact ⟨_, rfl, rfl, HR4.out, HM4.out, HN4.out, HB4.out⟩)
        case rest =>
          obtain ⟨g8, rfl, rfl, hr4, hm4, hn4, hb4⟩ := hcut
          have HR4 := Lib.hid hr4
          have HM4 := Lib.hid hm4
          have HN4 := Lib.hid hn4
          have HB4 := Lib.hid hb4
          clear hr4 hm4 hn4 hb4 q0 q1 d0 d1 d2 d3 d4 a0 a1 a2 a3 a4 g0 g1 ST
          have p0 := Blk.cell HN4.out 0 _ rfl
          have p1 := Blk.cell HN4.out 1 _ rfl
          have q0 := Blk.cell HM4.out 0 _ rfl
          have q1 := Blk.cell HM4.out 1 _ rfl
          have f0 := Blk.frozen HM4.out 0
          have f1 := Blk.frozen HM4.out 1
          go_wp2
          have hr5 : RdS ((wc.setCell ⟨w.heap.size + 1, 0, none⟩ (.string (str L'))).setCell ⟨w.heap.size + 1, 1, none⟩ (.int .i64 e')) w.heap.size e' L' := HR4.out.blk (by rw [Below.heap_setCell _ _ _ _ (by simp), Below.heap_setCell _ _ _ _ (by simp)])
          have hm5 : Blk ((wc.setCell ⟨w.heap.size + 1, 0, none⟩ (.string (str L'))).setCell ⟨w.heap.size + 1, 1, none⟩ (.int .i64 e')) (w.heap.size + 1) 49 [.string (str L'), .int .i64 e'] := (HM4.out.set 0 (.string (str L'))).set 1 (.int .i64 e')
          have hb5 : Below w.heap.size w ((wc.setCell ⟨w.heap.size + 1, 0, none⟩ (.string (str L'))).setCell ⟨w.heap.size + 1, 1, none⟩ (.int .i64 e')) := (HB4.out.setCell (p := ⟨w.heap.size + 1, 0, none⟩) (by simp) _).setCell (p := ⟨w.heap.size + 1, 1, none⟩) (by simp) _
          generalize (wc.setCell ⟨w.heap.size + 1, 0, none⟩ (.string (str L'))).setCell ⟨w.heap.size + 1, 1, none⟩ (.int .i64 e') = W5 at *
          have HR5 := Lib.hid hr5
          have HM5 := Lib.hid hm5
          have HB5 := Lib.hid hb5
          clear hr5 hm5 hb5 p0 p1 q0 q1 f0 f1 HR4 HM4 HN4 HB4
          have q0 := Blk.cell HM5.out 0 _ rfl
          have q1 := Blk.cell HM5.out 1 _ rfl
          have PL : Hid (∀ W, RdS W w.heap.size e' L' → Calls Try.prog 16 #[.pointer (some ⟨w.heap.size, 0, none⟩)] W fun r w' => r = .returned (.int .i64 (lf e' L')) ∧ W = w') := fun W h => left_st _ _ _ W h
          have PE : Hid (∀ W, RdS W w.heap.size e' L' → Calls Try.prog 17 #[.pointer (some ⟨w.heap.size, 0, none⟩)] W fun r w' => r = .returned (.int .i64 e') ∧ W = w') := fun W h => err_st _ _ _ W h
          have PN : Hid (∀ W, RdS W w.heap.size e' L' → Calls Try.prog 18 #[.pointer (some ⟨w.heap.size, 0, none⟩)] W fun r w' => r = .returned (.int .i64 (en e' L')) ∧ W = w') := fun W h => end_st _ _ _ W h
          have QL : Hid (∀ W, Calls Try.prog 23 #[.agg #[.string (str L'), .int .i64 e']] W fun r w' => r = .returned (.int .i64 (lf e' L')) ∧ Below W.heap.size W w') := fun W => refLeft_st _ _ W
          have QN : Hid (∀ W, Calls Try.prog 24 #[.agg #[.string (str L'), .int .i64 e']] W fun r w' => r = .returned (.int .i64 (en e' L')) ∧ Below W.heap.size W w') := fun W => refEnd_st _ _ W
          generalize lf e' L' = vl at PL QL
          generalize en e' L' = vn at PN QN
          go_cut [64] (fun v wx => v = .bool false ∧ RdS wx w.heap.size e' L' ∧ Blk wx (w.heap.size + 1) 49 [.string (str L'), .int .i64 e'] ∧ Below w.heap.size w wx)
          case first =>
            go_region_with (first
              | (go_at_call 16; refine (PL.out _ ?hw).mono ?_; (case hw => exact HR5.out); rintro r w' ⟨rfl, rfl⟩)
              | (go_at_call 23; refine (QL.out _).mono ?_; rintro r wa ⟨rfl, hba⟩; have hra : RdS wa w.heap.size e' L' := RdS.below (w := W5) HR5.out ⟨hba.os, hba.tape, hba.output, hba.size, hba.block⟩; have hma : Blk wa (w.heap.size + 1) 49 [.string (str L'), .int .i64 e'] := Blk.of_block (w := W5) HM5.out (hba.block _ HM5.out.lt); have y0 := Blk.cell hma 0 _ rfl; have y1 := Blk.cell hma 1 _ rfl)
              | (go_at_call 17; refine (PE.out _ ?hw).mono ?_; (case hw => exact hra); rintro r w' ⟨rfl, rfl⟩)
              | (go_at_call 18; refine (PN.out _ ?hw).mono ?_; (case hw => exact hra); rintro r w' ⟨rfl, rfl⟩)
              | (go_at_call 24; refine (QN.out _).mono ?_; rintro r wb ⟨rfl, hbb⟩))
            all_goals (try go_wp2_with fail)
            all_goals go_meet
            all_goals exact ⟨rfl, RdS.below hra hbb, hma.of_block (hbb.block _ hma.lt), (HB5.out.trans (show Below w.heap.size W5 wa from ⟨hba.os, hba.tape, hba.output, hba.size, fun k hk => hba.block k (by have := HM5.out.lt; show k < W5.heap.size; omega)⟩)).trans (hbb.mono (by have := hma.lt; omega))⟩
          case rest =>
            obtain ⟨rfl, hr6, hm6, hb6⟩ := hcut
            have HX := Lib.hid (And.intro hr6 (And.intro hm6 hb6))
            clear hr6 hm6 hb6
            go_wp2
            go_roundw
            case rel => exact ⟨m + 1, e', L', by omega, by go_num, HX.out.1, HX.out.2.1, HX.out.2.2⟩
            case measure => simp [intOf]; omega
      · obtain rfl : m = ops.length := by omega
        go_wp2_with (go_at_call 9; refine (HL.out _).mono ?_; rintro e w1 ⟨rfl, hb1⟩)
        go_returns
        exact ⟨rfl, HB.out.trans (hb1.mono HB.out.size)⟩
  · go_enter Try.func5, Try.ntmps5
    rcases (by
      by_cases h1 : fewB ops = true
      · by_cases h2 : s.size ≤ 1000
        · exact absurd ⟨h1, h2⟩ hgo
        · exact .inr ⟨h1, by omega⟩
      · exact .inl (by simpa using h1) : fewB ops = false ∨ (fewB ops = true ∧ (1000 : Int) < s.size)) with hf | ⟨hf, hs⟩
    all_goals
      rw [hf] at HFW
      clear hgo hf
      go_wp2_with (first | (go_at_call 8; refine (HFW.out _ HO.out).mono ?_; rintro e w' ⟨rfl, rfl⟩) | (go_at_call 9; refine (HL.out _).mono ?_; rintro e w1 ⟨rfl, hb1⟩))
      go_returns
      exact ⟨rfl, hb1⟩

theorem wireScans_walk0 (s : ByteArray) (_ : s.size ≤ 140737488351232) (sa : Option Addr) (ops : List Opr) (c : Nat) (W : World) (h : OpsAt W sa ops) :
    Calls Try.prog 5 #[.string s, .slice sa ops.length c] W fun e W' => e = .returned (.bool true) ∧ Below W.heap.size W W' := scans_walk s ops sa c W h
end Go.Proofs.Ytekdfcbkpljllaa
