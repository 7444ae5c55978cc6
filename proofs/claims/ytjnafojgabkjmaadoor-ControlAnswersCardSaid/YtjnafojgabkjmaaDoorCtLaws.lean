/-
  THE LAWS of layer 11: ControlFrames, ControlResponds, ControlBlocks, ControlReads.
-/
import Derived.Test.YtjnafojgabkjmaaDoorCtLives
import Derived.Test.YtjnafojgabkjmaaDoorCtRef4
namespace Go.Proofs.YtjnafojgabkjmaaDoor
open Go.RowKit Go.Hd Go.Wr Go.Ct
attribute [local go_sem ↓ high] Fr_.loadF Fr_.storeF Fr_.v_cells Fr_.v_match fr_guard fr_eql
attribute [local go_sem] Fr_.C0 Fr_.C1 Fr_.C2 Fr_.C3 Fr_.C4 Fr_.C5 Fr_.C6 Fr_.C7 Fr_.C8 Fr_.C9 Fr_.C10 Fr_.C11 Fr_.C12 Fr_.C13 Fr_.C14 Fr_.C15 Fr_.C16 Fr_.C17 Fr_.loadF_new Fr_.storeF_zero

abbrev LaidFacts (W : World) : Prop := Tabs W
theorem laidFacts {W : World} (h : laidMetH Tryd.prog Rows.controlFramesRow.laid W) : LaidFacts W := by
  rw [MakeChecks.laidMetH_plain _ _ _ (by kernel_rfl)] at h
  exact ⟨tab_of_laid (laidMet.tail h), bits_of_laid h⟩

/-- What came in as a frame. -/
def FrWf (x : Fr) : Prop := (Lit.int .i64 x.kd).wf = true ∧ (Lit.int .i64 x.po).wf = true ∧ (Lit.int .i64 x.du).wf = true ∧ (Lit.int .u64 x.ta).wf = true ∧ (Lit.int .u64 x.fa).wf = true ∧ (Lit.int .u64 x.th).wf = true ∧ (Lit.int .i64 x.sq).wf = true ∧ (Lit.int .i64 x.fg).wf = true ∧ (Lit.int .i64 x.ct).wf = true ∧ (Lit.int .i64 x.ky).wf = true ∧ (Lit.int .i64 x.cn).wf = true
theorem u64_wf {a : Int} (h : (Lit.int .u64 a).wf = true) : u64 a := by
  simp [Lit.wf, IntKind.min, IntKind.max, IntKind.signed, IntKind.bits] at h
  exact ⟨by omega, by omega⟩
theorem fru_wf {x : Fr} (h : FrWf x) : FrU x := ⟨u64_wf h.2.2.2.1, u64_wf h.2.2.2.2.1, u64_wf h.2.2.2.2.2.1⟩

set_option maxRecDepth 100000 in
set_option maxHeartbeats 4000000 in
theorem controlFrames_walk0 (ta : Int) (_ : (Lit.int .u64 ta).wf = true) (fa : Int) (_ : (Lit.int .u64 fa).wf = true) (c : Int) (hc : (Lit.int .i64 c).wf = true) (s : Int) (hs : (Lit.int .i64 s).wf = true) (W : World) (hl : LaidFacts W) :
    Calls Tryd.prog 4 #[.int .u64 ta, .int .u64 fa, .int .i64 c, .int .i64 s] W fun e w' => e = .returned (.bool true) ∧ Below W.heap.size W w' := by
  have HT : Hid (∀ w', Below W.heap.size W w' → Tabs w') := fun w' hb => hl.below hb (Nat.le_refl _)
  have HB : Hid (∀ w' w'', Below W.heap.size W w' → Below w'.heap.size w' w'' → Below W.heap.size W w'') := fun w' w'' h hb => h.trans (hb.mono h.size)
  have B0 : Hid (Below W.heap.size W W) := Below.refl _ _
  have R1 := Lib.hid (fun w => respond_any c s w hc hs)
  have R2 := Lib.hid (fun w => refRespond_any c s w hc hs)
  clear hl hc hs
  go_enter Tryd.func4, Tryd.ntmps4
  go_wp2_with (first
    | (go_at_call 10; refine (rts_any ta fa c _).mono ?_; rintro e w1 ⟨rfl, hb⟩; have B1 := Lib.hid (HB.out _ _ B0.out hb); clear hb)
    | (go_at_call 17; refine (refRTS_any ta fa c _).mono ?_; rintro e w2 ⟨rfl, hb⟩; have B2 := Lib.hid (HB.out _ _ B1.out hb); clear hb)
    | (go_at_call 18; refine (poll_any ta fa _).mono ?_; rintro e w3 ⟨rfl, hb⟩; have B3 := Lib.hid (HB.out _ _ B2.out hb); clear hb)
    | (go_at_call 19; refine (refPoll_any ta fa _).mono ?_; rintro e w4 ⟨rfl, hb⟩; have B4 := Lib.hid (HB.out _ _ B3.out hb); clear hb)
    | (go_at_call 13; refine (request_any ta fa c s _).mono ?_; rintro e w5 ⟨rfl, hb⟩; have B5 := Lib.hid (HB.out _ _ B4.out hb); clear hb)
    | (go_at_call 20; refine (refRequest_any ta fa c s _).mono ?_; rintro e w6 ⟨rfl, hb⟩; have B6 := Lib.hid (HB.out _ _ B5.out hb); clear hb)
    | (go_at_call 21; refine (R1.out _).mono ?_; rintro e w' ⟨rfl, rfl⟩)
    | (go_at_call 22; refine (R2.out _).mono ?_; rintro e w' ⟨rfl, rfl⟩)
    | (go_at_call 9; refine (lives11_any _ (HT.out _ B6.out)).mono ?_; rintro e w7 ⟨rfl, hb⟩; have B7 := Lib.hid (HB.out _ _ B6.out hb); clear hb))
  go_returns
  exact ⟨rfl, B7.out⟩

set_option maxHeartbeats 1000000 in
theorem short_any (f : Fr) (w : World) :
    Calls Tryd.prog 23 #[Fr_.v f] w fun e w' => e = .returned (.bool (decide ((f.bo.size : Int) ≤ 3000))) ∧ Below w.heap.size w w' := by
  have S1 := Lib.hid (Stf.new w f)
  have e1 := S1.out.box.all
  go_enter Tryd.func23, Tryd.ntmps23
  go_wp2
  go_returns
  exact ⟨rfl, S1.out.bel⟩

set_option maxRecDepth 100000 in
set_option maxHeartbeats 4000000 in
theorem controlResponds_walk0 (f : Fr) (hw : FrWf f) (W : World) (hl : LaidFacts W) :
    Calls Tryd.prog 5 #[Fr_.v f] W fun e w' => e = .returned (.bool true) ∧ Below W.heap.size W w' := by
  have HT : Hid (∀ w', Below W.heap.size W w' → Tabs w') := fun w' hb => hl.below hb (Nat.le_refl _)
  have HU := Lib.hid (fru_wf hw)
  have HD := Lib.hid hw.2.2.1
  obtain ⟨w1, hw1⟩ : ∃ w1, W.alloc (.cells (Fr_.C f) 27) = w1 := ⟨_, rfl⟩
  have S1 := Lib.hid (show Stf W W.heap.size f w1 from hw1 ▸ Stf.new W f)
  have l1 := S1.out.box.loadF
  have CS := Lib.hid (short_any f)
  clear hw hl
  by_cases hs : (f.bo.size : Int) ≤ 3000
  · rw [decide_eq_true hs] at CS
    clear hs
    generalize hx : ctsF f = x
    generalize hy : ackF f = y
    have C1 : Hid (∀ w', Below W.heap.size W w' → Calls Tryd.prog 11 #[Fr_.v f] w' fun e w'' => e = .returned (.tuple #[Fr_.v x, .bool (decide (okC f))]) ∧ Below w'.heap.size w' w'') := fun w' hb => hx ▸ cts_any f w' (HT.out w' hb).hd (HT.out w' hb).ph HU.out HD.out
    have C2 : Hid (∀ w', Calls Tryd.prog 24 #[Fr_.v f] w' fun e w'' => e = .returned (.tuple #[Fr_.v x, .bool (decide (okC f))]) ∧ Below w'.heap.size w' w'') := fun w' => hx ▸ refCTS_any f w' HU.out HD.out
    have C3 : Hid (∀ w', Below W.heap.size W w' → Calls Tryd.prog 25 #[Fr_.v f] w' fun e w'' => e = .returned (.tuple #[Fr_.v y, .bool (decide (okA f))]) ∧ Below w'.heap.size w' w'') := fun w' hb => hy ▸ ack_any f w' (HT.out w' hb).hd (HT.out w' hb).ph HU.out HD.out
    have C4 : Hid (∀ w', Calls Tryd.prog 26 #[Fr_.v f] w' fun e w'' => e = .returned (.tuple #[Fr_.v y, .bool (decide (okA f))]) ∧ Below w'.heap.size w' w'') := fun w' => hy ▸ refAck_any f w' HU.out HD.out
    generalize decide (okC f) = b1 at *
    generalize decide (okA f) = b2 at *
    clear hx hy HU HD
    go_enter Tryd.func5, Tryd.ntmps5
    go_wp2_with (first
      | (go_at_call 23; refine (CS.out _).mono ?_; rintro e w2 ⟨rfl, hb⟩; have S2 := Lib.hid (Stf.keep _ _ S1.out hb); clear hb l1; have l2 := S2.out.box.loadF)
      | (go_at_call 11; refine (C1.out _ S2.out.bel).mono ?_; rintro e w3 ⟨rfl, hb⟩; have S3 := Lib.hid (Stf.keep _ _ S2.out hb); clear hb l2
         obtain ⟨w4, hw4⟩ : ∃ w4, w3.alloc (.cells (Fr_.C x) 27) = w4 := ⟨_, rfl⟩
         have S4 := Lib.hid (show Stf W W.heap.size f w4 from hw4 ▸ Stf.keep _ _ S3.out ((Below.refl _ _).alloc (Nat.le_refl _) _))
         have X4 := Lib.hid (show Fr_.Box w4 w3.heap.size x from hw4 ▸ Fr_.Box.newC w3 x)
         have l4 := S4.out.box.loadF)
      | (go_at_call 24; refine (C2.out _).mono ?_; rintro e w5 ⟨rfl, hb⟩; have S5 := Lib.hid (Stf.keep _ _ S4.out hb); have X5 := Lib.hid (X4.out.below hb X4.out.lt); clear hb l4
         obtain ⟨w6, hw6⟩ : ∃ w6, w5.alloc (.cells (Fr_.C x) 27) = w6 := ⟨_, rfl⟩
         have S6 := Lib.hid (show Stf W W.heap.size f w6 from hw6 ▸ Stf.keep _ _ S5.out ((Below.refl _ _).alloc (Nat.le_refl _) _))
         have X6 := Lib.hid (show Fr_.Box w6 w3.heap.size x from hw6 ▸ X5.out.allocC _)
         have Y6 := Lib.hid (show Fr_.Box w6 w5.heap.size x from hw6 ▸ Fr_.Box.newC w5 x)
         have l6 := S6.out.box.loadF)
      | (go_at_call 25; refine (C3.out _ S6.out.bel).mono ?_; rintro e w7 ⟨rfl, hb⟩; have S7 := Lib.hid (Stf.keep _ _ S6.out hb); have X7 := Lib.hid (X6.out.below hb X6.out.lt); have Y7 := Lib.hid (Y6.out.below hb Y6.out.lt); clear hb l6
         obtain ⟨w8, hw8⟩ : ∃ w8, w7.alloc (.cells (Fr_.C y) 27) = w8 := ⟨_, rfl⟩
         have S8 := Lib.hid (show Stf W W.heap.size f w8 from hw8 ▸ Stf.keep _ _ S7.out ((Below.refl _ _).alloc (Nat.le_refl _) _))
         have X8 := Lib.hid (show Fr_.Box w8 w3.heap.size x from hw8 ▸ X7.out.allocC _)
         have Y8 := Lib.hid (show Fr_.Box w8 w5.heap.size x from hw8 ▸ Y7.out.allocC _)
         have Z8 := Lib.hid (show Fr_.Box w8 w7.heap.size y from hw8 ▸ Fr_.Box.newC w7 y)
         have l8 := S8.out.box.loadF)
      | (go_at_call 26; refine (C4.out _).mono ?_; rintro e w9 ⟨rfl, hb⟩; have S9 := Lib.hid (Stf.keep _ _ S8.out hb); have X9 := Lib.hid (X8.out.below hb X8.out.lt); have Y9 := Lib.hid (Y8.out.below hb Y8.out.lt); have Z9 := Lib.hid (Z8.out.below hb Z8.out.lt); clear hb l8
         obtain ⟨w10, hw10⟩ : ∃ w10, w9.alloc (.cells (Fr_.C y) 27) = w10 := ⟨_, rfl⟩
         have S10 := Lib.hid (show Stf W W.heap.size f w10 from hw10 ▸ Stf.keep _ _ S9.out ((Below.refl _ _).alloc (Nat.le_refl _) _))
         have g1 := (show Fr_.Box w10 w3.heap.size x from hw10 ▸ X9.out.allocC _).loadF
         have g2 := (show Fr_.Box w10 w5.heap.size x from hw10 ▸ Y9.out.allocC _).loadF
         have g3 := (show Fr_.Box w10 w7.heap.size y from hw10 ▸ Z9.out.allocC _).loadF
         have g4 := (show Fr_.Box w10 w9.heap.size y from hw10 ▸ Fr_.Box.newC w9 y).loadF)
      | (go_at_call 9; refine (lives11_any _ (HT.out _ S10.out.bel)).mono ?_; rintro e w11 ⟨rfl, hb⟩; have S11 := Lib.hid (Stf.keep _ _ S10.out hb); clear hb))
    go_returns
    exact ⟨rfl, S11.out.bel⟩
  · rw [decide_eq_false hs] at CS
    clear hs
    go_enter Tryd.func5, Tryd.ntmps5
    go_wp2_with (first
      | (go_at_call 23; refine (CS.out _).mono ?_; rintro e w2 ⟨rfl, hb⟩; have S2 := Lib.hid (Stf.keep _ _ S1.out hb); clear hb l1)
      | (go_at_call 9; refine (lives11_any _ (HT.out _ S2.out.bel)).mono ?_; rintro e w3 ⟨rfl, hb⟩; have S3 := Lib.hid (Stf.keep _ _ S2.out hb); clear hb))
    go_returns
    exact ⟨rfl, S3.out.bel⟩
end Go.Proofs.YtjnafojgabkjmaaDoor
