/-
  THE LAWS of layer 11: ControlBlocks, ControlReads.
-/
import Derived.Test.YtjnafojgabkjmaaDoorCtLaws
namespace Go.Proofs.YtjnafojgabkjmaaDoor
open Go.RowKit Go.Hd Go.Wr Go.Ct
attribute [local go_sem ↓ high] Fr_.loadF Fr_.storeF Fr_.v_cells Fr_.v_match fr_guard fr_eql
attribute [local go_sem] Fr_.C0 Fr_.C1 Fr_.C2 Fr_.C3 Fr_.C4 Fr_.C5 Fr_.C6 Fr_.C7 Fr_.C8 Fr_.C9 Fr_.C10 Fr_.C11 Fr_.C12 Fr_.C13 Fr_.C14 Fr_.C15 Fr_.C16 Fr_.C17 Fr_.loadF_new Fr_.storeF_zero

set_option maxRecDepth 100000 in
set_option maxHeartbeats 4000000 in
theorem controlBlocks_walk0 (f : Fr) (hw : FrWf f) (c : Int) (_ : (Lit.int .i64 c).wf = true) (s : Int) (_ : (Lit.int .i64 s).wf = true) (m : Int) (hm : (Lit.int .u64 m).wf = true) (W : World) (hl : LaidFacts W) :
    Calls Tryd.prog 6 #[Fr_.v f, .int .i64 c, .int .i64 s, .int .u64 m] W fun e w' => e = .returned (.bool true) ∧ Below W.heap.size W w' := by
  obtain ⟨n, rfl⟩ : ∃ n : Nat, m = n := ⟨m.toNat, by have := (u64_wf hm).1; omega⟩
  have hn : n < 18446744073709551616 := by have := (u64_wf hm).2; omega
  have HT : Hid (∀ w', Below W.heap.size W w' → Tabs w') := fun w' hb => hl.below hb (Nat.le_refl _)
  have HU := Lib.hid (fru_wf hw)
  obtain ⟨w1, hw1⟩ : ∃ w1, W.alloc (.cells (Fr_.C f) 27) = w1 := ⟨_, rfl⟩
  have S1 := Lib.hid (show Stf W W.heap.size f w1 from hw1 ▸ Stf.new W f)
  have l1 := S1.out.box.loadF
  have CS := Lib.hid (short_any f)
  by_cases hs : (f.bo.size : Int) ≤ 3000
  · rw [decide_eq_true hs] at CS
    generalize hx : blkF f c s n = x
    have C1 : Hid (∀ w', Below W.heap.size W w' → Calls Tryd.prog 14 #[Fr_.v f, .int .i64 c, .int .i64 s, .int .u64 (n : Int)] w' fun e w'' => e = .returned (.tuple #[Fr_.v x, .bool (decide (okB f c s))]) ∧ Below w'.heap.size w' w'') := fun w' hb => hx ▸ block_any f c s n hn w' (HT.out w' hb).hd HU.out
    have C2 : Hid (∀ w', Calls Tryd.prog 27 #[Fr_.v f, .int .i64 c, .int .i64 s, .int .u64 (n : Int)] w' fun e w'' => e = .returned (.tuple #[Fr_.v x, .bool (decide (okB f c s))]) ∧ Below w'.heap.size w' w'') := fun w' => hx ▸ refBlock_any f c s n hn w' HU.out
    generalize decide (okB f c s) = b1 at *
    clear hx HU hw hl hs hn hm
    generalize (n : Int) = m at *
    go_enter Tryd.func6, Tryd.ntmps6
    go_wp2_with (first
      | (go_at_call 23; refine (CS.out _).mono ?_; rintro e w2 ⟨rfl, hb⟩; have S2 := Lib.hid (Stf.keep _ _ S1.out hb); clear hb l1; have l2 := S2.out.box.loadF)
      | (go_at_call 14; refine (C1.out _ S2.out.bel).mono ?_; rintro e w3 ⟨rfl, hb⟩; have S3 := Lib.hid (Stf.keep _ _ S2.out hb); clear hb l2
         obtain ⟨w4, hw4⟩ : ∃ w4, w3.alloc (.cells (Fr_.C x) 27) = w4 := ⟨_, rfl⟩
         have S4 := Lib.hid (show Stf W W.heap.size f w4 from hw4 ▸ Stf.keep _ _ S3.out ((Below.refl _ _).alloc (Nat.le_refl _) _))
         have X4 := Lib.hid (show Fr_.Box w4 w3.heap.size x from hw4 ▸ Fr_.Box.newC w3 x)
         have l4 := S4.out.box.loadF)
      | (go_at_call 27; refine (C2.out _).mono ?_; rintro e w5 ⟨rfl, hb⟩; have S5 := Lib.hid (Stf.keep _ _ S4.out hb); have X5 := Lib.hid (X4.out.below hb X4.out.lt); clear hb l4
         obtain ⟨w6, hw6⟩ : ∃ w6, w5.alloc (.cells (Fr_.C x) 27) = w6 := ⟨_, rfl⟩
         have S6 := Lib.hid (show Stf W W.heap.size f w6 from hw6 ▸ Stf.keep _ _ S5.out ((Below.refl _ _).alloc (Nat.le_refl _) _))
         have g1 := (show Fr_.Box w6 w3.heap.size x from hw6 ▸ X5.out.allocC _).loadF
         have g2 := (show Fr_.Box w6 w5.heap.size x from hw6 ▸ Fr_.Box.newC w5 x).loadF)
      | (go_at_call 9; refine (lives11_any _ (HT.out _ S6.out.bel)).mono ?_; rintro e w11 ⟨rfl, hb⟩; have S11 := Lib.hid (Stf.keep _ _ S6.out hb); clear hb))
    go_returns
    exact ⟨rfl, S11.out.bel⟩
  · rw [decide_eq_false hs] at CS
    clear hs hw hl hn hm
    generalize (n : Int) = m at *
    go_enter Tryd.func6, Tryd.ntmps6
    go_wp2_with (first
      | (go_at_call 23; refine (CS.out _).mono ?_; rintro e w2 ⟨rfl, hb⟩; have S2 := Lib.hid (Stf.keep _ _ S1.out hb); clear hb l1)
      | (go_at_call 9; refine (lives11_any _ (HT.out _ S2.out.bel)).mono ?_; rintro e w3 ⟨rfl, hb⟩; have S3 := Lib.hid (Stf.keep _ _ S2.out hb); clear hb))
    go_returns
    exact ⟨rfl, S3.out.bel⟩

set_option maxRecDepth 100000 in
set_option maxHeartbeats 4000000 in
theorem controlReads_walk0 (f : Fr) (_ : FrWf f) (W : World) (hl : LaidFacts W) :
    Calls Tryd.prog 7 #[Fr_.v f] W fun e w' => e = .returned (.bool true) ∧ Below W.heap.size W w' := by
  have HT : Hid (∀ w', Below W.heap.size W w' → Tabs w') := fun w' hb => hl.below hb (Nat.le_refl _)
  obtain ⟨w1, hw1⟩ : ∃ w1, W.alloc (.cells (Fr_.C f) 27) = w1 := ⟨_, rfl⟩
  have S1 := Lib.hid (show Stf W W.heap.size f w1 from hw1 ▸ Stf.new W f)
  have l1 := S1.out.box.loadF
  have CS := Lib.hid (short_any f)
  clear hl
  by_cases hs : (f.bo.size : Int) ≤ 3000
  · rw [decide_eq_true hs] at CS
    have C1 := Lib.hid (readRequest_any f)
    have C2 := Lib.hid (refReadRequest_any f)
    have C3 := Lib.hid (readBlock_any f)
    have C4 := Lib.hid (refReadBlock_any f)
    generalize rdC f 15 3 = x1 at *
    generalize rdS f 15 3 = x2 at *
    generalize rdE f 15 3 = x3 at *
    generalize rdC f 16 11 = y1 at *
    generalize rdS f 16 11 = y2 at *
    generalize rdE f 16 11 = y3 at *
    generalize (rdM f : Int) = y4 at *
    clear hs
    go_enter Tryd.func7, Tryd.ntmps7
    go_wp2_with (first
      | (go_at_call 23; refine (CS.out _).mono ?_; rintro e w2 ⟨rfl, hb⟩; have S2 := Lib.hid (Stf.keep _ _ S1.out hb); clear hb l1; have l2 := S2.out.box.loadF)
      | (go_at_call 15; refine (C1.out _).mono ?_; rintro e w3 ⟨rfl, hb⟩; have S3 := Lib.hid (Stf.keep _ _ S2.out hb); clear hb l2; have l3 := S3.out.box.loadF)
      | (go_at_call 28; refine (C2.out _).mono ?_; rintro e w4 ⟨rfl, hb⟩; have S4 := Lib.hid (Stf.keep _ _ S3.out hb); clear hb l3; have l4 := S4.out.box.loadF)
      | (go_at_call 16; refine (C3.out _).mono ?_; rintro e w5 ⟨rfl, hb⟩; have S5 := Lib.hid (Stf.keep _ _ S4.out hb); clear hb l4; have l5 := S5.out.box.loadF)
      | (go_at_call 29; refine (C4.out _).mono ?_; rintro e w6 ⟨rfl, hb⟩; have S6 := Lib.hid (Stf.keep _ _ S5.out hb); clear hb l5)
      | (go_at_call 9; refine (lives11_any _ (HT.out _ S6.out.bel)).mono ?_; rintro e w7 ⟨rfl, hb⟩; have S7 := Lib.hid (Stf.keep _ _ S6.out hb); clear hb))
    go_returns
    exact ⟨rfl, S7.out.bel⟩
  · rw [decide_eq_false hs] at CS
    clear hs
    go_enter Tryd.func7, Tryd.ntmps7
    go_wp2_with (first
      | (go_at_call 23; refine (CS.out _).mono ?_; rintro e w2 ⟨rfl, hb⟩; have S2 := Lib.hid (Stf.keep _ _ S1.out hb); clear hb l1)
      | (go_at_call 9; refine (lives11_any _ (HT.out _ S2.out.bel)).mono ?_; rintro e w3 ⟨rfl, hb⟩; have S3 := Lib.hid (Stf.keep _ _ S2.out hb); clear hb))
    go_returns
    exact ⟨rfl, S3.out.bel⟩
end Go.Proofs.YtjnafojgabkjmaaDoor
