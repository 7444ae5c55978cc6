/-
  THE LAWS TrainFills, TrainDecodes, TrainEncodes, walked.
-/
import Derived.Test.YtoobajcpfonllaaDoorTnLives2
namespace Go.Proofs.YtoobajcpfonllaaDoor
open Go.RowKit Go.Tn Go.Wr Go.Ck

set_option maxRecDepth 100000 in
set_option maxHeartbeats 4000000 in
theorem trainFills_walk0 (l : List Int) (sa : Option Addr) (c : Nat) {W : World} (h : Is_.Sl W sa l c) (hl : l.length ≤ maxLen) (_ : ∀ x ∈ l, (Lit.int .i64 x).wf = true) (o : Int) (_ : (Lit.int .i64 o).wf = true) (_W : World) (hL : LaidFacts W) :
    Calls Tryd.prog 7 #[.slice sa l.length c, .int .i64 o] W fun e w' => e = .returned (.bool true) ∧ Below W.heap.size W w' := by
  have AW := Lib.hid lives17_any
  have HT := Lib.hid hL
  by_cases h100 : (100 : Int) < (l.length : Int)
  · clear hl h
    go_enter Tryd.func7, Tryd.ntmps7
    go_wp2_with (go_at_call 9; refine (AW.out _ HT.out).mono ?_; rintro e w1 ⟨rfl, hb1⟩)
    go_returns
    exact ⟨rfl, hb1⟩
  have H := Lib.hid h
  have C1 := Lib.hid (tnFill_any l sa c o W h hl)
  have C2 := Lib.hid (r17Fill_any l sa c o W h (by omega))
  have C3 := Lib.hid fun w h => tnLength_any l sa c w h hl
  have C4 := Lib.hid fun w h => r17Length_any l sa c w h hl
  unfold LnPost at C4
  generalize fl l o = f at *
  generalize lnI l = n at *
  clear h hl hL
  go_enter Tryd.func7, Tryd.ntmps7
  go_wp2_with (first
    | (go_at_call 19; refine C1.out.mono ?_; rintro e w' ⟨rfl, rfl⟩)
    | (go_at_call 20; refine C2.out.mono ?_; rintro e w2 ⟨rfl, h⟩; have H2 := Lib.hid (H.out.below h); have B2 := Lib.hid h; clear h)
    | (go_at_call 15; refine (C3.out _ H2.out.lies).mono ?_; rintro e w' ⟨rfl, rfl⟩)
    | (go_at_call 11; refine (C4.out _ H2.out.lies).mono ?_; rintro e w3 ⟨rfl, h⟩; have B3 := Lib.hid (B2.out.trans (h.mono B2.out.size)); clear h)
    | (go_at_call 9; refine (AW.out _ (HT.out.bel B3.out)).mono ?_; rintro e w4 ⟨rfl, h⟩; have B4 := Lib.hid (B3.out.trans (h.mono B3.out.size)); clear h))
  go_returns
  exact ⟨rfl, B4.out⟩

set_option maxRecDepth 100000 in
set_option maxHeartbeats 4000000 in
theorem trainDecodes_walk0 (s : ByteArray) (_ : s.size ≤ 140737488351232) (W : World) (hL : LaidFacts W) :
    Calls Tryd.prog 5 #[.string s] W fun e w' => e = .returned (.bool true) ∧ Below W.heap.size W w' := by
  have AW := Lib.hid lives17_any
  have HT := Lib.hid hL
  by_cases h1 : (10000 : Int) < (s.size : Int)
  · go_enter Tryd.func5, Tryd.ntmps5
    go_wp2_with (go_at_call 9; refine (AW.out _ HT.out).mono ?_; rintro e w1 ⟨rfl, hb1⟩)
    go_returns
    exact ⟨rfl, hb1⟩
  have C1 := Lib.hid (tnDecode_any s W (by omega) hL)
  have C2 := Lib.hid fun w => r17Decode_any s w (by omega)
  have hlen := dec_len s.data.toList
  unfold DecPost at C1
  unfold RDecPost at C2
  generalize dec s.data.toList = L at *
  have C3 := Lib.hid fun sa sb c c' w h h' => same17_any L sa sb c c' w h h' hlen
  clear hL hlen
  go_enter Tryd.func5, Tryd.ntmps5
  go_wp2_with (first
    | (go_at_call 13; refine C1.out.mono ?_; rintro e w1 ⟨v1, n1, rfl, hs, h⟩; have S1 := Lib.hid hs; have B1 := Lib.hid h; clear h hs)
    | (go_at_call 17; refine (C2.out _).mono ?_; rintro e w2 ⟨v2, n2, rfl, hs, h⟩; have S2 := Lib.hid (S1.out.below h); have R2 := Lib.hid hs; have B2 := Lib.hid (B1.out.trans (h.mono B1.out.size)); clear h hs)
    | (go_at_call 16; refine (C3.out _ _ _ _ _ S2.out.lies R2.out.lies).mono ?_; rintro e w3 ⟨rfl, h⟩; have B3 := Lib.hid (B2.out.trans (h.mono B2.out.size)); clear h)
    | (go_at_call 9; refine (AW.out _ (HT.out.bel B3.out)).mono ?_; rintro e w4 ⟨rfl, h⟩; have B4 := Lib.hid (B3.out.trans (h.mono B3.out.size)); clear h))
  go_returns
  exact ⟨rfl, B4.out⟩

set_option maxRecDepth 100000 in
set_option maxHeartbeats 4000000 in
theorem trainEncodes_walk0 (l : List ByteArray) (sa : Option Addr) (c : Nat) {W : World} (h : Ss_.Sl W sa l c) (hl : l.length ≤ maxLen) (hz : ∀ x ∈ l, x.size ≤ 140737488351232) (_W : World) (hL : LaidFacts W) :
    Calls Tryd.prog 4 #[.slice sa l.length c] W fun e w' => e = .returned (.bool true) ∧ Below W.heap.size W w' := by
  have AW := Lib.hid lives17_any
  have HT := Lib.hid hL
  have CF := Lib.hid (few17_any l sa c W h.lies hl hz)
  cases hf : fewB l
  · rw [hf] at CF
    clear hl h hz hf
    go_enter Tryd.func4, Tryd.ntmps4
    go_wp2_with (first
      | (go_at_call 8; refine CF.out.mono ?_; rintro e w' ⟨rfl, rfl⟩)
      | (go_at_call 9; refine (AW.out _ HT.out).mono ?_; rintro e w1 ⟨rfl, hb1⟩))
    go_returns
    exact ⟨rfl, hb1⟩
  rw [hf] at CF
  obtain ⟨h80, -⟩ := few_sz hf
  have H := Lib.hid h
  have C1 := Lib.hid (tnEncode_any l sa c W h.lies (by omega) hL)
  have C2 := Lib.hid fun w h => r17Encode_any l sa c w h (by omega)
  have C3 := Lib.hid fun w h => lengths17_any l sa c w h h80
  have C4 := Lib.hid fun sa c w h => tnLength_any (sz l) sa c w h (by rw [sz_len]; unfold maxLen; omega)
  unfold EncPost at C1 C2
  by_cases hr : eE l = 0
  · have hn : lnI (sz l) = ((eS l).size : Int) := by unfold lnI; rw [if_pos (show mE (sz l) = 0 from hr), eS_size hr]
    rw [hr] at C1 C2
    rw [hn] at C4
    generalize eS l = S at *
    generalize sz l = Z at *
    have hss : (S.toList == S.toList) = true := by simp
    clear h hl hz hf h80 hr hn hL
    go_enter Tryd.func4, Tryd.ntmps4
    go_wp2_with (first
      | (go_at_call 8; refine CF.out.mono ?_; rintro e w' ⟨rfl, rfl⟩)
      | (go_at_call 10; refine C1.out.mono ?_; rintro e w1 ⟨rfl, h⟩; have H1 := Lib.hid (H.out.below h); have B1 := Lib.hid h; clear h)
      | (go_at_call 14; refine (C2.out _ H1.out.lies).mono ?_; rintro e w2 ⟨rfl, h⟩; have H2 := Lib.hid (H1.out.below h); have B2 := Lib.hid (B1.out.trans (h.mono B1.out.size)); clear h)
      | (go_at_call 12; refine (C3.out _ H2.out.lies).mono ?_; rintro e w3 ⟨v3, n3, rfl, hs, h⟩; have S3 := Lib.hid hs; have B3 := Lib.hid (B2.out.trans (h.mono B2.out.size)); clear h hs)
      | (go_at_call 15; refine (C4.out _ _ _ S3.out.lies).mono ?_; rintro e w' ⟨rfl, rfl⟩)
      | (go_at_call 9; refine (AW.out _ (HT.out.bel B3.out)).mono ?_; rintro e w4 ⟨rfl, h⟩; have B4 := Lib.hid (B3.out.trans (h.mono B3.out.size)); clear h))
    go_returns
    exact ⟨rfl, B4.out⟩
  · have hn : lnI (sz l) = -1 := by unfold lnI; rw [if_neg (show ¬ mE (sz l) = 0 from hr)]
    rw [hn] at C4
    generalize eS l = S at *
    generalize eE l = r at *
    generalize sz l = Z at *
    have hss : (S.toList == S.toList) = true := by simp
    have hr1 : (r == 0) = false := by rw [beq_eq_false_iff_ne]; exact hr
    have hr2 : (r != 0) = true := by rw [bne_iff_ne]; exact hr
    have hrr : (r == r) = true := by simp
    clear h hl hz hf h80 hr hn hL
    go_enter Tryd.func4, Tryd.ntmps4
    go_wp2_with (first
      | (go_at_call 8; refine CF.out.mono ?_; rintro e w' ⟨rfl, rfl⟩)
      | (go_at_call 10; refine C1.out.mono ?_; rintro e w1 ⟨rfl, h⟩; have H1 := Lib.hid (H.out.below h); have B1 := Lib.hid h; clear h)
      | (go_at_call 14; refine (C2.out _ H1.out.lies).mono ?_; rintro e w2 ⟨rfl, h⟩; have H2 := Lib.hid (H1.out.below h); have B2 := Lib.hid (B1.out.trans (h.mono B1.out.size)); clear h)
      | (go_at_call 12; refine (C3.out _ H2.out.lies).mono ?_; rintro e w3 ⟨v3, n3, rfl, hs, h⟩; have S3 := Lib.hid hs; have B3 := Lib.hid (B2.out.trans (h.mono B2.out.size)); clear h hs)
      | (go_at_call 15; refine (C4.out _ _ _ S3.out.lies).mono ?_; rintro e w' ⟨rfl, rfl⟩)
      | (go_at_call 9; refine (AW.out _ (HT.out.bel B3.out)).mono ?_; rintro e w4 ⟨rfl, h⟩; have B4 := Lib.hid (B3.out.trans (h.mono B3.out.size)); clear h))
    go_returns
    exact ⟨rfl, B4.out⟩
end Go.Proofs.YtoobajcpfonllaaDoor
