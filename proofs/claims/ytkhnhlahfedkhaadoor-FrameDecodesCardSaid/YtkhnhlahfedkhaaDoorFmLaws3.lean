/-
  WALKS of the reference of layer 12: Decode.
  THE LAW FrameDecodes of layer 12.
-/
import Derived.Test.YtkhnhlahfedkhaaDoorFmProg
import Derived.Test.YtkhnhlahfedkhaaDoorHdRefRd
import Derived.Test.YtkhnhlahfedkhaaDoorHdCheck
import Derived.Test.YtkhnhlahfedkhaaDoorFmAwake
namespace Go.Proofs.YtkhnhlahfedkhaaDoor
open Go.RowKit Go.Hd Go.Wr Go.Ad Go.Ck Go.Fm
attribute [local go_sem ↓ high] Fr_.loadF Fr_.storeF Fr_.v_cells Fr_.v_match
attribute [local go_sem] Fr_.C0 Fr_.C1 Fr_.C2 Fr_.C3 Fr_.C4 Fr_.C5 Fr_.C6 Fr_.C7 Fr_.C8 Fr_.C9 Fr_.C10 Fr_.C11 Fr_.C12 Fr_.C13 Fr_.C14 Fr_.C15 Fr_.C16 Fr_.C17 Fr_.storeF_zero

theorem refOpen_any (s : ByteArray) (w : World) (hs : s.size ≤ 140737488351232) :
    Calls Tryd.prog 42 #[.string s] w fun e w' => e = .returned (.tuple #[.string (opn s).1, .int .i64 (opn s).2]) ∧ Below w.heap.size w w' := by
  unfold opn
  by_cases h4 : s.size < 4
  · rw [if_pos h4]; exact refOpen_short s w h4
  · rw [if_neg h4]
    have := refOpen_long s (s.size - 4) _ w (by omega) hs rfl
    refine this.mono ?_
    rintro e w' ⟨rfl, hb⟩
    refine ⟨?_, hb⟩
    split <;> rfl
theorem opn_size (s : ByteArray) : (opn s).1.size ≤ s.size := by
  unfold opn
  split
  · exact Nat.zero_le _
  · split
    · simp only; rw [ByteArray.size_extract]; omega
    · exact Nat.zero_le _

section
variable (s : ByteArray) (w : World) (hs : s.size ≤ 140737488351232)
include hs
set_option maxRecDepth 100000 in
set_option maxHeartbeats 4000000 in
theorem refDecode_shut (h : ¬ (opn s).2 = 0) :
    Calls Tryd.prog 15 #[.string s] w fun e w' => e = .returned (.tuple #[Fr_.v (dec s).1, .int .i64 (dec s).2]) ∧ Below w.heap.size w w' := by
  rw [show dec s = (Fr_.zf, (opn s).2) from if_neg h]
  obtain ⟨w1, hw1⟩ : ∃ w1, w.alloc (.cells #[.int .i64 0, .bool false, .bool false, .bool false, .bool false, .bool false, .bool false, .int .i64 0, .int .i64 0, .int .u64 0, .int .u64 0, .int .u64 0, .int .i64 0, .int .i64 0, .int .i64 0, .int .i64 0, .int .i64 0, .string ⟨#[]⟩] 25) = w1 := ⟨_, rfl⟩
  have G1 := Lib.hid (show Gst w w.heap.size w1 from hw1 ▸ Gst.new w)
  have CO := Lib.hid (refOpen_any s w1 hs)
  have hne : ((opn s).2 != 0) = true := by rw [bne_iff_ne]; exact h
  generalize (opn s).1 = t at *
  generalize (opn s).2 = c at *
  clear hs h
  go_enter Tryd.func15, Tryd.ntmps15
  go_wp2_with (first
    | (go_at_call 42; refine CO.out.mono ?_; rintro e w2 ⟨rfl, hb⟩; have G2 := Lib.hid (G1.out.keep hb); clear hb; have sf := G2.out.zero))
  exact ret_two Tryd.results15 rfl rfl (G2.out.res.setRow _) rfl ⟨rfl, G2.out.fin _⟩

set_option maxRecDepth 100000 in
set_option maxHeartbeats 8000000 in
theorem refDecode_bad (h : (opn s).2 = 0) (h2 : ¬ (rdP (0, (opn s).1.data.toList)).2.1 = 0) :
    Calls Tryd.prog 15 #[.string s] w fun e w' => e = .returned (.tuple #[Fr_.v (dec s).1, .int .i64 (dec s).2]) ∧ Below w.heap.size w w' := by
  rw [show dec s = (Fr_.zf, (rdP (0, (opn s).1.data.toList)).2.1) from (if_pos h).trans (if_neg h2)]
  obtain ⟨w1, hw1⟩ : ∃ w1, w.alloc (.cells #[.int .i64 0, .bool false, .bool false, .bool false, .bool false, .bool false, .bool false, .int .i64 0, .int .i64 0, .int .u64 0, .int .u64 0, .int .u64 0, .int .i64 0, .int .i64 0, .int .i64 0, .int .i64 0, .int .i64 0, .string ⟨#[]⟩] 25) = w1 := ⟨_, rfl⟩
  have G1 := Lib.hid (show Gst w w.heap.size w1 from hw1 ▸ Gst.new w)
  have CO := Lib.hid (refOpen_any s w1 hs)
  obtain ⟨z, -, CR⟩ := refIs (opn s).1
  have CR := Lib.hid CR
  have hne : ((rdP (0, (opn s).1.data.toList)).2.1 != 0) = true := by rw [bne_iff_ne]; exact h2
  generalize rdP (0, (opn s).1.data.toList) = ρ at *
  obtain ⟨y, c, R⟩ := ρ
  simp only at CR hne ⊢
  rw [h] at CO
  generalize (opn s).1 = t at *
  clear hs h h2
  go_enter Tryd.func15, Tryd.ntmps15
  go_wp2_with (first
    | (go_at_call 42; refine CO.out.mono ?_; rintro e w2 ⟨rfl, hb⟩; have G2 := Lib.hid (G1.out.keep hb); clear hb)
    | (go_at_call 43; refine (CR.out _).mono ?_; rintro e w3 ⟨rfl, hb⟩; have G3 := Lib.hid (G2.out.keep hb); clear hb
       obtain ⟨w4, hw4⟩ : ∃ w4, w3.alloc (.cells (Fr_.C y) 25) = w4 := ⟨_, rfl⟩
       have G4 := Lib.hid (show Gst w w.heap.size w4 from hw4 ▸ G3.out.keep ((Below.refl _ _).alloc (Nat.le_refl _) _))
       have sf := G4.out.zero))
  exact ret_two Tryd.results15 rfl rfl (G4.out.res.setRow _) rfl ⟨rfl, G4.out.fin _⟩

set_option maxRecDepth 100000 in
set_option maxHeartbeats 8000000 in
theorem refDecode_rest (h : (opn s).2 = 0) (h2 : (rdP (0, (opn s).1.data.toList)).2.1 = 0) :
    Calls Tryd.prog 15 #[.string s] w fun e w' => e = .returned (.tuple #[Fr_.v (dec s).1, .int .i64 (dec s).2]) ∧ Below w.heap.size w w' := by
  rw [show dec s = fin (rdP (0, (opn s).1.data.toList)).1 (rdP (0, (opn s).1.data.toList)).2.2 from (if_pos h).trans (if_pos h2)]
  obtain ⟨w1, hw1⟩ : ∃ w1, w.alloc (.cells #[.int .i64 0, .bool false, .bool false, .bool false, .bool false, .bool false, .bool false, .int .i64 0, .int .i64 0, .int .u64 0, .int .u64 0, .int .u64 0, .int .i64 0, .int .i64 0, .int .i64 0, .int .i64 0, .int .i64 0, .string ⟨#[]⟩] 25) = w1 := ⟨_, rfl⟩
  have G1 := Lib.hid (show Gst w w.heap.size w1 from hw1 ▸ Gst.new w)
  have HZ : Hid (w.heap.size < w1.heap.size) := by rw [← hw1]; unfold Hid; simp
  have CO := Lib.hid (refOpen_any s w1 hs)
  have hts := opn_size s
  obtain ⟨q, hq0, CR⟩ := refIs (opn s).1
  have hq := hq0 h2
  clear hq0
  have hw := (rd_written _ h2).2
  have CR := Lib.hid CR
  generalize rdP (0, (opn s).1.data.toList) = ρ at *
  obtain ⟨y, e0, R⟩ := ρ
  obtain rfl : e0 = 0 := h2
  simp only at CR hq hw ⊢
  rw [h] at CO
  generalize (opn s).1 = t at *
  have hlen := congrArg List.length hw
  rw [List.length_append, ba_len] at hlen
  have hqn : q = ((oct y).length : Int) := by omega
  have hsl : ∀ W, (Instr.slice 9 (.string t) (some (.int .i64 q)) none none).run Tryd.prog W = .ok (.string (bz R)) W := fun W => by
    rw [hqn, sliceFrom t (oct y).length (by omega) W]
    have e1 : bz t.data.toList = t := by unfold bz; simp
    have e2 := bz_drop t.data.toList (oct y).length
    rw [e1, ← hw, List.drop_left' rfl] at e2
    rw [e2]
  have hsz : RowKit.wrap64 ((t.size : Int) - q) = (R.length : Int) := by rw [IntWalk.wrap64_in _ (by omega)]; omega
  have hsz' : IntKind.i64.wrap ((t.size : Int) - q) = (R.length : Int) := by rw [IntWalk.i64_in _ (by omega)]; omega
  obtain ⟨z, hz⟩ : ∃ z, { y with bo := bz R } = z := ⟨_, rfl⟩
  have HZF := Lib.hid hz
  have CC := Lib.hid (refCheck_any z)
  unfold fin
  rw [hz]
  clear hs h hz hw hlen hqn hq hts
  have key : (2048 < R.length ∨ (¬ 2048 < R.length ∧ ¬ chk z = 0) ∨ (¬ 2048 < R.length ∧ chk z = 0)) := by
    by_cases a : 2048 < R.length
    · exact .inl a
    · by_cases b : chk z = 0
      · exact .inr (.inr ⟨a, b⟩)
      · exact .inr (.inl ⟨a, b⟩)
  rcases key with hl | ⟨hl, hc⟩ | ⟨hl, hc⟩
  case inl =>
    rw [if_pos hl]
    have hl' : (2048 : Int) < (R.length : Int) := by omega
    clear hl CC hsl
    go_enter Tryd.func15, Tryd.ntmps15
    go_wp2_with (first
      | (go_at_call 42; refine CO.out.mono ?_; rintro e w2 ⟨rfl, hb⟩; have G2 := Lib.hid (G1.out.keep hb); clear hb)
      | (go_at_call 43; refine (CR.out _).mono ?_; rintro e w3 ⟨rfl, hb⟩; have G3 := Lib.hid (G2.out.keep hb); clear hb
         obtain ⟨w4, hw4⟩ : ∃ w4, w3.alloc (.cells (Fr_.C y) 25) = w4 := ⟨_, rfl⟩
         have G4 := Lib.hid (show Gst w w.heap.size w4 from hw4 ▸ G3.out.keep ((Below.refl _ _).alloc (Nat.le_refl _) _))
         have sf := G4.out.zero))
    exact ret_two Tryd.results15 rfl rfl (G4.out.res.setRow _) rfl ⟨rfl, G4.out.fin _⟩
  all_goals
    rw [if_neg hl]
    first | rw [if_neg hc] | rw [if_pos hc]
    have hl' : ¬ (2048 : Int) < (R.length : Int) := by omega
    first | (have hne : (chk z != 0) = true := by rw [bne_iff_ne]; exact hc) | rw [hc] at CC
    generalize chk z = c at *
    clear hl hc
    go_enter Tryd.func15, Tryd.ntmps15
    go_wp2_with (first
      | (go_at_call 42; refine CO.out.mono ?_; rintro e w2 ⟨rfl, hb⟩; have G2 := Lib.hid (G1.out.keep hb); have Z2 : Hid (w.heap.size < w2.heap.size) := Nat.lt_of_lt_of_le HZ.out hb.size; clear hb)
      | (go_at_call 43; refine (CR.out _).mono ?_; rintro e w3 ⟨rfl, hb⟩; have G3 := Lib.hid (G2.out.keep hb); have Z3 : Hid (w.heap.size < w3.heap.size) := Nat.lt_of_lt_of_le Z2.out hb.size; clear hb
         obtain ⟨w4, hw4⟩ : ∃ w4, w3.alloc (.cells (Fr_.C y) 25) = w4 := ⟨_, rfl⟩
         have G4 := Lib.hid (show Gst w w.heap.size w4 from hw4 ▸ G3.out.keep ((Below.refl _ _).alloc (Nat.le_refl _) _))
         have Y4 := Lib.hid (show Fr_.Box w4 w3.heap.size y from hw4 ▸ Fr_.Box.newC w3 y)
         obtain ⟨w8, hw8⟩ : ∃ w8, w4.setCell ⟨w3.heap.size, 17, none⟩ (.string (bz R)) = w8 := ⟨_, rfl⟩
         have f7 := Y4.out.frozen 17; have e7 := Y4.out.all
         have Y8 := Lib.hid (show Fr_.Box w8 w3.heap.size z from HZF.out ▸ hw8 ▸ Y4.out.set17 (bz R))
         have G8 := Lib.hid (show Gst w w.heap.size w8 from hw8 ▸ ⟨G4.out.res.other (a := ⟨w3.heap.size, 17, none⟩) (Nat.ne_of_lt Z3.out) _, G4.out.bel.setCell (p := ⟨w3.heap.size, 17, none⟩) (Nat.le_of_lt Z3.out) _, Nat.le_refl _⟩)
         have l8 := Y8.out.loadF)
      | (go_at_call 22; refine (CC.out _).mono ?_; rintro e w9 ⟨rfl, hb⟩; have G9 := Lib.hid (G8.out.keep hb); have Y9 := Lib.hid (Y8.out.below hb Y8.out.lt); clear hb l8 e7 f7; have l9 := Y9.out.loadF; have sf := G9.out.zero; have sg := G9.out.res.storeF z))
    exact ret_two Tryd.results15 rfl rfl (G9.out.res.setRow _) rfl ⟨rfl, G9.out.fin _⟩
end
theorem refDecode_any (s : ByteArray) (w : World) (hs : s.size ≤ 140737488351232) :
    Calls Tryd.prog 15 #[.string s] w fun e w' => e = .returned (.tuple #[Fr_.v (dec s).1, .int .i64 (dec s).2]) ∧ Below w.heap.size w w' := by
  by_cases h : (opn s).2 = 0
  · by_cases h2 : (rdP (0, (opn s).1.data.toList)).2.1 = 0
    · exact refDecode_rest s w hs h h2
    · exact refDecode_bad s w hs h h2
  · exact refDecode_shut s w hs h
end Go.Proofs.YtkhnhlahfedkhaaDoor

namespace Go.Proofs.YtkhnhlahfedkhaaDoor
open Go.RowKit Go.Hd Go.Wr Go.Ad Go.Ck Go.Fm
attribute [local go_sem ↓ high] Fr_.loadF Fr_.storeF Fr_.v_cells Fr_.v_match fr_guard fr_eql
attribute [local go_sem] Fr_.C0 Fr_.C1 Fr_.C2 Fr_.C3 Fr_.C4 Fr_.C5 Fr_.C6 Fr_.C7 Fr_.C8 Fr_.C9 Fr_.C10 Fr_.C11 Fr_.C12 Fr_.C13 Fr_.C14 Fr_.C15 Fr_.C16 Fr_.C17 Fr_.storeF_zero

set_option maxRecDepth 100000 in
set_option maxHeartbeats 4000000 in
theorem frameDecodes_walk0 (s : ByteArray) (hs : s.size ≤ 140737488351232) (W : World) (hl : LaidFacts W) :
    Calls Tryd.prog 4 #[.string s] W fun e w' => e = .returned (.bool true) ∧ Below W.heap.size W w' := by
  have HT : Hid (∀ w', Below W.heap.size W w' → FmTabs w') := fun w' hb => FmTabs.below hl hb (Nat.le_refl _)
  have HB : Hid (∀ w' w'', Below W.heap.size W w' → Below w'.heap.size w' w'' → Below W.heap.size W w'') := fun w' w'' h hb => h.trans (hb.mono h.size)
  have CL := Lib.hid (fun w' hb => awake12_any w' (HT.out w' hb))
  have B0 : Hid (Below W.heap.size W W) := Below.refl _ _
  have CD := Lib.hid (fun w' hb => decode_any s w' (HT.out w' hb).hd (HT.out w' hb).ck hs)
  have CR := Lib.hid (fun w' => refDecode_any s w' hs)
  generalize (dec s).1 = y at *
  generalize (dec s).2 = c at *
  by_cases h5 : (5000 : Int) < (s.size : Int)
  · clear hs hl CD CR
    go_enter Tryd.func4, Tryd.ntmps4
    go_wp2_with (go_at_call 7; refine (CL.out _ B0.out).mono ?_; rintro e w2 ⟨rfl, hb⟩; have B2 := Lib.hid (HB.out _ _ B0.out hb); clear hb)
    go_returns
    exact ⟨rfl, B2.out⟩
  · clear hs hl
    go_enter Tryd.func4, Tryd.ntmps4
    go_wp2_with (first
      | (go_at_call 14; refine (CD.out _ B0.out).mono ?_; rintro e w2 ⟨rfl, hb⟩; have B2 := Lib.hid (HB.out _ _ B0.out hb); clear hb
         obtain ⟨w3, hw3⟩ : ∃ w3, w2.alloc (.cells (Fr_.C y) 25) = w3 := ⟨_, rfl⟩
         have B3 := Lib.hid (show Below W.heap.size W w3 from hw3 ▸ B2.out.alloc B2.out.size _)
         have Y3 := Lib.hid (show Fr_.Box w3 w2.heap.size y from hw3 ▸ Fr_.Box.newC w2 y))
      | (go_at_call 15; refine (CR.out _).mono ?_; rintro e w4 ⟨rfl, hb⟩; have B4 := Lib.hid (HB.out _ _ B3.out hb); have Y4 := Lib.hid (Y3.out.below hb Y3.out.lt); clear hb
         obtain ⟨w5, hw5⟩ : ∃ w5, w4.alloc (.cells (Fr_.C y) 25) = w5 := ⟨_, rfl⟩
         have B5 := Lib.hid (show Below W.heap.size W w5 from hw5 ▸ B4.out.alloc B4.out.size _)
         have l5 := (show Fr_.Box w5 w2.heap.size y from hw5 ▸ Y4.out.allocC _).loadF
         have m5 := (show Fr_.Box w5 w4.heap.size y from hw5 ▸ Fr_.Box.newC w4 y).loadF)
      | (go_at_call 7; refine (CL.out _ B5.out).mono ?_; rintro e w6 ⟨rfl, hb⟩; have B6 := Lib.hid (HB.out _ _ B5.out hb); clear hb))
    go_returns
    exact ⟨rfl, B6.out⟩
end Go.Proofs.YtkhnhlahfedkhaaDoor
