/-
  THE LAW FrameExact of layer 12.
-/
import Derived.Test.YtkhnhlahfedkhaaDoorFmAwake
namespace Go.Proofs.YtkhnhlahfedkhaaDoor
open Go.RowKit Go.Hd Go.Wr Go.Ad Go.Ck Go.Fm
attribute [local go_sem ↓ high] Fr_.loadF Fr_.storeF Fr_.v_cells Fr_.v_match fr_guard fr_neq fr_eql fr_guard_lit fr_eql_lit
attribute [local go_sem] Fr_.C0 Fr_.C1 Fr_.C2 Fr_.C3 Fr_.C4 Fr_.C5 Fr_.C6 Fr_.C7 Fr_.C8 Fr_.C9 Fr_.C10 Fr_.C11 Fr_.C12 Fr_.C13 Fr_.C14 Fr_.C15 Fr_.C16 Fr_.C17 Fr_.storeF_zero

set_option maxRecDepth 100000 in
set_option maxHeartbeats 4000000 in
theorem frameExact_walk0 (s : ByteArray) (hs : s.size ≤ 140737488351232) (W : World) (hl : LaidFacts W) :
    Calls Tryd.prog 6 #[.string s] W fun e w' => e = .returned (.bool true) ∧ Below W.heap.size W w' := by
  have HT : Hid (∀ w', Below W.heap.size W w' → FmTabs w') := fun w' hb => FmTabs.below hl hb (Nat.le_refl _)
  have HB : Hid (∀ w' w'', Below W.heap.size W w' → Below w'.heap.size w' w'' → Below W.heap.size W w'') := fun w' w'' h hb => h.trans (hb.mono h.size)
  have CL := Lib.hid (fun w' hb => awake12_any w' (HT.out w' hb))
  have B0 : Hid (Below W.heap.size W W) := Below.refl _ _
  have CD := Lib.hid (fun w' hb => decode_any s w' (HT.out w' hb).hd (HT.out w' hb).ck hs)
  have hu := dec_fru s
  by_cases h5 : (5000 : Int) < (s.size : Int)
  · clear hs hl CD hu
    go_enter Tryd.func6, Tryd.ntmps6
    go_wp2_with (go_at_call 7; refine (CL.out _ B0.out).mono ?_; rintro e w2 ⟨rfl, hb⟩; have B2 := Lib.hid (HB.out _ _ B0.out hb); clear hb)
    go_returns
    exact ⟨rfl, B2.out⟩
  by_cases h0 : (dec s).2 = 0
  · obtain ⟨hc, he⟩ := dec_back s h0
    have CE : Hid (∀ w', Below W.heap.size W w' → Calls Tryd.prog 8 #[Fr_.v (dec s).1] w' fun e w'' => e = .returned (.tuple #[.string s, .int .i64 0]) ∧ Below w'.heap.size w' w'') := fun w' hb => by
      have := encode_any (dec s).1 w' (HT.out w' hb).hd (HT.out w' hb).ck hu
      rw [he, hc] at this
      exact this
    rw [h0] at CD
    generalize (dec s).1 = y at *
    clear hs hl hu h0 hc he
    go_enter Tryd.func6, Tryd.ntmps6
    go_wp2_with (first
      | (go_at_call 14; refine (CD.out _ B0.out).mono ?_; rintro e w2 ⟨rfl, hb⟩; have B2 := Lib.hid (HB.out _ _ B0.out hb); clear hb
         obtain ⟨w3, hw3⟩ : ∃ w3, w2.alloc (.cells (Fr_.C y) 25) = w3 := ⟨_, rfl⟩
         have B3 := Lib.hid (show Below W.heap.size W w3 from hw3 ▸ B2.out.alloc B2.out.size _)
         have l3 := (show Fr_.Box w3 w2.heap.size y from hw3 ▸ Fr_.Box.newC w2 y).loadF)
      | (go_at_call 8; refine (CE.out _ B3.out).mono ?_; rintro e w4 ⟨rfl, hb⟩; have B4 := Lib.hid (HB.out _ _ B3.out hb); clear hb l3)
      | (go_at_call 7; refine (CL.out _ B4.out).mono ?_; rintro e w5 ⟨rfl, hb⟩; have B5 := Lib.hid (HB.out _ _ B4.out hb); clear hb))
    go_returns
    exact ⟨rfl, B5.out⟩
  · have hy := dec_zero s h0
    have hne : ((dec s).2 != 0) = true := by rw [bne_iff_ne]; exact h0
    rw [hy] at CD
    generalize (dec s).2 = c at *
    clear hs hl hu h0 hy
    go_enter Tryd.func6, Tryd.ntmps6
    go_wp2_with (first
      | (go_at_call 14; refine (CD.out _ B0.out).mono ?_; rintro e w2 ⟨rfl, hb⟩; have B2 := Lib.hid (HB.out _ _ B0.out hb); clear hb
         obtain ⟨w3, hw3⟩ : ∃ w3, w2.alloc (.cells (Fr_.C Fr_.zf) 25) = w3 := ⟨_, rfl⟩
         have B3 := Lib.hid (show Below W.heap.size W w3 from hw3 ▸ B2.out.alloc B2.out.size _)
         have l3 := (show Fr_.Box w3 w2.heap.size Fr_.zf from hw3 ▸ Fr_.Box.newC w2 Fr_.zf).loadF)
      | (go_at_call 7; refine (CL.out _ B3.out).mono ?_; rintro e w5 ⟨rfl, hb⟩; have B5 := Lib.hid (HB.out _ _ B3.out hb); clear hb))
    go_returns
    exact ⟨rfl, B5.out⟩
end Go.Proofs.YtkhnhlahfedkhaaDoor
