/-
  THE LAWS of layer 12: FrameEncodes, FrameExact.
-/
import Derived.Test.YtkhnhlahfedkhaaDoorFmAwake
import Derived.Test.YtkhnhlahfedkhaaDoorFmRef
namespace Go.Proofs.YtkhnhlahfedkhaaDoor
open Go.RowKit Go.Hd Go.Wr Go.Ad Go.Ck Go.Fm
attribute [local go_sem ↓ high] Fr_.loadF Fr_.storeF Fr_.v_cells Fr_.v_match fr_guard fr_eql
attribute [local go_sem] Fr_.C0 Fr_.C1 Fr_.C2 Fr_.C3 Fr_.C4 Fr_.C5 Fr_.C6 Fr_.C7 Fr_.C8 Fr_.C9 Fr_.C10 Fr_.C11 Fr_.C12 Fr_.C13 Fr_.C14 Fr_.C15 Fr_.C16 Fr_.C17 Fr_.storeF_zero

set_option maxRecDepth 100000 in
set_option maxHeartbeats 4000000 in
theorem frameEncodes_walk0 (f : Fr) (hw : FrWf f) (W : World) (hl : LaidFacts W) :
    Calls Tryd.prog 3 #[Fr_.v f] W fun e w' => e = .returned (.bool true) ∧ Below W.heap.size W w' := by
  have HT : Hid (∀ w', Below W.heap.size W w' → FmTabs w') := fun w' hb => FmTabs.below hl hb (Nat.le_refl _)
  have hu := fru_wf hw
  have S1 := Lib.hid (Stf.new W f)
  have CL := Lib.hid (fun w' hb => awake12_any w' (HT.out w' hb))
  by_cases hs : (5000 : Int) < (f.bo.size : Int)
  · have e1 := S1.out.box.all
    clear hw hl hu
    go_enter Tryd.func3, Tryd.ntmps3
    go_wp2_with (go_at_call 7; refine (CL.out _ S1.out.bel).mono ?_; rintro e w2 ⟨rfl, hb⟩; have S2 := Lib.hid (Stf.keep _ _ S1.out hb); clear hb)
    go_returns
    exact ⟨rfl, S2.out.bel⟩
  · have C1 := Lib.hid (fun w' hb => encode_any f w' (HT.out w' hb).hd (HT.out w' hb).ck hu)
    have C2 := Lib.hid (fun w' => refEncode_any f w' hu)
    have C3 := Lib.hid (fun w' hb => flength_any f w' (HT.out w' hb).hd hu)
    have C4 := Lib.hid (refLen12_any f)
    have C5 := Lib.hid (fun w' hb => ftext_any f w' (HT.out w' hb).hd (HT.out w' hb).pw hu)
    have C6 := Lib.hid (refText12_any f)
    generalize enc f = E at *
    generalize chk f = c at *
    generalize flen f = n at *
    generalize Go.Fm.text f = T at *
    have e1 := S1.out.box.all
    have l1 := S1.out.box.loadF
    clear hw hl hu
    go_enter Tryd.func3, Tryd.ntmps3
    go_wp2_with (first
      | (go_at_call 8; refine (C1.out _ S1.out.bel).mono ?_; rintro e w2 ⟨rfl, hb⟩; have S2 := Lib.hid (Stf.keep _ _ S1.out hb); clear hb e1 l1; have l2 := S2.out.box.loadF)
      | (go_at_call 9; refine (C2.out _).mono ?_; rintro e w3 ⟨rfl, hb⟩; have S3 := Lib.hid (Stf.keep _ _ S2.out hb); clear hb l2))
    have hlf : ∀ (p : Of (Stf W W.heap.size f)), (Fr_.LoadF ⟨W.heap.size, 0, none⟩).run Tryd.prog p.w = .ok (Fr_.v f) p.w := fun p => p.ok.box.loadF
    have _ne : Nonempty (Of (Stf W W.heap.size f)) := ⟨⟨_, S3.out⟩⟩
    refine wp_region_of (Stf W W.heap.size f) (by kernel_rfl) (by kernel_rfl) S3.out.drew ?_
    repeat (quiet_step (first
      | (go_at_call 10; exact Calls.of_below Stf.keep (C3.out _ (Stf.bel (Of.ok _))))
      | (go_at_call 11; exact Calls.of_below Stf.keep (C4.out _))
      | (go_at_call 12; exact Calls.of_below Stf.keep (C5.out _ (Stf.bel (Of.ok _))))
      | (go_at_call 13; exact Calls.of_below Stf.keep (C6.out _))
      | (go_at_call 7; exact Calls.of_below Stf.keep (CL.out _ (Stf.bel (Of.ok _))))))
    refine wpQuiet_nil ?_
    rintro _ ⟨p, rfl⟩
    go_wp2
    go_returns
    exact ⟨rfl, p.ok.bel⟩
end Go.Proofs.YtkhnhlahfedkhaaDoor
