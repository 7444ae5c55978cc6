/-
  THE LAWS of layer 15: ManageEncodes.
-/
import Derived.Test.YtcpfkikifhcdmaaMgLaws
import Derived.Test.YtcpfkikifhcdmaaMgRefE
namespace Go.Proofs.Ytcpfkikifhcdmaa
open Go.RowKit Go.Mg Go.Wr
attribute [local go_sem ↓ high] Bd_.loadF Bd_.storeF Bd_.v_cells Bd_.v_match Bd_.loadP
attribute [local go_sem] Bd_.C0 Bd_.C4 Bd_.loadF_new

set_option maxRecDepth 100000 in
set_option maxHeartbeats 8000000 in
theorem manageEncodes_walk1 (b : Bd) (hw : BdW b) (W : World) :
    Calls Try.prog 3 #[Bd_.v b] W fun e W' => e = .returned (.bool true) ∧ Below W.heap.size W W' := by
  have CL := Lib.hid fun w => awake15_any w
  obtain ⟨w1, hw1⟩ : ∃ w1, W.alloc (.cells (Bd_.C b) 27) = w1 := ⟨_, rfl⟩
  have S1 := Lib.hid (show Lst W W.heap.size b w1 from hw1 ▸ Lst.new (Below.refl _ _) b)
  have e1 := S1.out.box.all
  have l1 := S1.out.box.loadF
  by_cases hl : 3000 < b.nm.size
  · have hl' : (3000 : Int) < (b.nm.size : Int) := by omega
    clear hl
    go_enter Try.func3, Try.ntmps3
    go_wp2_with (go_at_call 7; refine (CL.out _).mono ?_; rintro e w2 ⟨rfl, hb⟩; have S2 := Lib.hid (S1.out.keep hb); clear hb)
    go_ret
    exact ⟨rfl, S2.out.bel⟩
  have hl' : ¬ (3000 : Int) < (b.nm.size : Int) := by omega
  have CE := Lib.hid fun w => mgEncode_any b w hw
  have RE := Lib.hid fun w => refEncode15_any b w hw
  have CC := Lib.hid fun w => mgCheck_any b w hw
  have RC := Lib.hid fun w => refCheck15_any b w hw
  have CF := Lib.hid fun w => mgFrame_any b w
  have RF := Lib.hid fun w => refFrame15_any b w
  generalize enc b = s at *
  generalize chk b = r at *
  generalize frk b.kd = fc at *
  clear hl hw
  go_enter Try.func3, Try.ntmps3
  go_wp2_with (first
    | (go_at_call 8; refine (CE.out _).mono ?_; rintro e w2 ⟨rfl, hb⟩; have S2 := Lib.hid (S1.out.keep hb); have l2 := S2.out.box.loadF; clear hb)
    | (go_at_call 9; refine (RE.out _).mono ?_; rintro e w3 ⟨rfl, hb⟩; have S3 := Lib.hid (S2.out.keep hb); clear hb))
  have lf : ∀ (p : Of (Lst W W.heap.size b)), (Bd_.LoadF ⟨W.heap.size, 0, none⟩).run Try.prog p.w = .ok (Bd_.v b) p.w := fun p => p.ok.box.loadF
  have _ne : Nonempty (Of (Lst W W.heap.size b)) := ⟨⟨_, S3.out⟩⟩
  refine wp_region_of (Lst W W.heap.size b) (by kernel_rfl) (by kernel_rfl) S3.out.drew ?_
  repeat (quiet_step (first
    | (go_at_call 10; exact Calls.of_below Lst.keep' (CC.out _))
    | (go_at_call 11; exact Calls.of_below Lst.keep' (RC.out _))
    | (go_at_call 12; exact Calls.of_below Lst.keep' (CF.out _))
    | (go_at_call 13; exact Calls.of_below Lst.keep' (RF.out _))
    | (go_at_call 7; exact Calls.of_below Lst.keep' (CL.out _))))
  refine wpQuiet_nil ?_
  rintro _ ⟨p, rfl⟩
  clear lf
  go_wp2
  go_ret
  exact ⟨rfl, p.ok.bel⟩
end Go.Proofs.Ytcpfkikifhcdmaa
