/-
  THE LAWS of layer 15: ManageDecodes.
-/
import Derived.Test.YtcpfkikifhcdmaaMgLaws
import Derived.Test.YtcpfkikifhcdmaaMgRefD2
namespace Go.Proofs.Ytcpfkikifhcdmaa
open Go.RowKit Go.Mg Go.Wr
attribute [local go_sem ↓ high] Bd_.loadF Bd_.storeF Bd_.v_cells Bd_.v_match Bd_.loadP
attribute [local go_sem] Bd_.loadF_new Bd_.storeF_zero Bd_.storeF_new

set_option maxRecDepth 100000 in
set_option maxHeartbeats 8000000 in
theorem manageDecodes_walk1 (k : Int) (s : ByteArray) (W : World) :
    Calls Try.prog 4 #[.int .i64 k, .string s] W fun e W' => e = .returned (.bool true) ∧ Below W.heap.size W W' := by
  have CL := Lib.hid fun w => awake15_any w
  by_cases hl : 3000 < s.size
  · have hl' : (3000 : Int) < (s.size : Int) := by omega
    clear hl
    go_enter Try.func4, Try.ntmps4
    go_wp2_with (go_at_call 7; refine (CL.out _).mono ?_; rintro e w1 ⟨rfl, hb⟩; have B1 := Lib.hid hb; clear hb)
    go_ret
    exact ⟨rfl, B1.out⟩
  have hl' : ¬ (3000 : Int) < (s.size : Int) := by omega
  have CD := Lib.hid fun w => mgDecode_any k s w
  have RD := Lib.hid fun w => refDecode15_any k s w (by omega)
  have hbe := fun W => bd_eql (dcB k s) (dcB k s) W
  simp only [decide_true] at hbe
  have hbg := fun op a b => bd_guard op a b (dcB k s) (dcB k s)
  generalize dcE k s = r at *
  generalize dcB k s = y at *
  clear hl
  go_enter Try.func4, Try.ntmps4
  go_wp2_with (first
    | (go_at_call 14; refine (CD.out _).mono ?_; rintro e w1 ⟨rfl, hb⟩; have L1 := Lib.hid (Lst.new hb y); clear hb)
    | (go_at_call 15; refine (RD.out _).mono ?_; rintro e w2 ⟨rfl, hb⟩; have L2 := Lib.hid ((L1.out.keep hb).alloc (.cells (Bd_.C y) 27)); have M2 := Lib.hid (Lst.new (L1.out.keep hb).bel y); have l2 := L2.out.box.loadF; have m2 := M2.out.box.loadF; clear hb)
    | (go_at_call 7; refine (CL.out _).mono ?_; rintro e w3 ⟨rfl, hb⟩; have L3 := Lib.hid (L2.out.keep hb); clear hb))
  go_ret
  exact ⟨rfl, L3.out.bel⟩
end Go.Proofs.Ytcpfkikifhcdmaa
