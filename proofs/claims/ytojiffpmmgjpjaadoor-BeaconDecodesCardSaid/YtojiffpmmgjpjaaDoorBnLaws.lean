/-
  THE LAWS of layer 14: BeaconEncodes, BeaconDecodes.
-/
import Derived.Test.YtojiffpmmgjpjaaDoorBnLives
import Derived.Test.YtojiffpmmgjpjaaDoorBnRefE2
import Derived.Test.YtojiffpmmgjpjaaDoorBnRefD
namespace Go.Proofs.YtojiffpmmgjpjaaDoor
open Go.RowKit Go.Bn Go.Wr
attribute [local go_sem ↓ high] Bn_.loadF Bn_.storeF Bn_.v_cells Bn_.v_match
attribute [local go_sem] Bn_.loadF_new Bn_.storeF_zero Bn_.C2

set_option maxRecDepth 100000 in
set_option maxHeartbeats 4000000 in
theorem beaconEncodes_walk0 (x : Bn) (hx : TmW x.tm) (W : World) (ht : KnTab W) :
    Calls Tryd.prog 4 #[Bn_.v x] W fun e W' => e = .returned (.bool true) ∧ Below W.heap.size W W' := by
  have L1 := Lib.hid (Lst.new ht (Below.refl W.heap.size W) x)
  obtain ⟨w1, hw1⟩ : ∃ w1, W.alloc (.cells (Bn_.C x) 31) = w1 := ⟨_, rfl⟩
  rw [hw1] at L1
  have e1 := L1.out.box.all
  have l1 := L1.out.box.loadF
  by_cases hn : 300 < x.nm.size
  · have hn' : 300 < (x.nm.size : Int) := by omega
    clear hn hx ht
    go_enter Tryd.func4, Tryd.ntmps4
    go_wp2_with (go_at_call 8; refine (lives14_any _ L1.out.tab).mono ?_; rintro e w2 ⟨rfl, hb⟩; have L2 := Lib.hid (Lst.keep _ _ L1.out hb); clear hb)
    go_ret
    exact ⟨rfl, L2.out.bel⟩
  · have hn' : ¬ 300 < (x.nm.size : Int) := by omega
    have CE := Lib.hid fun w => bnEncode_any x w hx
    have CF := Lib.hid fun w => refEncode14_any x w hx
    have CC := Lib.hid fun w => bnCheck_any x w hx
    generalize encR x = E at *
    generalize chk x = r at *
    clear hn hx ht
    go_enter Tryd.func4, Tryd.ntmps4
    go_wp2_with (first
      | (go_at_call 9; refine (CE.out _).mono ?_; rintro e w2 ⟨rfl, hb⟩; have L2 := Lib.hid (Lst.keep _ _ L1.out hb); have l2 := L2.out.box.loadF; clear hb)
      | (go_at_call 14; refine (CF.out _).mono ?_; rintro e w3 ⟨rfl, hb⟩; have L3 := Lib.hid (Lst.keep _ _ L2.out hb); have l3 := L3.out.box.loadF; clear hb)
      | (go_at_call 10; refine (CC.out _).mono ?_; rintro e w4 ⟨rfl, hb⟩; have L4 := Lib.hid (Lst.keep _ _ L3.out hb); clear hb)
      | (go_at_call 8; refine (lives14_any _ L4.out.tab).mono ?_; rintro e w5 ⟨rfl, hb⟩; have L5 := Lib.hid (Lst.keep _ _ L4.out hb); clear hb))
    go_ret
    exact ⟨rfl, L5.out.bel⟩

set_option maxRecDepth 100000 in
set_option maxHeartbeats 4000000 in
theorem beaconDecodes_of (CF0 : FdC) (s : ByteArray) (W : World) (ht : KnTab W) :
    Calls Tryd.prog 5 #[.string s] W fun e W' => e = .returned (.bool true) ∧ Below W.heap.size W W' := by
  have HT := Lib.hid ht
  by_cases hn : 4000 < s.size
  · have hn' : 4000 < (s.size : Int) := by omega
    clear hn ht
    go_enter Tryd.func5, Tryd.ntmps5
    go_wp2_with (go_at_call 8; refine (lives14_any _ HT.out).mono ?_; rintro e w2 ⟨rfl, hb⟩; have B2 := Lib.hid hb; clear hb)
    go_ret
    exact ⟨rfl, B2.out⟩
  · have hn' : ¬ 4000 < (s.size : Int) := by omega
    have CD := Lib.hid fun w ht => bnDecode_any s w (by omega) ht
    have CR := Lib.hid fun w => refDecode14_of CF0 s w (by omega)
    have hbe := bn_eql (decB s)
    have hbg := fun op a b => bn_guard op a b (decB s) (decB s)
    generalize decB s = y at *
    generalize decE s = r at *
    clear hn ht CF0
    go_enter Tryd.func5, Tryd.ntmps5
    go_wp2_with (first
      | (go_at_call 11; refine (CD.out _ HT.out).mono ?_; rintro e w2 ⟨rfl, hb⟩; have L2 := Lib.hid (Lst.new (HT.out.keep hb) hb y); clear hb)
      | (go_at_call 15; refine (CR.out _).mono ?_; rintro e w3 ⟨rfl, hb⟩; have L3 := Lib.hid (Lst.keep _ _ (Lst.keep _ _ L2.out hb) ((Below.refl _ _).alloc (Nat.le_refl _) (.cells (Bn_.C y) 31))); have l3 := L3.out.box.loadF; clear hb)
      | (go_at_call 8; refine (lives14_any _ L3.out.tab).mono ?_; rintro e w5 ⟨rfl, hb⟩; have L5 := Lib.hid (Lst.keep _ _ L3.out hb); clear hb))
    go_ret
    exact ⟨rfl, L5.out.bel⟩
end Go.Proofs.YtojiffpmmgjpjaaDoor
