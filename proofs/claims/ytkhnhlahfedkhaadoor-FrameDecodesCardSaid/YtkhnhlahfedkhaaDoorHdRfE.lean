/-
  THE WALK of layer 10: the reference's Read, where it ends before the flags.
-/
import Derived.Test.YtkhnhlahfedkhaaDoorFrRet
import Derived.Test.YtkhnhlahfedkhaaDoorHdRfF
import Derived.Test.YtkhnhlahfedkhaaDoorHdCheck
import Derived.Test.YtkhnhlahfedkhaaDoorHdRef
namespace Go.Proofs.YtkhnhlahfedkhaaDoor
open Go.RowKit Go.Hd Go.Wr Go.Ad
attribute [local go_sem ↓ high] Fr_.loadF Fr_.storeF Fr_.v_cells Fr_.v_match
attribute [local go_sem] Fr_.C0 Fr_.C1 Fr_.C2 Fr_.C3 Fr_.C4 Fr_.C5 Fr_.C6 Fr_.C7 Fr_.C8 Fr_.C9 Fr_.C10 Fr_.C11 Fr_.C12 Fr_.C13 Fr_.C14 Fr_.C15 Fr_.C16 Fr_.C17 Fr_.storeF_zero

set_option maxRecDepth 100000 in
set_option maxHeartbeats 400000 in
theorem refRead_early (s : ByteArray) (w : World) (k : Int) (n : Nat) (ek : (oc s 0 : Int) = k) (en : oc s 1 = n) (r : Int)
    (hc : (s.size = 0 ∧ r = 1) ∨ (0 < s.size ∧ ¬ isK k ∧ r = 3) ∨ (s.size = 1 ∧ isK k ∧ r = 1) ∨ (2 ≤ s.size ∧ isK k ∧ ¬ pl k ∧ ¬ (n : Int) / 64 = 0 ∧ r = 3)) :
    Calls Tryd.prog 43 #[.string s] w fun e w' => e = .returned (.tuple #[Fr_.v Fr_.zf, .int .i64 0, .int .i64 r]) ∧ Below w.heap.size w w' := by
  have CI := Lib.hid (refIs_any k)
  have CP := Lib.hid (refPolicy_any k)
  have hz := Fr_.C_zf.symm
  obtain ⟨w1, hw1⟩ : ∃ w1, w.alloc (.cells (Fr_.C Fr_.zf) 25) = w1 := ⟨_, rfl⟩
  have st := Lib.hid (show Gst w w.heap.size w1 from hw1 ▸ Gst.new w)
  have sf : (Fr_.StoreF ⟨w.heap.size, 0, none⟩ (.agg (Fr_.C Fr_.zf))).run Tryd.prog w1 = .ok () (w1.setRow w.heap.size (Fr_.C Fr_.zf)) := st.out.res.storeF Fr_.zf
  have uk : RowKit.wrap64 k = k := IntWalk.wrap64_in _ (by have := oc_lt s 0; omega)
  have un : RowKit.wrap64 (n : Int) = n := IntWalk.wrap64_in _ (by have := oc_lt s 1; omega)
  obtain ⟨t64, u64', v64, -⟩ := quo_facts (n := n) (en ▸ oc_lt s 1) (d := 64) (by decide)
  obtain ⟨q64, Q64⟩ : ∃ q, (n : Int) / 64 = q := ⟨_, rfl⟩
  rw [Q64] at t64 u64' v64 hc
  clear Q64
  rcases hc with ⟨h1, rfl⟩ | ⟨h1, h2, rfl⟩ | ⟨h1, h2, rfl⟩ | ⟨h1, h2, h3, h4, rfl⟩
  all_goals
    (first | rw [decide_eq_true h2] at CI | rw [decide_eq_false h2] at CI | skip)
    (first | rw [decide_eq_false h3] at CP | skip)
    (first | (have z0 : 0 < s.size := (by omega); have g0 : ((s[0]'z0).toNat : Int) = k := ek ▸ congrArg Nat.cast (oc_get z0)) | skip)
    (first | (have z1 : 1 < s.size := (by omega); have g1 : (s[1]'z1).toNat = n := en ▸ oc_get z1) | skip)
    (first | (have a1 : decide ((s.size : Int) < 1) = true := decide_eq_true (by omega)) | (have a1 : decide ((s.size : Int) < 1) = false := decide_eq_false (by omega)))
    (first | (have a2 : decide ((s.size : Int) < 2) = true := decide_eq_true (by omega)) | (have a2 : decide ((s.size : Int) < 2) = false := decide_eq_false (by omega)) | skip)
    clear h1
    go_enter Tryd.func43, Tryd.ntmps43
    go_wp2_with (first
      | (go_at_call 57; refine (CI.out _).mono ?_; rintro e w' ⟨rfl, rfl⟩)
      | (go_at_call 62; refine (CP.out _).mono ?_; rintro e w' ⟨rfl, rfl⟩))
    exact ret_three Tryd.results43 rfl rfl rfl (st.out.res.setRow Fr_.zf) rfl ⟨rfl, st.out.fin Fr_.zf⟩
end Go.Proofs.YtkhnhlahfedkhaaDoor
