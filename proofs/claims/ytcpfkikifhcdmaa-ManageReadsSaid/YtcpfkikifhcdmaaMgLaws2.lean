/-
  THE LAWS of layer 15: ManageReads.
-/
import Derived.Test.YtcpfkikifhcdmaaMgLaws
import Derived.Test.YtcpfkikifhcdmaaMgRefF
namespace Go.Proofs.Ytcpfkikifhcdmaa
open Go.RowKit Go.Mg Go.Wr
attribute [local go_sem ↓ high] Bd_.loadF Bd_.storeF Bd_.v_cells Bd_.v_match Bd_.loadP
attribute [local go_sem] Bd_.C0 Bd_.C4 Bd_.loadF_new Bd_.storeF_zero Bd_.storeF_new

theorem enc_bad {b : Bd} (h : ¬ chk b = 0) : enc b = ⟨#[]⟩ := if_neg h

set_option maxRecDepth 100000 in
set_option maxHeartbeats 8000000 in
theorem manageReads_walk1 (b : Bd) (hw : BdW b) (k : Int) (W : World) :
    Calls Try.prog 5 #[Bd_.v b, .int .i64 k] W fun e W' => e = .returned (.bool true) ∧ Below W.heap.size W W' := by
  have CL := Lib.hid fun w => awake15_any w
  obtain ⟨w1, hw1⟩ : ∃ w1, W.alloc (.cells (Bd_.C b) 27) = w1 := ⟨_, rfl⟩
  have S1 := Lib.hid (show Lst W W.heap.size b w1 from hw1 ▸ Lst.new (Below.refl _ _) b)
  have e1 := S1.out.box.all
  have l1 := S1.out.box.loadF
  by_cases hl : 3000 < b.nm.size
  · have hl' : (3000 : Int) < (b.nm.size : Int) := by omega
    clear hl
    go_enter Try.func5, Try.ntmps5
    go_wp2_with (go_at_call 7; refine (CL.out _).mono ?_; rintro e w2 ⟨rfl, hb⟩; have S2 := Lib.hid (S1.out.keep hb); clear hb)
    go_ret
    exact ⟨rfl, S2.out.bel⟩
  have hl' : ¬ (3000 : Int) < (b.nm.size : Int) := by omega
  have CE := Lib.hid fun w => mgEncode_any b w hw
  clear hl
  by_cases h0 : chk b = 0
  case neg =>
    have h0' : (chk b != 0) = true := by simp [h0]
    rw [enc_bad h0] at CE
    generalize chk b = r at *
    clear h0 hw
    go_enter Try.func5, Try.ntmps5
    go_wp2_with (first
      | (go_at_call 8; refine (CE.out _).mono ?_; rintro e w2 ⟨rfl, hb⟩; have S2 := Lib.hid (S1.out.keep hb); clear hb)
      | (go_at_call 7; refine (CL.out _).mono ?_; rintro e w3 ⟨rfl, hb⟩; have S3 := Lib.hid (S2.out.keep hb); clear hb))
    go_ret
    exact ⟨rfl, S3.out.bel⟩
  case pos =>
  rw [h0] at CE
  have hk := (chk_ok.1 h0).1
  have hd := dec_enc hw h0 (frk b.kd) (fst_frk hk).2
  have CF := Lib.hid fun w => mgFrame_any b w
  have CD : Hid (∀ w, Calls Try.prog 14 #[.int .i64 (frk b.kd), .string (enc b)] w fun e w' => e = .returned (.tuple #[Bd_.v b, .int .i64 0]) ∧ Below w.heap.size w w') := fun w => by
    have := mgDecode_any (frk b.kd) (enc b) w
    rw [hd.1, hd.2] at this
    exact this
  have CK := Lib.hid fun w => mgDecode_any k (enc b) w
  have CR := Lib.hid fun w => refCarries_any k b.kd w
  have hbn := fun W => bd_neq b b W
  have hbe := fun W => bd_eql b b W
  simp only [decide_true, Bool.not_true] at hbn hbe
  have hbg := fun op x y => bd_guard op x y b b
  cases hc : car k b.kd
  case true =>
    have hx := dec_enc hw h0 k hc
    rw [hx.1, hx.2] at CK
    rw [hc] at CR
    generalize frk b.kd = fc at *
    generalize enc b = s at *
    clear h0 hw hk hd hc hx
    go_enter Try.func5, Try.ntmps5
    go_wp2_with (first
      | (go_at_call 8; refine (CE.out _).mono ?_; rintro e w2 ⟨rfl, hb⟩; have S2 := Lib.hid (S1.out.keep hb); have l2 := S2.out.box.loadF; clear hb)
      | (go_at_call 12; refine (CF.out _).mono ?_; rintro e w3 ⟨rfl, hb⟩; have S3 := Lib.hid (S2.out.keep hb); clear hb)
      | (go_at_call 14; with_reducible refine (CK.out _).mono ?_; rintro e w5 ⟨rfl, hb⟩; have S5 := Lib.hid ((S4.out.keep hb).alloc (.cells (Bd_.C b) 27)); have e5 := S5.out.box.all; have L5 := Lib.hid (Lst.new (S4.out.keep hb).bel b); clear hb)
      | (go_at_call 14; with_reducible refine (CD.out _).mono ?_; rintro e w4 ⟨rfl, hb⟩; have S4 := Lib.hid ((S3.out.keep hb).alloc (.cells (Bd_.C b) 27)); have l4 := S4.out.box.loadF; have L4 := Lib.hid (Lst.new (S3.out.keep hb).bel b); have m4 := L4.out.box.loadF; clear hb)
      | (go_at_call 16; refine (CR.out _).mono ?_; rintro e w6 ⟨rfl, hb⟩; have S6 := Lib.hid (S5.out.keep hb); have L6 := Lib.hid (L5.out.keep hb); have l6 := S6.out.box.loadF; have m6 := L6.out.box.loadF; clear hb)
      | (go_at_call 7; refine (CL.out _).mono ?_; rintro e w7 ⟨rfl, hb⟩; have S7 := Lib.hid (S6.out.keep hb); clear hb))
    go_ret
    exact ⟨rfl, S7.out.bel⟩
  case false =>
    have hx := dec_other hw h0 k hc
    rw [hx.1, hx.2] at CK
    rw [hc] at CR
    have hze := fun W => bd_eql zb zb W
    simp only [decide_true] at hze
    have hzg := fun op x y => bd_guard op x y zb zb
    have hfold : (.agg #[.int .i64 0, .int .i64 0, .int .i64 0, .int .i64 0, .string ⟨#[]⟩, .int .i64 0, .int .i64 0, .int .u64 0, .int .i64 0, .int .i64 0, .int .i64 0, .int .i64 0, .int .i64 0, .int .i64 0, .int .i64 0, .int .i64 0, .int .i64 0] : Value) = Bd_.v zb := rfl
    have hze2 : ∀ W : World, (binOp .eql 27 (Bd_.v zb) (.agg (Bd_.C zb))).run Try.prog W = .ok (.bool true) W := hze
    have hzg2 : ∀ (op : BinOp) (a b : Operand) (W : World), (eqGuard op 27 a b (Bd_.v zb) (.agg (Bd_.C zb))).run Try.prog W = .ok () W := hzg
    generalize zb = z at *
    generalize frk b.kd = fc at *
    generalize enc b = s at *
    clear h0 hw hk hd hc hx
    go_enter Try.func5, Try.ntmps5
    go_wp2_with (first
      | (go_at_call 8; refine (CE.out _).mono ?_; rintro e w2 ⟨rfl, hb⟩; have S2 := Lib.hid (S1.out.keep hb); have l2 := S2.out.box.loadF; clear hb)
      | (go_at_call 12; refine (CF.out _).mono ?_; rintro e w3 ⟨rfl, hb⟩; have S3 := Lib.hid (S2.out.keep hb); clear hb)
      | (go_at_call 14; with_reducible refine (CK.out _).mono ?_; rintro e w5 ⟨rfl, hb⟩; have S5 := Lib.hid ((S4.out.keep hb).alloc (.cells (Bd_.C z) 27)); have e5 := S5.out.box.all; have L5 := Lib.hid (Lst.new (S4.out.keep hb).bel z); clear hb)
      | (go_at_call 14; with_reducible refine (CD.out _).mono ?_; rintro e w4 ⟨rfl, hb⟩; have S4 := Lib.hid ((S3.out.keep hb).alloc (.cells (Bd_.C b) 27)); have l4 := S4.out.box.loadF; have L4 := Lib.hid (Lst.new (S3.out.keep hb).bel b); have m4 := L4.out.box.loadF; clear hb)
      | (go_at_call 16; refine (CR.out _).mono ?_; rintro e w6 ⟨rfl, hb⟩; have S6 := Lib.hid (S5.out.keep hb); have L6 := Lib.hid (L5.out.keep hb); have m6 := L6.out.box.loadF; clear hb)
      | (go_at_call 7; refine (CL.out _).mono ?_; rintro e w7 ⟨rfl, hb⟩; have S7 := Lib.hid (S6.out.keep hb); clear hb))
    go_ret
    exact ⟨rfl, S7.out.bel⟩
end Go.Proofs.Ytcpfkikifhcdmaa
