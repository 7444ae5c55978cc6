/-
  THE LAWS of layer 15: what all of them end in (awake).
-/
import Derived.Test.YtcpfkikifhcdmaaMgDec
namespace Go.Mg
def x1 : Bd := { zb with kd := 1, sp := 1, hn := 258 }
def x2 : Bd := { zb with kd := 5, st := 3 }
def x3 : Bd := { zb with kd := 5, st := 256 }
def x4 : Bd := { zb with kd := 5, st := 256, ai := 1 }
def x5 : Bd := { zb with kd := 4 }
theorem x1_chk : chk x1 = 0 := by decide +kernel
theorem x1_enc : enc x1 = ⟨#[1, 1, 0, 2, 1]⟩ := by decide +kernel
theorem x3_chk : chk x3 = 4 := by decide +kernel
theorem x4_chk : chk x4 = 3 := by decide +kernel
theorem x5_frk : frk x5.kd = 6 := by decide +kernel
theorem x_w : BdW x1 ∧ BdW x3 ∧ BdW x4 := ⟨⟨by decide, by decide⟩, ⟨by decide, by decide⟩, ⟨by decide, by decide⟩⟩
end Go.Mg
namespace Go.Proofs.Ytcpfkikifhcdmaa
open Go.RowKit Go.Mg Go.Wr
attribute [local go_sem ↓ high] Bd_.loadF Bd_.storeF Bd_.v_cells Bd_.v_match
attribute [local go_sem] Bd_.loadF_new Bd_.storeF_zero
theorem x2_dec : dcE 10 ⟨#[5, 3]⟩ = 0 ∧ dcB 10 ⟨#[5, 3]⟩ = x2 := ⟨by decide +kernel, by decide +kernel⟩
theorem x2_bad : dcE 4 ⟨#[5, 3]⟩ = 3 ∧ dcB 4 ⟨#[5, 3]⟩ = zb := ⟨by decide +kernel, by decide +kernel⟩

set_option maxRecDepth 100000 in
set_option maxHeartbeats 8000000 in
theorem awake15_any (w : World) :
    Calls Try.prog 7 #[] w fun e w' => e = .returned (.bool true) ∧ Below w.heap.size w w' := by
  have CE : Hid (∀ w, Calls Try.prog 8 #[Bd_.v x1] w fun e w' => e = .returned (.tuple #[.string ⟨#[1, 1, 0, 2, 1]⟩, .int .i64 0]) ∧ Below w.heap.size w w') := fun w => by
    have := mgEncode_any x1 w x_w.1
    rw [x1_enc, x1_chk] at this
    exact this
  have CD1 : Hid (∀ w, Calls Try.prog 14 #[.int .i64 10, .string ⟨#[5, 3]⟩] w fun e w' => e = .returned (.tuple #[Bd_.v x2, .int .i64 0]) ∧ Below w.heap.size w w') := fun w => by
    have := mgDecode_any 10 ⟨#[5, 3]⟩ w
    rw [x2_dec.1, x2_dec.2] at this
    exact this
  have CD2 : Hid (∀ w, Calls Try.prog 14 #[.int .i64 4, .string ⟨#[5, 3]⟩] w fun e w' => e = .returned (.tuple #[Bd_.v zb, .int .i64 3]) ∧ Below w.heap.size w w') := fun w => by
    have := mgDecode_any 4 ⟨#[5, 3]⟩ w
    rw [x2_bad.1, x2_bad.2] at this
    exact this
  have CC3 : Hid (∀ w, Calls Try.prog 10 #[Bd_.v x3] w fun e w' => e = .returned (.int .i64 4) ∧ Below w.heap.size w w') := fun w => by
    have := mgCheck_any x3 w x_w.2.1
    rw [x3_chk] at this
    exact this
  have CC4 : Hid (∀ w, Calls Try.prog 10 #[Bd_.v x4] w fun e w' => e = .returned (.int .i64 3) ∧ Below w.heap.size w w') := fun w => by
    have := mgCheck_any x4 w x_w.2.2
    rw [x4_chk] at this
    exact this
  have CF : Hid (∀ w, Calls Try.prog 12 #[Bd_.v x5] w fun e w' => e = .returned (.int .i64 6) ∧ Below w.heap.size w w') := fun w => by
    have := mgFrame_any x5 w
    rw [x5_frk] at this
    exact this
  have f1 : (.agg #[.int .i64 1, .int .i64 1, .int .i64 0, .int .i64 258, .string ⟨#[]⟩, .int .i64 0, .int .i64 0, .int .u64 0, .int .i64 0, .int .i64 0, .int .i64 0, .int .i64 0, .int .i64 0, .int .i64 0, .int .i64 0, .int .i64 0, .int .i64 0] : Value) = Bd_.v x1 := rfl
  have f2 : (.agg #[.int .i64 5, .int .i64 0, .int .i64 3, .int .i64 0, .string ⟨#[]⟩, .int .i64 0, .int .i64 0, .int .u64 0, .int .i64 0, .int .i64 0, .int .i64 0, .int .i64 0, .int .i64 0, .int .i64 0, .int .i64 0, .int .i64 0, .int .i64 0] : Value) = Bd_.v x2 := rfl
  have f3 : (.agg #[.int .i64 5, .int .i64 0, .int .i64 256, .int .i64 0, .string ⟨#[]⟩, .int .i64 0, .int .i64 0, .int .u64 0, .int .i64 0, .int .i64 0, .int .i64 0, .int .i64 0, .int .i64 0, .int .i64 0, .int .i64 0, .int .i64 0, .int .i64 0] : Value) = Bd_.v x3 := rfl
  have f4 : (.agg #[.int .i64 5, .int .i64 0, .int .i64 256, .int .i64 0, .string ⟨#[]⟩, .int .i64 0, .int .i64 0, .int .u64 0, .int .i64 1, .int .i64 0, .int .i64 0, .int .i64 0, .int .i64 0, .int .i64 0, .int .i64 0, .int .i64 0, .int .i64 0] : Value) = Bd_.v x4 := rfl
  have f5 : (.agg #[.int .i64 4, .int .i64 0, .int .i64 0, .int .i64 0, .string ⟨#[]⟩, .int .i64 0, .int .i64 0, .int .u64 0, .int .i64 0, .int .i64 0, .int .i64 0, .int .i64 0, .int .i64 0, .int .i64 0, .int .i64 0, .int .i64 0, .int .i64 0] : Value) = Bd_.v x5 := rfl
  have hbe := fun W => bd_eql x2 x2 W
  simp only [decide_true] at hbe
  have hbg := fun op a b => bd_guard op a b x2 x2
  generalize x1 = y1 at *
  generalize x2 = y2 at *
  generalize x3 = y3 at *
  generalize x4 = y4 at *
  generalize x5 = y5 at *
  go_enter Try.func7, Try.ntmps7
  go_wp2_with (first
    | (go_at_call 8; with_reducible refine (CE.out _).mono ?_; rintro e w2 ⟨rfl, hb⟩; have B2 := Lib.hid hb; clear hb)
    | (go_at_call 14; with_reducible refine (CD1.out _).mono ?_; rintro e w3 ⟨rfl, hb⟩; have B3 := Lib.hid (B2.out.trans (hb.mono B2.out.size)); have S3 := Lib.hid (Bd_.Box.new w3 y2); clear hb)
    | (go_at_call 14; with_reducible refine (CD2.out _).mono ?_; rintro e w4 ⟨rfl, hb⟩; have S4 := Lib.hid ((S3.out.below hb S3.out.lt).allocC (.cells (Bd_.C zb) 27)); have l4 := S4.out.loadF; have B4 := Lib.hid (((B3.out.alloc B3.out.size _).trans (hb.mono (B3.out.alloc B3.out.size _).size)).alloc ((B3.out.alloc B3.out.size (.cells (Bd_.C y2) 27)).trans (hb.mono (B3.out.alloc B3.out.size _).size)).size (.cells (Bd_.C zb) 27)); clear hb)
    | (go_at_call 10; with_reducible refine (CC3.out _).mono ?_; rintro e w5 ⟨rfl, hb⟩; have B5 := Lib.hid (B4.out.trans (hb.mono B4.out.size)); clear hb)
    | (go_at_call 10; with_reducible refine (CC4.out _).mono ?_; rintro e w6 ⟨rfl, hb⟩; have B6 := Lib.hid (B5.out.trans (hb.mono B5.out.size)); clear hb)
    | (go_at_call 12; with_reducible refine (CF.out _).mono ?_; rintro e w7 ⟨rfl, hb⟩; have B7 := Lib.hid (B6.out.trans (hb.mono B6.out.size)); clear hb))
  go_ret
  exact ⟨rfl, B7.out⟩
end Go.Proofs.Ytcpfkikifhcdmaa
