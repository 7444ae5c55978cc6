/-
  WALKS of the laws of layer 10: write, lives.
-/
import Derived.Test.YthpilpcjnpnodaaDoorHdWrite
import Derived.Test.YthpilpcjnpnodaaDoorHdProgCheck
namespace Go.Proofs.YthpilpcjnpnodaaDoor
open Go.RowKit Go.Hd Go.Wr Go.Ad
attribute [local go_sem ↓ high] Fr_.loadF Fr_.storeF Fr_.v_cells Fr_.v_match
attribute [local go_sem] Fr_.C0 Fr_.C1 Fr_.C2 Fr_.C3 Fr_.C4 Fr_.C5 Fr_.C6 Fr_.C7 Fr_.C8 Fr_.C9 Fr_.C10 Fr_.C11 Fr_.C12 Fr_.C13 Fr_.C14 Fr_.C15 Fr_.C16 Fr_.C17 Fr_.loadF_new Fr_.storeF_zero

set_option maxRecDepth 100000 in
set_option maxHeartbeats 2000000 in
theorem lawWrite_any (f : Fr) (w : World) (ht : HdTab w) (hf : Okf f) :
    Calls Tryd.prog 31 #[Fr_.v f] w fun e w' => e = .returned (.tuple #[.string ⟨(oct f).toArray⟩, .int .i64 0]) ∧ Below w.heap.size w w' := by
  obtain ⟨w1, hw1⟩ : ∃ w1, w.alloc (.cells (Fr_.C f) 25) = w1 := ⟨_, rfl⟩
  have S1 : Stf w w.heap.size f w1 := hw1 ▸ Stf.new w f
  have hs1 : w1.heap.size = w.heap.size + 1 := by rw [← hw1]; simp
  obtain ⟨w2, hw2⟩ : ∃ w2, w1.alloc (.cells #[.int .i64 0, .pointer none, .string ⟨#[]⟩] 39) = w2 := ⟨_, rfl⟩
  have S2 : Stf w w.heap.size f w2 := hw2 ▸ Stf.keep _ _ S1 ((Below.refl _ _).alloc (Nat.le_refl _) _)
  have W2 : Wr w2 w1.heap.size [] := ⟨none, ⟨#[]⟩, [], by rw [← hw2]; exact Blk.new _ _ _ _ rfl, .nil, rfl⟩
  have l2 := S2.box.loadF
  have CW := Lib.hid (progWrite_any f w2 w1.heap.size [] (ht.below S2.bel (Nat.le_refl _)) hf W2 (by decide))
  have HS := Lib.hid S2
  have HL : Hid ((oct f).length ≤ 140737488351232) := by
    unfold Hid oct o1 o2 o3 o4 o5
    repeat' split
    all_goals simp [le_len, be_len]
  have H1 := Lib.hid hs1
  have H0 := Lib.hid ((show Below w.heap.size w w1 from S1.bel))
  clear ht hf S1 S2 W2 hs1
  go_enter Tryd.func31, Tryd.ntmps31
  go_wp2_with (first
    | (go_at_call 23; refine CW.out.mono ?_; rintro e w3 ⟨rfl, h3, b3⟩; have HW := Lib.hid h3; have HB := Lib.hid b3; clear h3 b3)
    | (go_at_call 24; refine (done_ok _ _ _ HW.out HL.out).mono ?_; rintro e w4 ⟨rfl, b4⟩; have HD := Lib.hid b4; clear b4))
  go_returns
  refine ⟨rfl, ?_⟩
  have b2 := HS.out.bel
  have b3 : Below w.heap.size w2 w3 := HB.out.below b2.size (by have := H1.out; omega)
  exact (b2.trans b3).trans (HD.out.mono (Nat.le_trans b2.size b3.size))

/-! ### The examples of the document -/
def ack : Fr := ⟨14, false, false, false, false, false, false, 0, 5, 2199023255553, 0, 0, 0, 0, 0, 0, 0, ⟨#[]⟩⟩
def ackG : Fr := { ack with ct := 1 }
def ackH : Fr := { ack with du := -1 }
theorem v_ack : (.agg #[.int .i64 14, .bool false, .bool false, .bool false, .bool false, .bool false, .bool false, .int .i64 0, .int .i64 5, .int .u64 2199023255553, .int .u64 0, .int .u64 0, .int .i64 0, .int .i64 0, .int .i64 0, .int .i64 0, .int .i64 0, .string ⟨#[]⟩] : Value) = Fr_.v ack := rfl
theorem set_ackG : (Fr_.C ack).setIfInBounds 14 (.int .i64 1) = Fr_.C ackG := rfl
theorem set_ackH : (Fr_.C ack).setIfInBounds 8 (.int .i64 (-1)) = Fr_.C ackH := rfl
theorem chk_ack : chk ack = 0 := by decide +kernel
theorem chk_ackG : chk ackG = 3 := by decide +kernel
theorem chk_ackH : chk ackH = 4 := by decide +kernel
theorem oct_ack : (oct ack).toArray = #[14, 0, 5, 0, 2, 0, 0, 0, 0, 1] := by decide +kernel
theorem fru_ack : FrU ack := ⟨by constructor <;> decide, by constructor <;> decide, by constructor <;> decide⟩
theorem fru_ackG : FrU ackG := ⟨by constructor <;> decide, by constructor <;> decide, by constructor <;> decide⟩
theorem fru_ackH : FrU ackH := ⟨by constructor <;> decide, by constructor <;> decide, by constructor <;> decide⟩
attribute [local go_sem] v_ack set_ackG set_ackH

set_option maxRecDepth 100000 in
set_option maxHeartbeats 4000000 in
theorem lives10_any (w : World) (ht : HdTab w) :
    Calls Tryd.prog 13 #[] w fun e w' => e = .returned (.bool true) ∧ Below w.heap.size w w' := by
  obtain ⟨w1, hw1⟩ : ∃ w1, w.alloc (.cells (Fr_.C ack) 25) = w1 := ⟨_, rfl⟩
  have S1 : Stf w w.heap.size ack w1 := hw1 ▸ Stf.new w ack
  have l1 := S1.box.loadF
  have CW := Lib.hid (lawWrite_any ack w1 (ht.below S1.bel (Nat.le_refl _)) (okf_of chk_ack))
  rw [oct_ack] at CW
  have HS := Lib.hid S1
  have HT := Lib.hid ht
  clear ht S1
  go_enter Tryd.func13, Tryd.ntmps13
  go_wp2_with (first
    | (go_at_call 31; refine CW.out.mono ?_; rintro e w2 ⟨rfl, b2⟩; have S2 := Lib.hid (Stf.keep _ _ HS.out b2); clear b2; have l2 := S2.out.box.loadF
       obtain ⟨w3, hw3⟩ : ∃ w3, w2.alloc (.cells (Fr_.C ackG) 25) = w3 := ⟨_, rfl⟩
       have S3 := Lib.hid (hw3 ▸ Stf.keep _ _ S2.out ((Below.refl _ _).alloc (Nat.le_refl _) _)); have l3 := S3.out.box.loadF
       have G3 := Lib.hid (hw3 ▸ Stf.new w2 ackG)
       obtain ⟨w4, hw4⟩ : ∃ w4, w3.alloc (.cells (Fr_.C ackH) 25) = w4 := ⟨_, rfl⟩
       have S4 := Lib.hid (hw4 ▸ Stf.keep _ _ S3.out ((Below.refl _ _).alloc (Nat.le_refl _) _)); have l4 := S4.out.box.loadF
       have G4 := Lib.hid (hw4 ▸ Stf.keep _ _ G3.out ((Below.refl _ _).alloc (Nat.le_refl _) _))
       have H4 := Lib.hid (hw4 ▸ Stf.new w3 ackH)
       have C4 := Lib.hid (progCheck_any ack w4 (HT.out.below S4.out.bel (Nat.le_refl _)) fru_ack))
    | (go_at_call 9; with_reducible refine C4.out.mono ?_; rintro e w5 ⟨he, b5⟩; rw [chk_ack] at he; subst he; have S5 := Lib.hid (Stf.keep _ _ S4.out b5); have G5 := Lib.hid (Stf.keep _ _ G4.out b5); have H5 := Lib.hid (Stf.keep _ _ H4.out b5); clear b5 l2 l3 l4; have l5 := G5.out.box.loadF
       have C5 := Lib.hid (progCheck_any ackG w5 (HT.out.below S5.out.bel (Nat.le_refl _)) fru_ackG))
    | (go_at_call 9; with_reducible refine C5.out.mono ?_; rintro e w6 ⟨he, b6⟩; rw [chk_ackG] at he; subst he; have S6 := Lib.hid (Stf.keep _ _ S5.out b6); have H6 := Lib.hid (Stf.keep _ _ H5.out b6); clear b6 l5; have l6 := H6.out.box.loadF
       have C6 := Lib.hid (progCheck_any ackH w6 (HT.out.below S6.out.bel (Nat.le_refl _)) fru_ackH))
    | (go_at_call 9; with_reducible refine C6.out.mono ?_; rintro e w7 ⟨he, b7⟩; rw [chk_ackH] at he; subst he; have S7 := Lib.hid (Stf.keep _ _ S6.out b7); clear b7))
  go_returns
  exact ⟨rfl, S7.out.bel⟩
end Go.Proofs.YthpilpcjnpnodaaDoor
