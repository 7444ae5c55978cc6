/-
  THE LAW HeaderWrites of layer 10.
-/
import Derived.Test.YthpilpcjnpnodaaDoorHdLaws1
import Derived.Test.YthpilpcjnpnodaaDoorHdRefOct2
namespace Go.Proofs.YthpilpcjnpnodaaDoor
open Go.RowKit Go.Hd Go.Wr Go.Ad
attribute [local go_sem ↓ high] Fr_.loadF Fr_.storeF Fr_.v_cells Fr_.v_match
attribute [local go_sem] Fr_.C0 Fr_.C1 Fr_.C2 Fr_.C3 Fr_.C4 Fr_.C5 Fr_.C6 Fr_.C7 Fr_.C8 Fr_.C9 Fr_.C10 Fr_.C11 Fr_.C12 Fr_.C13 Fr_.C14 Fr_.C15 Fr_.C16 Fr_.C17 Fr_.loadF_new Fr_.storeF_zero

theorem oct_len (f : Fr) : (oct f).length ≤ 40 := by
  unfold oct o1 o2 o3 o4 o5
  repeat' split
  all_goals simp [le_len, be_len]

set_option maxRecDepth 100000 in
set_option maxHeartbeats 4000000 in
theorem headerWrites_walk0 (f : Fr) (hw : FrWf f) (t : ByteArray) (_ : t.size ≤ 140737488351232) (W : World) (hl : LaidFacts W) :
    Calls Tryd.prog 5 #[Fr_.v f, .string t] W fun e w' => e = .returned (.bool true) ∧ Below W.heap.size W w' := by
  have HT : Hid (∀ w, Below W.heap.size W w → HdTab w) := fun w hb => HdTab.below hl hb (Nat.le_refl _)
  have HU := Lib.hid (fru_wf hw)
  have CC := Lib.hid (refCheck_any f)
  obtain ⟨w1, hw1⟩ : ∃ w1, W.alloc (.cells (Fr_.C f) 25) = w1 := ⟨_, rfl⟩
  have S1 := Lib.hid (show Stf W W.heap.size f w1 from hw1 ▸ Stf.new W f)
  have l1 := S1.out.box.loadF
  clear hw hl
  by_cases hc : chk f = 0
  case neg =>
    have hcn : (chk f != 0) = true := by rw [bne_iff_ne]; exact hc
    clear hc
    go_enter Tryd.func5, Tryd.ntmps5
    go_wp2_with (first
      | (go_at_call 10; refine (CC.out _).mono ?_; rintro e w2 ⟨rfl, hb⟩; have S2 := Lib.hid (Stf.keep _ _ S1.out hb); clear hb)
      | (go_at_call 13; refine (lives10_any _ (HT.out _ S2.out.bel)).mono ?_; rintro e w3 ⟨rfl, hb⟩; have S3 := Lib.hid (Stf.keep _ _ S2.out hb); clear hb))
    go_returns
    exact ⟨rfl, S3.out.bel⟩
  have hf := Lib.hid (okf_of hc)
  rw [hc] at CC
  by_cases hs : (100 : Int) < (t.size : Int)
  · clear hc
    go_enter Tryd.func5, Tryd.ntmps5
    go_wp2_with (first
      | (go_at_call 10; refine (CC.out _).mono ?_; rintro e w2 ⟨rfl, hb⟩; have S2 := Lib.hid (Stf.keep _ _ S1.out hb); clear hb)
      | (go_at_call 13; refine (lives10_any _ (HT.out _ S2.out.bel)).mono ?_; rintro e w3 ⟨rfl, hb⟩; have S3 := Lib.hid (Stf.keep _ _ S2.out hb); clear hb))
    go_returns
    exact ⟨rfl, S3.out.bel⟩
  have HZ := Lib.hid (show t.size ≤ 100 by omega)
  have htl : t.data.toList.length = t.size := Array.length_toList
  have HL := Lib.hid (show t.data.toList.length ≤ 100 by omega)
  have ho := oct_len f
  have hadd : ∀ w, (Op.stringOp .add t (bs (oct f))).run Tryd.prog w = .ok (.string ⟨(t.data.toList ++ oct f).toArray⟩) w := fun w => add_run t.data.toList (oct f) (by omega) w
  have HO := Lib.hid ho
  clear hc htl ho
  go_enter Tryd.func5, Tryd.ntmps5
  go_wp2_with (first
    | (go_at_call 10; refine (CC.out _).mono ?_; rintro e w2 ⟨rfl, hb⟩; have S2 := Lib.hid (Stf.keep _ _ S1.out hb); clear hb
       obtain ⟨w3, hw3⟩ : ∃ w3, w2.alloc (.cells #[.int .i64 0, .pointer none, .string ⟨#[]⟩] 39) = w3 := ⟨_, rfl⟩
       have S3 := Lib.hid (show Stf W W.heap.size f w3 from hw3 ▸ Stf.keep _ _ S2.out ((Below.refl _ _).alloc (Nat.le_refl _) _))
       have W3 : Hid (Wr w3 w2.heap.size []) := ⟨none, ⟨#[]⟩, [], by rw [← hw3]; exact Blk.new _ _ _ _ rfl, .nil, rfl⟩)
    | (go_at_call 22; refine (text_ok _ [] t _ W3.out (by have := HZ.out; simp; omega)).mono ?_; rintro e w4 ⟨rfl, h4, b4⟩; have W4 := Lib.hid h4; have S4 := Lib.hid (show Stf W W.heap.size f w4 from ⟨But.box b4 S3.out.box (Nat.ne_of_lt S2.out.box.lt), S3.out.bel.trans (b4.below S3.out.bel.size (Nat.le_trans S2.out.bel.size (Nat.le_refl _)))⟩); clear h4 b4; have l4 := S4.out.box.loadF)
    | (go_at_call 23; refine (progWrite_any f _ _ _ (HT.out _ S4.out.bel) hf.out W4.out (by have := HL.out; simp at this ⊢; omega)).mono ?_; rintro e w5 ⟨rfl, h5, b5⟩; have W5 := Lib.hid h5; have S5 := Lib.hid (show Stf W W.heap.size f w5 from ⟨But.box b5 S4.out.box (Nat.ne_of_lt S2.out.box.lt), S4.out.bel.trans (b5.below S4.out.bel.size S2.out.bel.size)⟩); clear h5 b5)
    | (go_at_call 24; refine (done_ok _ _ _ W5.out (by have := HL.out; have := HO.out; simp at this ⊢; omega)).mono ?_; rintro e w6 ⟨rfl, hb⟩; have S6 := Lib.hid (Stf.keep _ _ S5.out hb); clear hb; have l6 := S6.out.box.loadF)
    | (go_at_call 25; refine (refOctets10_any f _ hf.out HU.out).mono ?_; rintro e w7 ⟨rfl, hb⟩; have S7 := Lib.hid (Stf.keep _ _ S6.out hb); clear hb)
    | (go_at_call 13; refine (lives10_any _ (HT.out _ S7.out.bel)).mono ?_; rintro e w8 ⟨rfl, hb⟩; have S8 := Lib.hid (Stf.keep _ _ S7.out hb); clear hb))
  go_returns
  exact ⟨rfl, S8.out.bel⟩
end Go.Proofs.YthpilpcjnpnodaaDoor
