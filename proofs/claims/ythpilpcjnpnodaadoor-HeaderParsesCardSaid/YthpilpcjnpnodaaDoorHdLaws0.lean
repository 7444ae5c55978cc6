/-
  THE LAWS of layer 10: HeaderKinds, HeaderNames.
-/
import Derived.Test.YthpilpcjnpnodaaDoorHdLives
import Derived.Test.YthpilpcjnpnodaaDoorHdBy
import Derived.Test.YthpilpcjnpnodaaDoorHdKinds
namespace Go.Proofs.YthpilpcjnpnodaaDoor
open Go.RowKit Go.Hd Go.Wr Go.Ad
attribute [local go_sem ↓ high] Fr_.loadF Fr_.storeF Fr_.v_cells Fr_.v_match
attribute [local go_sem] Fr_.C0 Fr_.C1 Fr_.C2 Fr_.C3 Fr_.C4 Fr_.C5 Fr_.C6 Fr_.C7 Fr_.C8 Fr_.C9 Fr_.C10 Fr_.C11 Fr_.C12 Fr_.C13 Fr_.C14 Fr_.C15 Fr_.C16 Fr_.C17 Fr_.loadF_new Fr_.storeF_zero

abbrev LaidFacts (W : World) : Prop := HdTab W
theorem laidFacts {W : World} (h : laidMetH Tryd.prog Rows.headerChecksRow.laid W) : LaidFacts W := by
  rw [MakeChecks.laidMetH_plain _ _ _ (by kernel_rfl)] at h
  exact tab_of_laid h

set_option maxRecDepth 100000 in
set_option maxHeartbeats 4000000 in
theorem headerKinds_walk0 (k : Int) (_ : (Lit.int .i64 k).wf = true) (s : ByteArray) (_ : s.size ≤ 140737488351232) (W : World) (hl : LaidFacts W) :
    Calls Tryd.prog 4 #[.int .i64 k, .string s] W fun e w' => e = .returned (.bool true) ∧ Below W.heap.size W w' := by
  have HT : Hid (∀ w, Below W.heap.size W w → HdTab w) := fun w hb => HdTab.below hl hb (Nat.le_refl _)
  have HB0 : Hid (Below W.heap.size W W) := Below.refl _ _
  clear hl
  go_enter Tryd.func4, Tryd.ntmps4
  go_wp2_with (first
    | (go_at_call 14; refine (class_any k _ (HT.out _ HB0.out)).mono ?_; rintro e w1 ⟨rfl, hb⟩; have HB1 := Lib.hid (HB0.out.trans (hb.mono HB0.out.size)); clear hb)
    | (go_at_call 15; refine (refClass_any k _).mono ?_; rintro e w2 ⟨rfl, rfl⟩)
    | (go_at_call 16; refine (name_any k _ (HT.out _ HB1.out)).mono ?_; rintro e w3 ⟨rfl, hb⟩; have HB3 := Lib.hid (HB1.out.trans (hb.mono HB1.out.size)); clear hb)
    | (go_at_call 17; refine (refName_any k _).mono ?_; rintro e w4 ⟨rfl, hb⟩; have HB4 := Lib.hid (HB3.out.trans (hb.mono HB3.out.size)); clear hb)
    | (go_at_call 18; refine (byName_any s _ (HT.out _ HB4.out)).mono ?_; rintro e w5 ⟨rfl, hb⟩; have HB5 := Lib.hid (HB4.out.trans (hb.mono HB4.out.size)); clear hb)
    | (go_at_call 19; refine (refByName_any s _).mono ?_; rintro e w6 ⟨rfl, hb⟩; have HB6 := Lib.hid (HB5.out.trans (hb.mono HB5.out.size)); clear hb)
    | (go_at_call 20; refine (response_any k _ (HT.out _ HB6.out)).mono ?_; rintro e w7 ⟨rfl, hb⟩; have HB7 := Lib.hid (HB6.out.trans (hb.mono HB6.out.size)); clear hb)
    | (go_at_call 21; refine (refResponse_any k _).mono ?_; rintro e w8 ⟨rfl, rfl⟩)
    | (go_at_call 13; refine (lives10_any _ (HT.out _ HB7.out)).mono ?_; rintro e w9 ⟨rfl, hb⟩; have HB9 := Lib.hid (HB7.out.trans (hb.mono HB7.out.size)); clear hb))
  go_returns
  exact ⟨rfl, HB9.out⟩

set_option maxRecDepth 100000 in
set_option maxHeartbeats 4000000 in
theorem headerNames_walk0 (k : Int) (_ : (Lit.int .i64 k).wf = true) (W : World) (hl : LaidFacts W) :
    Calls Tryd.prog 8 #[.int .i64 k] W fun e w' => e = .returned (.bool true) ∧ Below W.heap.size W w' := by
  have HT : Hid (∀ w, Below W.heap.size W w → HdTab w) := fun w hb => HdTab.below hl hb (Nat.le_refl _)
  have HB0 : Hid (Below W.heap.size W W) := Below.refl _ _
  have CN := Lib.hid (name_any k)
  have CC := Lib.hid (class_any k)
  have CE := Lib.hid (byName_any ⟨#[]⟩)
  rw [byN_empty] at CE
  clear hl
  by_cases hk : isK k
  · have h1 : 1 ≤ k := hk.1
    have h2 : k ≤ 19 := hk.2
    have hne : (nm k).toList.isEmpty = false := by
      rw [ByteArray.toList_eq]
      have := nm_ne hk
      simpa using this
    have hc1 := (cls_yes hk).1
    have hc2 := (cls_yes hk).2
    have hc0 : (cls k != 0) = true := by rw [bne_iff_ne]; omega
    have hc3 : ¬ 3 < cls k := by omega
    have CB := Lib.hid (byName_any (nm k))
    rw [byN_nm hk] at CB
    generalize nm k = s at *
    generalize cls k = c at *
    clear hk hc1 hc2
    go_enter Tryd.func8, Tryd.ntmps8
    go_wp2_with (first
      | (go_at_call 16; refine (CN.out _ (HT.out _ HB0.out)).mono ?_; rintro e w1 ⟨rfl, hb⟩; have HB1 := Lib.hid (HB0.out.trans (hb.mono HB0.out.size)); clear hb HB0; have HB0 := HB1; clear HB1)
      | (go_at_call 14; refine (CC.out _ (HT.out _ HB0.out)).mono ?_; rintro e w1 ⟨rfl, hb⟩; have HB1 := Lib.hid (HB0.out.trans (hb.mono HB0.out.size)); clear hb HB0; have HB0 := HB1; clear HB1)
      | (go_at_call 18; with_reducible refine (CB.out _ (HT.out _ HB0.out)).mono ?_; rintro e w1 ⟨rfl, hb⟩; have HB1 := Lib.hid (HB0.out.trans (hb.mono HB0.out.size)); clear hb HB0; have HB0 := HB1; clear HB1)
      | (go_at_call 18; with_reducible refine (CE.out _ (HT.out _ HB0.out)).mono ?_; rintro e w1 ⟨rfl, hb⟩; have HB1 := Lib.hid (HB0.out.trans (hb.mono HB0.out.size)); clear hb HB0; have HB0 := HB1; clear HB1)
      | (go_at_call 13; refine (lives10_any _ (HT.out _ HB0.out)).mono ?_; rintro e w1 ⟨rfl, hb⟩; have HB1 := Lib.hid (HB0.out.trans (hb.mono HB0.out.size)); clear hb HB0; have HB0 := HB1; clear HB1))
    go_returns
    exact ⟨rfl, HB0.out⟩
  · rw [nm_no hk] at CN
    rw [cls_no hk] at CC
    by_cases h1 : 1 ≤ k
    · have h2 : ¬ k ≤ 19 := fun h => hk ⟨h1, h⟩
      clear hk
      go_enter Tryd.func8, Tryd.ntmps8
      go_wp2_with (first
        | (go_at_call 16; refine (CN.out _ (HT.out _ HB0.out)).mono ?_; rintro e w1 ⟨rfl, hb⟩; have HB1 := Lib.hid (HB0.out.trans (hb.mono HB0.out.size)); clear hb HB0; have HB0 := HB1; clear HB1)
        | (go_at_call 14; refine (CC.out _ (HT.out _ HB0.out)).mono ?_; rintro e w1 ⟨rfl, hb⟩; have HB1 := Lib.hid (HB0.out.trans (hb.mono HB0.out.size)); clear hb HB0; have HB0 := HB1; clear HB1)
        | (go_at_call 18; with_reducible refine (CE.out _ (HT.out _ HB0.out)).mono ?_; rintro e w1 ⟨rfl, hb⟩; have HB1 := Lib.hid (HB0.out.trans (hb.mono HB0.out.size)); clear hb HB0; have HB0 := HB1; clear HB1)
        | (go_at_call 13; refine (lives10_any _ (HT.out _ HB0.out)).mono ?_; rintro e w1 ⟨rfl, hb⟩; have HB1 := Lib.hid (HB0.out.trans (hb.mono HB0.out.size)); clear hb HB0; have HB0 := HB1; clear HB1))
      go_returns
      exact ⟨rfl, HB0.out⟩
    · clear hk
      go_enter Tryd.func8, Tryd.ntmps8
      go_wp2_with (first
        | (go_at_call 16; refine (CN.out _ (HT.out _ HB0.out)).mono ?_; rintro e w1 ⟨rfl, hb⟩; have HB1 := Lib.hid (HB0.out.trans (hb.mono HB0.out.size)); clear hb HB0; have HB0 := HB1; clear HB1)
        | (go_at_call 14; refine (CC.out _ (HT.out _ HB0.out)).mono ?_; rintro e w1 ⟨rfl, hb⟩; have HB1 := Lib.hid (HB0.out.trans (hb.mono HB0.out.size)); clear hb HB0; have HB0 := HB1; clear HB1)
        | (go_at_call 18; with_reducible refine (CE.out _ (HT.out _ HB0.out)).mono ?_; rintro e w1 ⟨rfl, hb⟩; have HB1 := Lib.hid (HB0.out.trans (hb.mono HB0.out.size)); clear hb HB0; have HB0 := HB1; clear HB1)
        | (go_at_call 13; refine (lives10_any _ (HT.out _ HB0.out)).mono ?_; rintro e w1 ⟨rfl, hb⟩; have HB1 := Lib.hid (HB0.out.trans (hb.mono HB0.out.size)); clear hb HB0; have HB0 := HB1; clear HB1))
      go_returns
      exact ⟨rfl, HB0.out⟩
end Go.Proofs.YthpilpcjnpnodaaDoor
