/-
  WALKS of the landed package header (8c902e7): Check, Length.
-/
import Derived.Test.YtacbhbejchjbiaaDoorHdContra
import Derived.Test.YtacbhbejchjbiaaDoorHdFrame
namespace Go.Proofs.YtacbhbejchjbiaaDoor
open Go.RowKit Go.Hd
attribute [local go_sem ↓ high] Fr_.loadF Fr_.storeF Fr_.v_cells Fr_.v_match
attribute [local go_sem] Fr_.C0 Fr_.C1 Fr_.C2 Fr_.C3 Fr_.C4 Fr_.C5 Fr_.C6 Fr_.C7 Fr_.C8 Fr_.C9 Fr_.C10 Fr_.C11 Fr_.C12 Fr_.C13 Fr_.C14 Fr_.C15 Fr_.C16 Fr_.C17 Fr_.loadF_new

/-- The check in the order of the landed code. -/
theorem chk_prog (f : Fr) : (¬ isK f.kd ∧ chk f = 3) ∨ (isK f.kd ∧ ¬ adf f ∧ chk f = 4) ∨ (isK f.kd ∧ adf f ∧ ¬ nuf f ∧ chk f = 4) ∨ (isK f.kd ∧ adf f ∧ nuf f ∧ bd f.kd ∧ 2048 < f.bo.size ∧ chk f = 2) ∨
    (isK f.kd ∧ adf f ∧ nuf f ∧ ¬ (bd f.kd ∧ 2048 < f.bo.size) ∧ unu f ∧ chk f = 3) ∨ (isK f.kd ∧ adf f ∧ nuf f ∧ ¬ (bd f.kd ∧ 2048 < f.bo.size) ∧ ¬ unu f ∧ chk f = if ctd f then 3 else 0) := by
  have hr := rngs_iff f
  have hb := bad_iff f
  unfold chk
  by_cases h1 : isK f.kd
  · by_cases h2 : adf f
    · by_cases h3 : nuf f
      · have hr' : rngs f := hr.2 ⟨h2, h3⟩
        by_cases h4 : bd f.kd ∧ 2048 < f.bo.size
        · exact .inr (.inr (.inr (.inl ⟨h1, h2, h3, h4.1, h4.2, by simp only [h1, hr', h4, not_true, if_false, if_true, and_self]⟩)))
        · by_cases h5 : unu f
          · have h6 : bad f := hb.2 (.inl h5)
            exact .inr (.inr (.inr (.inr (.inl ⟨h1, h2, h3, h4, h5, by simp only [h1, hr', h4, h6, not_true, if_false, if_true]⟩))))
          · have h6 : (bad f) = (ctd f) := propext (hb.trans ⟨fun h => h.resolve_left h5, .inr⟩)
            exact .inr (.inr (.inr (.inr (.inr ⟨h1, h2, h3, h4, h5, by simp only [h1, hr', h4, h6, not_true, if_false]⟩))))
      · have hr' : ¬ rngs f := fun h => h3 (hr.1 h).2
        exact .inr (.inr (.inl ⟨h1, h2, h3, by simp only [h1, hr', not_true, not_false_eq_true, if_false, if_true]⟩))
    · have hr' : ¬ rngs f := fun h => h2 (hr.1 h).1
      exact .inr (.inl ⟨h1, h2, by simp only [h1, hr', not_true, not_false_eq_true, if_false, if_true]⟩)
  · exact .inl ⟨h1, by simp only [h1, not_false_eq_true, if_true]⟩

section
variable (f : Fr) (w : World) (ht : HdTab w)
include ht
set_option maxRecDepth 100000 in
set_option maxHeartbeats 4000000 in
theorem progCheck_1 (h1 : ¬ isK f.kd) (hc : chk f = 3) :
    Calls Tryd.prog 10 #[Fr_.v f] w fun e w' => e = .returned (.int .i64 (chk f)) ∧ Below w.heap.size w w' := by
  have CT := Lib.hid (traits_any f.kd _ (ht.below ((Below.refl _ _).alloc (Nat.le_refl _) (.cells (Fr_.C f) 34)) (Nat.le_refl _)))
  unfold trv at CT
  have CF := fld4 (nm f.kd) (cls f.kd) (rsp f.kd) (ln0 f.kd) (us f.kd)
  have CK := Lib.hid (known_any f.kd)
  have S1 := Lib.hid (Stf.new w f)
  rw [decide_eq_false h1] at CK
  rw [hc]
  clear hc h1 ht
  generalize us f.kd = u at *
  go_enter Tryd.func10, Tryd.ntmps10
  go_wp2_with (first
    | (go_at_call 25; refine CT.out.mono ?_; rintro e w2 ⟨rfl, hb⟩; have S2 := Lib.hid (Stf.keep _ _ S1.out hb); clear hb; have e2 := S2.out.box.all; have l2 := S2.out.box.loadF)
    | (go_at_call 26; refine (CK.out _).mono ?_; rintro e w' ⟨rfl, rfl⟩))
  go_returns
  exact ⟨rfl, S2.out.bel⟩

set_option maxRecDepth 100000 in
set_option maxHeartbeats 4000000 in
theorem progCheck_2 (hu : FrU f) (h1 : isK f.kd) (h2 : ¬ adf f) (hc : chk f = 4) :
    Calls Tryd.prog 10 #[Fr_.v f] w fun e w' => e = .returned (.int .i64 (chk f)) ∧ Below w.heap.size w w' := by
  have CT := Lib.hid (traits_any f.kd _ (ht.below ((Below.refl _ _).alloc (Nat.le_refl _) (.cells (Fr_.C f) 34)) (Nat.le_refl _)))
  unfold trv at CT
  have CF := fld4 (nm f.kd) (cls f.kd) (rsp f.kd) (ln0 f.kd) (us f.kd)
  have CK := Lib.hid (known_any f.kd)
  have S1 := Lib.hid (Stf.new w f)
  rw [decide_eq_true h1] at CK
  have CA := Lib.hid (fun w => addressesFit_any f w h1 hu)
  rw [decide_eq_false h2] at CA
  rw [hc]
  clear hc h1 h2 hu ht
  generalize us f.kd = u at *
  go_enter Tryd.func10, Tryd.ntmps10
  go_wp2_with (first
    | (go_at_call 25; refine CT.out.mono ?_; rintro e w2 ⟨rfl, hb⟩; have S2 := Lib.hid (Stf.keep _ _ S1.out hb); clear hb; have e2 := S2.out.box.all; have l2 := S2.out.box.loadF)
    | (go_at_call 26; refine (CK.out _).mono ?_; rintro e w' ⟨rfl, rfl⟩)
    | (go_at_call 27; refine (CA.out _).mono ?_; rintro e w3 ⟨rfl, hb⟩; have S3 := Lib.hid (Stf.keep _ _ S2.out hb); clear hb e2 l2; have e3 := S3.out.box.all; have l3 := S3.out.box.loadF))
  go_returns
  exact ⟨rfl, S3.out.bel⟩

set_option maxRecDepth 100000 in
set_option maxHeartbeats 4000000 in
theorem progCheck_3 (hu : FrU f) (h1 : isK f.kd) (h2 : adf f) (h3 : ¬ nuf f) (hc : chk f = 4) :
    Calls Tryd.prog 10 #[Fr_.v f] w fun e w' => e = .returned (.int .i64 (chk f)) ∧ Below w.heap.size w w' := by
  have CT := Lib.hid (traits_any f.kd _ (ht.below ((Below.refl _ _).alloc (Nat.le_refl _) (.cells (Fr_.C f) 34)) (Nat.le_refl _)))
  unfold trv at CT
  have CF := fld4 (nm f.kd) (cls f.kd) (rsp f.kd) (ln0 f.kd) (us f.kd)
  have CK := Lib.hid (known_any f.kd)
  have S1 := Lib.hid (Stf.new w f)
  rw [decide_eq_true h1] at CK
  have CA := Lib.hid (fun w => addressesFit_any f w h1 hu)
  rw [decide_eq_true h2] at CA
  have CN := Lib.hid (fun w => numbersFit_any f w h1)
  rw [decide_eq_false h3] at CN
  rw [hc]
  clear hc h1 h2 h3 hu ht
  generalize us f.kd = u at *
  go_enter Tryd.func10, Tryd.ntmps10
  go_wp2_with (first
    | (go_at_call 25; refine CT.out.mono ?_; rintro e w2 ⟨rfl, hb⟩; have S2 := Lib.hid (Stf.keep _ _ S1.out hb); clear hb; have e2 := S2.out.box.all; have l2 := S2.out.box.loadF)
    | (go_at_call 26; refine (CK.out _).mono ?_; rintro e w' ⟨rfl, rfl⟩)
    | (go_at_call 27; refine (CA.out _).mono ?_; rintro e w3 ⟨rfl, hb⟩; have S3 := Lib.hid (Stf.keep _ _ S2.out hb); clear hb e2 l2; have e3 := S3.out.box.all; have l3 := S3.out.box.loadF)
    | (go_at_call 28; refine (CN.out _).mono ?_; rintro e w4 ⟨rfl, hb⟩; have S4 := Lib.hid (Stf.keep _ _ S3.out hb); clear hb e3 l3; have e4 := S4.out.box.all; have l4 := S4.out.box.loadF))
  go_returns
  exact ⟨rfl, S4.out.bel⟩

set_option maxRecDepth 100000 in
set_option maxHeartbeats 4000000 in
theorem progCheck_4 (hu : FrU f) (h1 : isK f.kd) (h2 : adf f) (h3 : nuf f) (h4 : bd f.kd) (h5 : 2048 < f.bo.size) (hc : chk f = 2) :
    Calls Tryd.prog 10 #[Fr_.v f] w fun e w' => e = .returned (.int .i64 (chk f)) ∧ Below w.heap.size w w' := by
  have CT := Lib.hid (traits_any f.kd _ (ht.below ((Below.refl _ _).alloc (Nat.le_refl _) (.cells (Fr_.C f) 34)) (Nat.le_refl _)))
  unfold trv at CT
  have CF := fld4 (nm f.kd) (cls f.kd) (rsp f.kd) (ln0 f.kd) (us f.kd)
  have CK := Lib.hid (known_any f.kd)
  have S1 := Lib.hid (Stf.new w f)
  rw [decide_eq_true h1] at CK
  have CA := Lib.hid (fun w => addressesFit_any f w h1 hu)
  rw [decide_eq_true h2] at CA
  have CN := Lib.hid (fun w => numbersFit_any f w h1)
  rw [decide_eq_true h3] at CN
  have CH := Lib.hid (has_any (us f.kd) 16384)
  rw [hs_body h1] at CH
  rw [decide_eq_true h4] at CH
  have hs : (2048 : Int) < (f.bo.size : Int) := by omega
  rw [hc]
  clear hc h1 h2 h3 h4 h5 hu ht
  generalize us f.kd = u at *
  go_enter Tryd.func10, Tryd.ntmps10
  go_wp2_with (first
    | (go_at_call 25; refine CT.out.mono ?_; rintro e w2 ⟨rfl, hb⟩; have S2 := Lib.hid (Stf.keep _ _ S1.out hb); clear hb; have e2 := S2.out.box.all; have l2 := S2.out.box.loadF)
    | (go_at_call 26; refine (CK.out _).mono ?_; rintro e w' ⟨rfl, rfl⟩)
    | (go_at_call 27; refine (CA.out _).mono ?_; rintro e w3 ⟨rfl, hb⟩; have S3 := Lib.hid (Stf.keep _ _ S2.out hb); clear hb e2 l2; have e3 := S3.out.box.all; have l3 := S3.out.box.loadF)
    | (go_at_call 28; refine (CN.out _).mono ?_; rintro e w4 ⟨rfl, hb⟩; have S4 := Lib.hid (Stf.keep _ _ S3.out hb); clear hb e3 l3; have e4 := S4.out.box.all; have l4 := S4.out.box.loadF)
    | (go_at_call 29; refine (CH.out _).mono ?_; rintro e w' ⟨rfl, rfl⟩))
  go_returns
  exact ⟨rfl, S4.out.bel⟩

set_option maxRecDepth 100000 in
set_option maxHeartbeats 4000000 in
theorem progCheck_5 (b : Bool) (hb0 : decide (bd f.kd) = b) (hu : FrU f) (h1 : isK f.kd) (h2 : adf f) (h3 : nuf f) (h4 : ¬ (bd f.kd ∧ 2048 < f.bo.size)) (h5 : unu f) (hc : chk f = 3) :
    Calls Tryd.prog 10 #[Fr_.v f] w fun e w' => e = .returned (.int .i64 (chk f)) ∧ Below w.heap.size w w' := by
  have CT := Lib.hid (traits_any f.kd _ (ht.below ((Below.refl _ _).alloc (Nat.le_refl _) (.cells (Fr_.C f) 34)) (Nat.le_refl _)))
  unfold trv at CT
  have CF := fld4 (nm f.kd) (cls f.kd) (rsp f.kd) (ln0 f.kd) (us f.kd)
  have CK := Lib.hid (known_any f.kd)
  have S1 := Lib.hid (Stf.new w f)
  rw [decide_eq_true h1] at CK
  have CA := Lib.hid (fun w => addressesFit_any f w h1 hu)
  rw [decide_eq_true h2] at CA
  have CN := Lib.hid (fun w => numbersFit_any f w h1)
  rw [decide_eq_true h3] at CN
  have CH := Lib.hid (has_any (us f.kd) 16384)
  rw [hs_body h1] at CH
  rw [hb0] at CH
  have hs : b = true → ¬ (2048 : Int) < (f.bo.size : Int) := fun hb hlt => h4 ⟨of_decide_eq_true (hb0.trans hb), by omega⟩
  have CI := Lib.hid (filled_any f)
  have HU := fif_unu f h1
  rw [decide_eq_true h5] at HU
  rw [hc]
  clear hc h1 h2 h3 h4 h5 hb0 hu ht
  generalize us f.kd = u at *
  cases b
  all_goals
    simp only [true_implies, reduceCtorEq, false_implies] at hs
    go_enter Tryd.func10, Tryd.ntmps10
    go_wp2_with (first
      | (go_at_call 25; refine CT.out.mono ?_; rintro e w2 ⟨rfl, hb⟩; have S2 := Lib.hid (Stf.keep _ _ S1.out hb); clear hb; have e2 := S2.out.box.all; have l2 := S2.out.box.loadF)
      | (go_at_call 26; refine (CK.out _).mono ?_; rintro e w' ⟨rfl, rfl⟩)
      | (go_at_call 27; refine (CA.out _).mono ?_; rintro e w3 ⟨rfl, hb⟩; have S3 := Lib.hid (Stf.keep _ _ S2.out hb); clear hb e2 l2; have e3 := S3.out.box.all; have l3 := S3.out.box.loadF)
      | (go_at_call 28; refine (CN.out _).mono ?_; rintro e w4 ⟨rfl, hb⟩; have S4 := Lib.hid (Stf.keep _ _ S3.out hb); clear hb e3 l3; have e4 := S4.out.box.all; have l4 := S4.out.box.loadF)
      | (go_at_call 29; refine (CH.out _).mono ?_; rintro e w' ⟨rfl, rfl⟩)
      | (go_at_call 30; refine (CI.out _).mono ?_; rintro e w5 ⟨rfl, hb⟩; have S5 := Lib.hid (Stf.keep _ _ S4.out hb); clear hb e4 l4; have e5 := S5.out.box.all; have l5 := S5.out.box.loadF))
    go_returns
    exact ⟨rfl, S5.out.bel⟩

set_option maxRecDepth 100000 in
set_option maxHeartbeats 4000000 in
theorem progCheck_6 (b : Bool) (hb0 : decide (bd f.kd) = b) (hu : FrU f) (h1 : isK f.kd) (h2 : adf f) (h3 : nuf f) (h4 : ¬ (bd f.kd ∧ 2048 < f.bo.size)) (h5 : ¬ unu f) (c : Bool) (hc0 : decide (ctd f) = c) (hc : chk f = if c then 3 else 0) :
    Calls Tryd.prog 10 #[Fr_.v f] w fun e w' => e = .returned (.int .i64 (chk f)) ∧ Below w.heap.size w w' := by
  have CT := Lib.hid (traits_any f.kd _ (ht.below ((Below.refl _ _).alloc (Nat.le_refl _) (.cells (Fr_.C f) 34)) (Nat.le_refl _)))
  unfold trv at CT
  have CF := fld4 (nm f.kd) (cls f.kd) (rsp f.kd) (ln0 f.kd) (us f.kd)
  have CK := Lib.hid (known_any f.kd)
  have S1 := Lib.hid (Stf.new w f)
  rw [decide_eq_true h1] at CK
  have CA := Lib.hid (fun w => addressesFit_any f w h1 hu)
  rw [decide_eq_true h2] at CA
  have CN := Lib.hid (fun w => numbersFit_any f w h1)
  rw [decide_eq_true h3] at CN
  have CH := Lib.hid (has_any (us f.kd) 16384)
  rw [hs_body h1] at CH
  rw [hb0] at CH
  have hs : b = true → ¬ (2048 : Int) < (f.bo.size : Int) := fun hb hlt => h4 ⟨of_decide_eq_true (hb0.trans hb), by omega⟩
  have CI := Lib.hid (filled_any f)
  have HU := fif_unu f h1
  have CC := Lib.hid (fun w => contradictory_any f w h1 hu)
  rw [decide_eq_false h5] at HU
  rw [hc0] at CC
  rw [hc]
  clear hc h1 h2 h3 h4 h5 hb0 hu hc0 ht
  generalize us f.kd = u at *
  cases b
  all_goals
    simp only [true_implies, reduceCtorEq, false_implies] at hs
    go_enter Tryd.func10, Tryd.ntmps10
    go_wp2_with (first
      | (go_at_call 25; refine CT.out.mono ?_; rintro e w2 ⟨rfl, hb⟩; have S2 := Lib.hid (Stf.keep _ _ S1.out hb); clear hb; have e2 := S2.out.box.all; have l2 := S2.out.box.loadF)
      | (go_at_call 26; refine (CK.out _).mono ?_; rintro e w' ⟨rfl, rfl⟩)
      | (go_at_call 27; refine (CA.out _).mono ?_; rintro e w3 ⟨rfl, hb⟩; have S3 := Lib.hid (Stf.keep _ _ S2.out hb); clear hb e2 l2; have e3 := S3.out.box.all; have l3 := S3.out.box.loadF)
      | (go_at_call 28; refine (CN.out _).mono ?_; rintro e w4 ⟨rfl, hb⟩; have S4 := Lib.hid (Stf.keep _ _ S3.out hb); clear hb e3 l3; have e4 := S4.out.box.all; have l4 := S4.out.box.loadF)
      | (go_at_call 29; refine (CH.out _).mono ?_; rintro e w' ⟨rfl, rfl⟩)
      | (go_at_call 30; refine (CI.out _).mono ?_; rintro e w5 ⟨rfl, hb⟩; have S5 := Lib.hid (Stf.keep _ _ S4.out hb); clear hb e4 l4; have e5 := S5.out.box.all; have l5 := S5.out.box.loadF)
      | (go_at_call 31; refine (CC.out _).mono ?_; rintro e w6 ⟨rfl, hb⟩; have S6 := Lib.hid (Stf.keep _ _ S5.out hb); clear hb e5 l5; have e6 := S6.out.box.all; have l6 := S6.out.box.loadF))
    all_goals
      go_returns
      exact ⟨by simp [*], S6.out.bel⟩

end

theorem progCheck_any (f : Fr) (w : World) (ht : HdTab w) (hu : FrU f) :
    Calls Tryd.prog 10 #[Fr_.v f] w fun e w' => e = .returned (.int .i64 (chk f)) ∧ Below w.heap.size w w' := by
  rcases chk_prog f with ⟨h1, hc⟩ | ⟨h1, h2, hc⟩ | ⟨h1, h2, h3, hc⟩ | ⟨h1, h2, h3, h4, h5, hc⟩ | ⟨h1, h2, h3, h4, h5, hc⟩ | ⟨h1, h2, h3, h4, h5, hc⟩
  · exact progCheck_1 f w ht h1 hc
  · exact progCheck_2 f w ht hu h1 h2 hc
  · exact progCheck_3 f w ht hu h1 h2 h3 hc
  · exact progCheck_4 f w ht hu h1 h2 h3 h4 h5 hc
  · exact progCheck_5 f w ht _ rfl hu h1 h2 h3 h4 h5 hc
  · refine progCheck_6 f w ht _ rfl hu h1 h2 h3 h4 h5 _ rfl ?_
    rw [hc]; by_cases h : ctd f <;> simp [h]
end Go.Proofs.YtacbhbejchjbiaaDoor
