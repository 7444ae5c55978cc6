/-
  THE WALK of layer 10: the reference's Check.
-/
import Derived.Test.YtkhnhlahfedkhaaDoorHdUnu
import Derived.Test.YtkhnhlahfedkhaaDoorFrW
namespace Go.Proofs.YtkhnhlahfedkhaaDoor
open Go.RowKit Go.Hd
attribute [local go_sem ↓ high] Fr_.loadF Fr_.storeF Fr_.v_cells Fr_.v_match
attribute [local go_sem] Fr_.C0 Fr_.C1 Fr_.C2 Fr_.C3 Fr_.C4 Fr_.C5 Fr_.C6 Fr_.C7 Fr_.C8 Fr_.C9 Fr_.C10 Fr_.C11 Fr_.C12 Fr_.C13 Fr_.C14 Fr_.C15 Fr_.C16 Fr_.C17 Fr_.loadF_new

/-- What is known behind the first three tests. -/
theorem chk_cases (f : Fr) : (¬ isK f.kd ∧ chk f = 3) ∨ (isK f.kd ∧ ¬ rngs f ∧ chk f = 4) ∨ (isK f.kd ∧ rngs f ∧ bd f.kd ∧ 2048 < f.bo.size ∧ chk f = 2) ∨
    (isK f.kd ∧ rngs f ∧ ¬ (bd f.kd ∧ 2048 < f.bo.size) ∧ unu f ∧ chk f = 3) ∨ (isK f.kd ∧ rngs f ∧ ¬ (bd f.kd ∧ 2048 < f.bo.size) ∧ ¬ unu f ∧ chk f = if bad f then 3 else 0) := by
  unfold chk
  by_cases h1 : isK f.kd
  · by_cases h2 : rngs f
    · by_cases h3 : bd f.kd ∧ 2048 < f.bo.size
      · simp [h1, h2, h3]
      · by_cases h4 : unu f
        · have : bad f := .inl h4
          exact .inr (.inr (.inr (.inl ⟨h1, h2, h3, h4, by simp only [h1, h2, h3, this, not_true, if_false, if_true]⟩)))
        · exact .inr (.inr (.inr (.inr ⟨h1, h2, h3, h4, by simp only [h1, h2, h3, not_true, if_false]⟩)))
    · simp [h1, h2]
  · simp [h1]

section
variable (f : Fr) (w : World)

set_option maxRecDepth 100000 in
set_option maxHeartbeats 2000000 in
theorem refCheck_1 (h1 : ¬ isK f.kd) (hc : chk f = 3) :
    Calls Tryd.prog 22 #[Fr_.v f] w fun e w' => e = .returned (.int .i64 (chk f)) ∧ Below w.heap.size w w' := by
  have CI := Lib.hid (refIs_any f.kd)
  rw [decide_eq_false h1] at CI
  have B1 : Hid (Below w.heap.size w (w.alloc (.cells (Fr_.C f) 25))) := (Below.refl _ _).alloc (Nat.le_refl _) _
  rw [hc]
  clear hc h1
  go_enter Tryd.func22, Tryd.ntmps22
  go_wp2_with (go_at_call 57; refine (CI.out _).mono ?_; rintro e w' ⟨rfl, rfl⟩)
  go_returns
  exact ⟨rfl, B1.out⟩

set_option maxRecDepth 100000 in
set_option maxHeartbeats 2000000 in
theorem refCheck_2 (h1 : isK f.kd) (h2 : ¬ rngs f) (hc : chk f = 4) :
    Calls Tryd.prog 22 #[Fr_.v f] w fun e w' => e = .returned (.int .i64 (chk f)) ∧ Below w.heap.size w w' := by
  have CI := Lib.hid (refIs_any f.kd)
  rw [decide_eq_true h1] at CI
  have CR := Lib.hid (refRanges_any f)
  rw [decide_eq_false h2] at CR
  have B1 : Hid (Below w.heap.size w (w.alloc (.cells (Fr_.C f) 25))) := (Below.refl _ _).alloc (Nat.le_refl _) _
  rw [hc]
  clear hc h1 h2
  go_enter Tryd.func22, Tryd.ntmps22
  go_wp2_with (first
    | (go_at_call 57; refine (CI.out _).mono ?_; rintro e w' ⟨rfl, rfl⟩)
    | (go_at_call 58; refine (CR.out _).mono ?_; rintro e w2 ⟨rfl, hb⟩; have B2 := Lib.hid (B1.out.trans (hb.mono B1.out.size)); clear hb))
  go_returns
  exact ⟨rfl, B2.out⟩

set_option maxRecDepth 100000 in
set_option maxHeartbeats 2000000 in
theorem refCheck_3 (h1 : isK f.kd) (h2 : rngs f) (h3 : bd f.kd) (h4 : 2048 < f.bo.size) (hc : chk f = 2) :
    Calls Tryd.prog 22 #[Fr_.v f] w fun e w' => e = .returned (.int .i64 (chk f)) ∧ Below w.heap.size w w' := by
  have CI := Lib.hid (refIs_any f.kd)
  rw [decide_eq_true h1] at CI
  have CR := Lib.hid (refRanges_any f)
  rw [decide_eq_true h2] at CR
  have CB := Lib.hid (refBody_any f.kd)
  rw [decide_eq_true h3] at CB
  have X1 := Lib.hid (Fr_.Box.newC w f)
  have B1 : Hid (Below w.heap.size w (w.alloc (.cells (Fr_.C f) 25))) := (Below.refl _ _).alloc (Nat.le_refl _) _
  have hs : (2048 : Int) < (f.bo.size : Int) := by omega
  rw [hc]
  clear hc h1 h2 h3 h4
  go_enter Tryd.func22, Tryd.ntmps22
  go_wp2_with (first
    | (go_at_call 57; refine (CI.out _).mono ?_; rintro e w' ⟨rfl, rfl⟩)
    | (go_at_call 58; refine (CR.out _).mono ?_; rintro e w2 ⟨rfl, hb⟩; have X2 := Lib.hid (X1.out.below hb X1.out.lt); have B2 := Lib.hid (B1.out.trans (hb.mono B1.out.size)); clear hb; have e2 := X2.out.all)
    | (go_at_call 59; refine (CB.out _).mono ?_; rintro e w' ⟨rfl, rfl⟩))
  go_returns
  exact ⟨rfl, B2.out⟩

set_option maxRecDepth 100000 in
set_option maxHeartbeats 4000000 in
theorem refCheck_4 (b : Bool) (hb0 : decide (bd f.kd) = b) (h1 : isK f.kd) (h2 : rngs f) (h3 : ¬ (bd f.kd ∧ 2048 < f.bo.size)) (h4 : unu f) (hc : chk f = 3) :
    Calls Tryd.prog 22 #[Fr_.v f] w fun e w' => e = .returned (.int .i64 (chk f)) ∧ Below w.heap.size w w' := by
  have CI := Lib.hid (refIs_any f.kd)
  rw [decide_eq_true h1] at CI
  have CR := Lib.hid (refRanges_any f)
  rw [decide_eq_true h2] at CR
  have CU := Lib.hid (refUnused_any f)
  rw [decide_eq_true h4] at CU
  have CB := Lib.hid (refBody_any f.kd)
  rw [hb0] at CB
  have hs : b = true → ¬ (2048 : Int) < (f.bo.size : Int) := fun hb hlt => h3 ⟨of_decide_eq_true (hb0.trans hb), by omega⟩
  have X1 := Lib.hid (Fr_.Box.newC w f)
  have B1 : Hid (Below w.heap.size w (w.alloc (.cells (Fr_.C f) 25))) := (Below.refl _ _).alloc (Nat.le_refl _) _
  rw [hc]
  clear hc h1 h2 h3 h4 hb0
  cases b
  all_goals
    simp only [true_implies, reduceCtorEq, false_implies] at hs
    go_enter Tryd.func22, Tryd.ntmps22
    go_wp2_with (first
      | (go_at_call 57; refine (CI.out _).mono ?_; rintro e w' ⟨rfl, rfl⟩)
      | (go_at_call 58; refine (CR.out _).mono ?_; rintro e w2 ⟨rfl, hb⟩; have X2 := Lib.hid (X1.out.below hb X1.out.lt); have B2 := Lib.hid (B1.out.trans (hb.mono B1.out.size)); clear hb; have e2 := X2.out.all; have l2 := X2.out.loadF)
      | (go_at_call 60; refine (CU.out _).mono ?_; rintro e w3 ⟨rfl, hb⟩; have B3 := Lib.hid (B2.out.trans (hb.mono B2.out.size)); clear hb e2 l2)
      | (go_at_call 59; refine (CB.out _).mono ?_; rintro e w' ⟨rfl, rfl⟩))
    all_goals
      go_returns
      exact ⟨rfl, B3.out⟩

set_option maxRecDepth 100000 in
set_option maxHeartbeats 16000000 in
theorem refCheck_5 (b : Bool) (hb0 : decide (bd f.kd) = b) (h1 : isK f.kd) (h2 : rngs f) (h3 : ¬ (bd f.kd ∧ 2048 < f.bo.size)) (h4 : ¬ unu f) (hc : chk f = if bad f then 3 else 0) :
    Calls Tryd.prog 22 #[Fr_.v f] w fun e w' => e = .returned (.int .i64 (chk f)) ∧ Below w.heap.size w w' := by
  have CI := Lib.hid (refIs_any f.kd)
  rw [decide_eq_true h1] at CI
  have CR := Lib.hid (refRanges_any f)
  rw [decide_eq_true h2] at CR
  have CU := Lib.hid (refUnused_any f)
  rw [decide_eq_false h4] at CU
  have CB := Lib.hid (refBody_any f.kd)
  rw [hb0] at CB
  have CG := Lib.hid (refGroup_any f.ta)
  have CP := Lib.hid refPolicy_any
  have hs : b = true → ¬ (2048 : Int) < (f.bo.size : Int) := fun hb hlt => h3 ⟨of_decide_eq_true (hb0.trans hb), by omega⟩
  have X1 := Lib.hid (Fr_.Box.newC w f)
  have B1 : Hid (Below w.heap.size w (w.alloc (.cells (Fr_.C f) 25))) := (Below.refl _ _).alloc (Nat.le_refl _) _
  have HC : Hid (chk f = if (f.kd = 19 ∧ f.po = 2) ∨ (¬ f.cn = 0 ∧ f.ky = 0) ∨ ((¬ f.fg = 0 ∨ f.mo = true) ∧ (f.jo = true ∨ f.po = 2)) ∨ (grp f.ta ∧ ((pl f.kd ∧ ¬ f.po = 1) ∨ f.rt = true)) then 3 else 0) := by
    show chk f = _
    rw [hc]
    simp only [bad, h4, false_or]
  have hk : (¬ f.kd = 18 ∧ f.fg = 0 ∧ f.mo = false ∧ f.jo = false ∧ f.cn = 0 ∧ f.ky = 0) ∨ f.kd = 18 := by
    by_cases h : f.kd = 18
    · exact .inr h
    · refine .inl ⟨h, ?_⟩
      unfold unu ufl at h4
      simp [h] at h4
      grind
  have hbt : f.kd = 18 → b = true := fun h => by rw [← hb0]; exact decide_eq_true (.inr (.inr (.inr h)))
  clear hc h1 h2 h3 h4 hb0
  rcases hk with ⟨hk, k1, k2, k3, k4, k5⟩ | hk
  case' inl => clear hbt; cases b
  case' inr => obtain rfl := hbt hk; clear hbt; rw [hk] at CI CB
  all_goals
    · simp only [true_implies, reduceCtorEq, false_implies] at hs
      go_enter Tryd.func22, Tryd.ntmps22
      go_wp2_with (first
        | (go_at_call 57; refine (CI.out _).mono ?_; rintro e w' ⟨rfl, rfl⟩)
        | (go_at_call 58; refine (CR.out _).mono ?_; rintro e w2 ⟨rfl, hb⟩; have X2 := Lib.hid (X1.out.below hb X1.out.lt); have B2 := Lib.hid (B1.out.trans (hb.mono B1.out.size)); clear hb; have e2 := X2.out.all; have l2 := X2.out.loadF)
        | (go_at_call 60; refine (CU.out _).mono ?_; rintro e w3 ⟨rfl, hb⟩; have X3 := Lib.hid (X2.out.below hb X2.out.lt); have B3 := Lib.hid (B2.out.trans (hb.mono B2.out.size)); clear hb e2 l2; have e3 := X3.out.all; have l3 := X3.out.loadF)
        | (go_at_call 59; refine (CB.out _).mono ?_; rintro e w' ⟨rfl, rfl⟩)
        | (go_at_call 61; refine (CG.out _).mono ?_; rintro e w' ⟨rfl, rfl⟩)
        | (go_at_call 62; refine (CP.out _ _).mono ?_; rintro e w' ⟨rfl, rfl⟩))
      all_goals
        go_returns
        refine ⟨congrArg (fun z : Int => Ending.returned (Value.int .i64 z)) ?_, B3.out⟩
        rw [HC.out]
        clear CI CR CU CB CG CP X1 B1 X2 B2 X3 B3 HC e3 l3
        first
          | (simp [*]; done)
          | (simp [pl, *]; done)
          | (simp_all [pl]; done)
          | (simp_all [pl]; omega)
end

theorem refCheck_any (f : Fr) (w : World) :
    Calls Tryd.prog 22 #[Fr_.v f] w fun e w' => e = .returned (.int .i64 (chk f)) ∧ Below w.heap.size w w' := by
  rcases chk_cases f with ⟨h1, hc⟩ | ⟨h1, h2, hc⟩ | ⟨h1, h2, h3, h4, hc⟩ | ⟨h1, h2, h3, h4, hc⟩ | ⟨h1, h2, h3, h4, hc⟩
  · exact refCheck_1 f w h1 hc
  · exact refCheck_2 f w h1 h2 hc
  · exact refCheck_3 f w h1 h2 h3 h4 hc
  · exact refCheck_4 f w _ rfl h1 h2 h3 h4 hc
  · exact refCheck_5 f w _ rfl h1 h2 h3 h4 hc
end Go.Proofs.YtkhnhlahfedkhaaDoor
