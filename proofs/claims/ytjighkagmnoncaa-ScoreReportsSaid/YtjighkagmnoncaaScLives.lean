/-
  THE WALK of the law's examples: awake.
-/
import Derived.Test.YtjighkagmnoncaaScNote
import Derived.Test.YtjighkagmnoncaaScRefO
namespace Go.Proofs.Ytjighkagmnoncaa
open Go.RowKit Go.Sc Go.Sq Go.Bs
attribute [local go_sem ↓ high] Sw_.loadF Sw_.storeF Sw_.v_cells Sw_.v_match
attribute [local go_sem] Sw_.C0 Sw_.C1 Sw_.C2 Sw_.loadF_new Sw_.storeF_zero Sw_.eql_of Sw_.guard_of Sw_.eql Sw_.guard Oper.semAt_some

theorem lv_note1 (w : World) : Calls Try.prog 14 #[Sw_.v ⟨4094, 4, 0⟩, .int .i64 1] w fun e w' => e = .returned (Sw_.v ⟨4094, 4, 8⟩) ∧ Below w.heap.size w w' := by
  have h := sc_note_any 4094 4 0 1 w (by decide) (by decide)
  rw [show nS 4094 4 1 = 4094 by decide, show nM 4094 4 0 1 = 8 by decide] at h
  exact h
theorem lv_note2 (w : World) : Calls Try.prog 14 #[Sw_.v ⟨4094, 4, 8⟩, .int .i64 2] w fun e w' => e = .returned (Sw_.v ⟨4095, 4, 12⟩) ∧ Below w.heap.size w w' := by
  have h := sc_note_any 4094 4 8 2 w (by decide) (by decide)
  rw [show nS 4094 4 2 = 4095 by decide, show nM 4094 4 8 2 = 12 by decide] at h
  exact h
theorem lv_move (w : World) : Calls Try.prog 18 #[.agg #[.int .i64 10, .int .i64 8, .int .u64 33], .int .i64 14] w fun e w' => e = .returned (Sw_.v ⟨14, 8, 2⟩) ∧ Below w.heap.size w w' := by
  have h := sc_move_any 10 8 33 14 w (by decide)
  rw [show mS 10 14 = 14 by decide, show mM 10 33 14 = 2 by decide] at h
  exact h
theorem lv_new (w : World) : Calls Try.prog 8 #[.int .i64 4094, .int .i64 4] w fun e w' => e = .returned (.tuple #[Sw_.v ⟨4094, 4, 0⟩, .int .i64 0]) ∧ Below w.heap.size w w' := by
  have h := sc_new_any 4094 4 w
  unfold NwPost nwC at h
  rw [show ck 4094 4 0 = 0 by decide, if_pos rfl] at h
  exact h
theorem lv_new0 (w : World) : Calls Try.prog 8 #[.int .i64 0, .int .i64 65] w fun e w' => e = .returned (.tuple #[Sw_.v zs, .int .i64 4]) ∧ Below w.heap.size w w' := by
  have h := sc_new_any 0 65 w
  unfold NwPost nwC at h
  rw [show ck 0 65 0 = 4 by decide, if_neg (by decide)] at h
  exact h
theorem lv_has (n : Int) (w : World) : Calls Try.prog 16 #[Sw_.v ⟨4095, 4, 12⟩, .int .i64 n] w fun e w' => e = .returned (.bool (hs 4095 4 12 n)) ∧ Below w.heap.size w w' := sc_has_any 4095 4 12 n w (by decide)

set_option maxRecDepth 100000 in
set_option maxHeartbeats 4000000 in
theorem awake21_any (w : World) :
    Calls Try.prog 12 #[] w fun e w' => e = .returned (.bool true) ∧ Below w.heap.size w w' := by
  have K1 := Lib.hid lv_new
  have K2 := Lib.hid lv_note1
  have K3 := Lib.hid lv_note2
  have K4 := Lib.hid lv_move
  have K6 := Lib.hid lv_new0
  have K5 := Lib.hid (sc_report_any ⟨4095, 4, 12⟩)
  have K7 := Lib.hid lv_has
  have G1 : Hid (hs 4095 4 12 1 = true) := by show hs 4095 4 12 1 = true; decide
  have G0 : Hid (hs 4095 4 12 0 = false) := by show hs 4095 4 12 0 = false; decide
  go_enter Try.func12, Try.ntmps12
  go_wp2_with fail
  refine (K1.out w).mono ?_
  rintro e a1 ⟨rfl, h⟩
  obtain ⟨b1, hw⟩ : ∃ b1, a1.alloc (.cells (Sw_.C ⟨4094, 4, 0⟩) 24) = b1 := ⟨_, rfl⟩
  have hz := Sw_.storeF_zero a1 ⟨4094, 4, 0⟩
  rw [hw] at hz
  have h2 : Below a1.heap.size a1 b1 := hw ▸ (Below.refl _ _).alloc (Nat.le_refl _) _
  have h3 := h.trans (h2.mono h.size)
  have Y1 := Lib.hid (show Sw_.Box b1 a1.heap.size ⟨4094, 4, 0⟩ from hw ▸ Sw_.Box.new a1 ⟨4094, 4, 0⟩)
  have B1 := Lib.hid h3
  clear h h2 h3  
  have X1 := Y1
  clear Y1
  have l := X1.out.loadF
  go_wp2_with fail
  clear l hz hw
  refine (K2.out b1).mono ?_
  rintro e a2 ⟨rfl, h⟩
  obtain ⟨b2, hw⟩ : ∃ b2, a2.alloc (.cells (Sw_.C ⟨4094, 4, 8⟩) 24) = b2 := ⟨_, rfl⟩
  have hz := Sw_.storeF_zero a2 ⟨4094, 4, 8⟩
  rw [hw] at hz
  have h2 : Below a2.heap.size a2 b2 := hw ▸ (Below.refl _ _).alloc (Nat.le_refl _) _
  have h3 := h.trans (h2.mono h.size)
  have Y1 := Lib.hid (X1.out.below h3 X1.out.lt)
  have Y2 := Lib.hid (show Sw_.Box b2 a2.heap.size ⟨4094, 4, 8⟩ from hw ▸ Sw_.Box.new a2 ⟨4094, 4, 8⟩)
  have B2 := Lib.hid (B1.out.trans (h3.mono B1.out.size))
  clear h h2 h3 B1 X1
  have X1 := Y1
  have X2 := Y2
  clear Y1 Y2
  have l := X2.out.loadF
  go_wp2_with fail
  clear l hz hw
  refine (K3.out b2).mono ?_
  rintro e a3 ⟨rfl, h⟩
  obtain ⟨b3, hw⟩ : ∃ b3, a3.alloc (.cells (Sw_.C ⟨4095, 4, 12⟩) 24) = b3 := ⟨_, rfl⟩
  have hz := Sw_.storeF_zero a3 ⟨4095, 4, 12⟩
  rw [hw] at hz
  have h2 : Below a3.heap.size a3 b3 := hw ▸ (Below.refl _ _).alloc (Nat.le_refl _) _
  have h3 := h.trans (h2.mono h.size)
  have Y1 := Lib.hid (X1.out.below h3 X1.out.lt)
  have Y2 := Lib.hid (X2.out.below h3 X2.out.lt)
  have Y3 := Lib.hid (show Sw_.Box b3 a3.heap.size ⟨4095, 4, 12⟩ from hw ▸ Sw_.Box.new a3 ⟨4095, 4, 12⟩)
  have B3 := Lib.hid (B2.out.trans (h3.mono B2.out.size))
  clear h h2 h3 B2 X1 X2
  have X1 := Y1
  have X2 := Y2
  have X3 := Y3
  clear Y1 Y2 Y3
  have l := X3.out.loadF
  go_wp2_with fail
  clear l hz hw
  refine (K4.out b3).mono ?_
  rintro e a4 ⟨rfl, h⟩
  obtain ⟨b4, hw⟩ : ∃ b4, a4.alloc (.cells (Sw_.C ⟨14, 8, 2⟩) 24) = b4 := ⟨_, rfl⟩
  have hz := Sw_.storeF_zero a4 ⟨14, 8, 2⟩
  rw [hw] at hz
  have h2 : Below a4.heap.size a4 b4 := hw ▸ (Below.refl _ _).alloc (Nat.le_refl _) _
  have h3 := h.trans (h2.mono h.size)
  have Y1 := Lib.hid (X1.out.below h3 X1.out.lt)
  have Y2 := Lib.hid (X2.out.below h3 X2.out.lt)
  have Y3 := Lib.hid (X3.out.below h3 X3.out.lt)
  have Y4 := Lib.hid (show Sw_.Box b4 a4.heap.size ⟨14, 8, 2⟩ from hw ▸ Sw_.Box.new a4 ⟨14, 8, 2⟩)
  have B4 := Lib.hid (B3.out.trans (h3.mono B3.out.size))
  clear h h2 h3 B3 X1 X2 X3
  have X1 := Y1
  have X2 := Y2
  have X3 := Y3
  have X4 := Y4
  clear Y1 Y2 Y3 Y4
  have l := X3.out.loadF
  go_wp2_with fail
  clear l hz hw
  refine (K5.out b4).mono ?_
  rintro e a5 ⟨rfl, h⟩
  have X1_5 := Lib.hid (X1.out.below h X1.out.lt)
  have X2_5 := Lib.hid (X2.out.below h X2.out.lt)
  have X3_5 := Lib.hid (X3.out.below h X3.out.lt)
  have X4_5 := Lib.hid (X4.out.below h X4.out.lt)
  have B5 := Lib.hid (B4.out.trans (h.mono B4.out.size))
  clear h B4 X1 X2 X3 X4
  rename Hid (Sw_.Box a5 _ ⟨4094, 4, 0⟩) => X1
  rename Hid (Sw_.Box a5 _ ⟨4094, 4, 8⟩) => X2
  rename Hid (Sw_.Box a5 _ ⟨4095, 4, 12⟩) => X3
  rename Hid (Sw_.Box a5 _ ⟨14, 8, 2⟩) => X4
  go_wp2_with fail
  refine (K6.out a5).mono ?_
  rintro e a6 ⟨rfl, h⟩
  obtain ⟨b6, hw⟩ : ∃ b6, a6.alloc (.cells (Sw_.C zs) 24) = b6 := ⟨_, rfl⟩
  have hz := Sw_.storeF_zero a6 zs
  rw [hw] at hz
  have h2 : Below a6.heap.size a6 b6 := hw ▸ (Below.refl _ _).alloc (Nat.le_refl _) _
  have h3 := h.trans (h2.mono h.size)
  have Y1 := Lib.hid (X1.out.below h3 X1.out.lt)
  have Y2 := Lib.hid (X2.out.below h3 X2.out.lt)
  have Y3 := Lib.hid (X3.out.below h3 X3.out.lt)
  have Y4 := Lib.hid (X4.out.below h3 X4.out.lt)
  have Y6 := Lib.hid (show Sw_.Box b6 a6.heap.size zs from hw ▸ Sw_.Box.new a6 zs)
  have B6 := Lib.hid (B5.out.trans (h3.mono B5.out.size))
  clear h h2 h3 B5 X1 X2 X3 X4
  have X1 := Y1
  have X2 := Y2
  have X3 := Y3
  have X4 := Y4
  have X6 := Y6
  clear Y1 Y2 Y3 Y4 Y6
  have la := X2.out.loadF
  have lb := X3.out.loadF
  have lc := X4.out.loadF
  go_wp2_with fail
  refine (K7.out _ _).mono ?_
  rintro e w7 ⟨rfl, h⟩
  rw [G1.out]
  have B7 := Lib.hid (B6.out.trans (h.mono B6.out.size))
  have l7 := (X3.out.below h X3.out.lt).loadF
  clear h la lb lc hz hw
  go_wp2_with fail
  refine (K7.out _ _).mono ?_
  rintro e w8 ⟨rfl, h⟩
  rw [G0.out]
  have B8 := Lib.hid (B7.out.trans (h.mono B7.out.size))
  clear h l7
  go_wp2
  go_returns
  exact ⟨rfl, B8.out⟩
end Go.Proofs.Ytjighkagmnoncaa
