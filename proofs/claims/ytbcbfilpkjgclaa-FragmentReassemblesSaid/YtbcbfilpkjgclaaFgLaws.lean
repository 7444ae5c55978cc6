/-
  THE LAWS FragmentSplits, FragmentAdds, walked.
-/
import Derived.Test.YtbcbfilpkjgclaaFgLives
namespace Go.Proofs.Ytbcbfilpkjgclaa
open Go.RowKit Go.Fg
attribute [local go_sem ↓ high] Pw_.loadF Pw_.storeF Pw_.v_cells Pw_.v_match Xw_.loadF Xw_.v_cells Xw_.v_match
attribute [local go_sem] Pw_.C0 Pw_.C1 Pw_.C2 Pw_.C3 Xw_.C0 Xw_.C1 Xw_.C2 Xw_.C3 Xw_.C4 Pw_.loadF_new Xw_.loadF_new Pw_.storeF_zero Pw_.neq Pw_.eql Pw_.guard Pw_.guard_lit Pw_.eql_lit Pw_.neq_lit

set_option maxRecDepth 100000 in
set_option maxHeartbeats 4000000 in
theorem fragmentSplits_walk0 (s : ByteArray) (_ : s.size ≤ 140737488351232) (t : Int) (_ : (Lit.int .i64 t).wf = true) (o : Int) (_ : (Lit.int .i64 o).wf = true) (W : World) :
    Calls Try.prog 3 #[.string s, .int .i64 t, .int .i64 o] W fun e w' => e = .returned (.bool true) ∧ Below W.heap.size W w' := by
  have AW := Lib.hid awake18_any
  by_cases h1 : (5000 : Int) < (s.size : Int)
  · go_enter Try.func3, Try.ntmps3
    go_wp2_with (go_at_call 7; refine (AW.out _).mono ?_; rintro e w1 ⟨rfl, hb1⟩)
    go_returns
    exact ⟨rfl, hb1⟩
  have C1 := Lib.hid (fgSplit_any s t W (by omega))
  have C2 := Lib.hid fun w => r18Split_any s t w (by omega)
  have hl16 : (pcs s t).length ≤ 64 := by rw [pcs_len]; exact Nat.le_trans (cn_le _ _) (by decide)
  unfold SpPost at C1 C2
  generalize pcs s t = L at *
  have C3 := Lib.hid fun sa sb c c' w h h' => r18Same_any L sa sb c c' w h h' hl16
  clear hl16
  by_cases ho : (1099511627776 : Int) < o
  · have C4 : Hid (∀ w, Calls Try.prog 11 #[.int .i64 1099511627776, .int .i64 t] w fun e w' => e = .returned (.int .i64 (cn (1099511627776 : Int).toNat t : Nat)) ∧ w = w') := fun w => fgCount_any 1099511627776 t w (by decide)
    have C5 : Hid (∀ w, Calls Try.prog 12 #[.int .i64 1099511627776, .int .i64 t] w fun e w' => e = .returned (.int .i64 (cn (1099511627776 : Int).toNat t : Nat)) ∧ w = w') := fun w => r18Count_any 1099511627776 t w (by decide)
    generalize cn (1099511627776 : Int).toNat t = n at *
    go_enter Try.func3, Try.ntmps3
    go_wp2_with (first
      | (go_at_call 9; refine C1.out.mono ?_; rintro e w1 ⟨v1, n1, rfl, hs, h⟩; have S1 := Lib.hid hs; have B1 := Lib.hid h; clear h hs)
      | (go_at_call 10; refine (C2.out _).mono ?_; rintro e w2 ⟨v2, n2, rfl, hs, h⟩; have S2 := Lib.hid (S1.out.below h); have R2 := Lib.hid hs; have B2 := Lib.hid (B1.out.trans (h.mono B1.out.size)); clear h hs)
      | (go_at_call 8; refine (C3.out _ _ _ _ _ S2.out.lies R2.out.lies).mono ?_; rintro e w3 ⟨rfl, h⟩; have B3 := Lib.hid (B2.out.trans (h.mono B2.out.size)); clear h)
      | (go_at_call 11; refine (C4.out _).mono ?_; rintro e w' ⟨rfl, rfl⟩)
      | (go_at_call 12; refine (C5.out _).mono ?_; rintro e w' ⟨rfl, rfl⟩)
      | (go_at_call 7; refine (AW.out _).mono ?_; rintro e w4 ⟨rfl, h⟩; have B4 := Lib.hid (B3.out.trans (h.mono B3.out.size)); clear h))
    go_returns
    exact ⟨rfl, B4.out⟩
  · have C4 := Lib.hid fun w => fgCount_any o t w (by omega)
    have C5 := Lib.hid fun w => r18Count_any o t w (by omega)
    generalize cn o.toNat t = n at *
    go_enter Try.func3, Try.ntmps3
    go_wp2_with (first
      | (go_at_call 9; refine C1.out.mono ?_; rintro e w1 ⟨v1, n1, rfl, hs, h⟩; have S1 := Lib.hid hs; have B1 := Lib.hid h; clear h hs)
      | (go_at_call 10; refine (C2.out _).mono ?_; rintro e w2 ⟨v2, n2, rfl, hs, h⟩; have S2 := Lib.hid (S1.out.below h); have R2 := Lib.hid hs; have B2 := Lib.hid (B1.out.trans (h.mono B1.out.size)); clear h hs)
      | (go_at_call 8; refine (C3.out _ _ _ _ _ S2.out.lies R2.out.lies).mono ?_; rintro e w3 ⟨rfl, h⟩; have B3 := Lib.hid (B2.out.trans (h.mono B2.out.size)); clear h)
      | (go_at_call 11; refine (C4.out _).mono ?_; rintro e w' ⟨rfl, rfl⟩)
      | (go_at_call 12; refine (C5.out _).mono ?_; rintro e w' ⟨rfl, rfl⟩)
      | (go_at_call 7; refine (AW.out _).mono ?_; rintro e w4 ⟨rfl, h⟩; have B4 := Lib.hid (B3.out.trans (h.mono B3.out.size)); clear h))
    go_returns
    exact ⟨rfl, B4.out⟩

theorem Xw_.zero_fold : (.cells #[.int .i64 0, .int .i64 0, .bool false, .bool false, .string ⟨#[]⟩] 31 : Obj) = .cells (Xw_.C zx) 31 := rfl

set_option maxRecDepth 100000 in
set_option maxHeartbeats 4000000 in
theorem fragmentAdds_walk0 (p : Pt) (_ : (Lit.int .i64 p.q).wf = true ∧ (Lit.int .i64 p.n).wf = true) (x : Xr) (_ : (Lit.int .i64 x.q).wf = true ∧ (Lit.int .i64 x.f).wf = true) (W : World) :
    Calls Try.prog 4 #[Pw_.v p, Xw_.v x] W fun e w' => e = .returned (.bool true) ∧ Below W.heap.size W w' := by
  have AW := Lib.hid awake18_any
  obtain ⟨w1, hw1⟩ : ∃ w1, W.alloc (.cells (Pw_.C p) 29) = w1 := ⟨_, rfl⟩
  obtain ⟨w2, hw2⟩ : ∃ w2, w1.alloc (.cells (Xw_.C x) 31) = w2 := ⟨_, rfl⟩
  have hz1 : w1.heap.size = W.heap.size + 1 := by rw [← hw1]; simp
  have b1 : Below W.heap.size W w1 := hw1 ▸ (Below.refl _ _).alloc (Nat.le_refl _) _
  have B2 : Hid (Below W.heap.size W w2) := hw2 ▸ b1.alloc b1.size _
  have P2 : Hid (Pw_.Box w2 W.heap.size p) := hw2 ▸ (show Pw_.Box w1 W.heap.size p from hw1 ▸ Pw_.Box.new W p).allocC _
  have X2 : Hid (Xw_.Box w2 (W.heap.size + 1) x) := hz1 ▸ hw2 ▸ Xw_.Box.new w1 x
  have lp := P2.out.loadF
  have ep := P2.out.all
  have lx := X2.out.loadF
  have ex := X2.out.all
  by_cases h1 : (5000 : Int) < (p.s.size : Int)
  · clear b1 lp lx
    go_enter Try.func4, Try.ntmps4
    go_wp2_with (go_at_call 7; refine (AW.out _).mono ?_; rintro e w1 ⟨rfl, hb1⟩)
    go_returns
    exact ⟨rfl, B2.out.trans (hb1.mono B2.out.size)⟩
  by_cases h2 : (5000 : Int) < (x.s.size : Int)
  · clear b1 lp lx
    go_enter Try.func4, Try.ntmps4
    go_wp2_with (go_at_call 7; refine (AW.out _).mono ?_; rintro e w1 ⟨rfl, hb1⟩)
    go_returns
    exact ⟨rfl, B2.out.trans (hb1.mono B2.out.size)⟩
  have C1 := Lib.hid fun w => fgAdd_any p x w (by omega) (by omega)
  have C2 := Lib.hid fun w => r18Add_any p x w (by omega)
  unfold AdPost at C1 C2
  generalize adS p x = y at *
  generalize adC p x = c at *
  generalize adD p x = d at *
  have hcc : (c == c) = true := by simp
  have hdd : (d.toList == d.toList) = true := by simp
  clear b1
  go_enter Try.func4, Try.ntmps4
  go_wp2_with fail
  refine (C1.out w2).mono ?_
  rintro e w3 ⟨rfl, h⟩
  have B3 := Lib.hid (B2.out.trans (h.mono B2.out.size))
  have P3 := Lib.hid (P2.out.below h P2.out.lt)
  have X3 := Lib.hid (X2.out.below h X2.out.lt)
  clear h B2 P2 X2 C1 lp ep lx ex hw1 hw2 hz1
  obtain ⟨w4, hw4⟩ : ∃ w4, w3.alloc (.cells (Pw_.C y) 29) = w4 := ⟨_, rfl⟩
  have Q4 := Lib.hid (show Pw_.Box w4 w3.heap.size y from hw4 ▸ Pw_.Box.new w3 y)
  have b4 : Below w3.heap.size w3 w4 := hw4 ▸ (Below.refl _ _).alloc (Nat.le_refl _) _
  have B4 := Lib.hid (B3.out.trans (b4.mono B3.out.size))
  have lp4 := (P3.out.below b4 P3.out.lt).loadF
  have lx4 := (X3.out.below b4 X3.out.lt).loadF
  clear b4 B3 P3 X3
  go_wp2_with fail
  refine (C2.out w4).mono ?_
  rintro e w5 ⟨rfl, h⟩
  have B5 := Lib.hid (B4.out.trans (h.mono B4.out.size))
  have Q5 := Lib.hid (Q4.out.below h Q4.out.lt)
  clear h B4 Q4 C2 lp4 lx4 hw4
  obtain ⟨w6, hw6⟩ : ∃ w6, w5.alloc (.cells (Pw_.C y) 29) = w6 := ⟨_, rfl⟩
  have b6 : Below w5.heap.size w5 w6 := hw6 ▸ (Below.refl _ _).alloc (Nat.le_refl _) _
  have B6 := Lib.hid (B5.out.trans (b6.mono B5.out.size))
  have l6 := (Q5.out.below b6 Q5.out.lt).loadF
  have m6 := (show Pw_.Box w6 w5.heap.size y from hw6 ▸ Pw_.Box.new w5 y).loadF
  clear b6 B5 Q5
  go_wp2_with (go_at_call 7; refine (AW.out _).mono ?_; rintro e w7 ⟨rfl, h⟩; have B7 := Lib.hid (B6.out.trans (h.mono B6.out.size)); clear h)
  go_returns
  exact ⟨rfl, B7.out⟩
end Go.Proofs.Ytbcbfilpkjgclaa
