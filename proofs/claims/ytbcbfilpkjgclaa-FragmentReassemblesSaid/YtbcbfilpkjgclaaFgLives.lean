/-
  THE WALK of the examples that every law of layer 18 ends with.
-/
import Derived.Test.YtbcbfilpkjgclaaFgRefS
import Derived.Test.YtbcbfilpkjgclaaFgEq
namespace Go.Proofs.Ytbcbfilpkjgclaa
open Go.RowKit Go.Fg
attribute [local go_sem ↓ high] Pw_.loadF Pw_.storeF Pw_.v_cells Pw_.v_match Xw_.loadF Xw_.v_cells Xw_.v_match
attribute [local go_sem] Pw_.C0 Pw_.C1 Pw_.C2 Pw_.C3 Xw_.C0 Xw_.C1 Xw_.C2 Xw_.C3 Xw_.C4 Pw_.loadF_new Xw_.loadF_new Pw_.storeF_zero Pw_.neq Pw_.eql Pw_.guard Pw_.guard_lit Pw_.eql_lit Pw_.neq_lit

def xab : ByteArray := ⟨#[97, 98]⟩
def xc : ByteArray := ⟨#[99]⟩
def xabc : ByteArray := ⟨#[97, 98, 99]⟩
def xdef : ByteArray := ⟨#[100, 101, 102]⟩
def xg : ByteArray := ⟨#[103]⟩
def xall : ByteArray := ⟨#[97, 98, 99, 100, 101, 102, 103]⟩
def p1 : Pt := ⟨true, 7, 1, xab⟩
theorem ex_pcs : pcs xall 3 = [xabc, xdef, xg] := by decide +kernel
theorem ex_c1 : cn (33 : Int).toNat 2 = 11 := by decide +kernel
theorem ex_c2 : cn (0 : Int).toNat 5 = 1 := by decide +kernel
theorem ex_a1 : adS zp ⟨7, 0, true, false, xab⟩ = p1 ∧ adC zp ⟨7, 0, true, false, xab⟩ = 0 ∧ adD zp ⟨7, 0, true, false, xab⟩ = ⟨#[]⟩ := ad_1 (kd_first (by decide) rfl)
theorem ex_a2 : adS p1 ⟨8, 1, false, false, xc⟩ = p1 ∧ adC p1 ⟨8, 1, false, false, xc⟩ = 2 ∧ adD p1 ⟨8, 1, false, false, xc⟩ = ⟨#[]⟩ := ad_0 (kd_other (by decide) (by decide))
theorem ex_a3 : adS p1 ⟨7, 1, false, false, xc⟩ = zp ∧ adC p1 ⟨7, 1, false, false, xc⟩ = 1 ∧ adD p1 ⟨7, 1, false, false, xc⟩ = xabc := ad_2 (kd_next (by decide) (by decide) (by decide))

set_option maxRecDepth 100000 in
set_option maxHeartbeats 4000000 in
theorem awake18_any (w : World) : Calls Try.prog 7 #[] w fun e w' => e = .returned (.bool true) ∧ Below w.heap.size w w' := by
  have C0 : Hid (∀ W, Calls Try.prog 9 #[.string ⟨#[97, 98, 99, 100, 101, 102, 103]⟩, .int .i64 3] W fun e w' => ∃ v0 c, e = .returned (.slice v0 3 c) ∧ Ss_.Sl w' v0 [xabc, xdef, xg] c ∧ Below W.heap.size W w') := fun W => by
    have c := fgSplit_any xall 3 W (by decide)
    unfold SpPost at c
    rw [ex_pcs] at c
    exact c
  have C1 : Hid (∀ W, Calls Try.prog 13 #[.agg #[.bool false, .int .i64 0, .int .i64 0, .string ⟨#[]⟩], .agg #[.int .i64 7, .int .i64 0, .bool true, .bool false, .string ⟨#[97, 98]⟩]] W fun e w' => e = .returned (.tuple #[Pw_.v p1, .int .i64 0, .string ⟨#[]⟩]) ∧ Below W.heap.size W w') := fun W => by
    have c := fgAdd_any zp ⟨7, 0, true, false, xab⟩ W (by decide) (by decide)
    unfold AdPost at c
    rw [ex_a1.1, ex_a1.2.1, ex_a1.2.2] at c
    exact c
  have C2 : Hid (∀ W, Calls Try.prog 13 #[Pw_.v p1, .agg #[.int .i64 8, .int .i64 1, .bool false, .bool false, .string ⟨#[99]⟩]] W fun e w' => e = .returned (.tuple #[Pw_.v p1, .int .i64 2, .string ⟨#[]⟩]) ∧ Below W.heap.size W w') := fun W => by
    have c := fgAdd_any p1 ⟨8, 1, false, false, xc⟩ W (by decide) (by decide)
    unfold AdPost at c
    rw [ex_a2.1, ex_a2.2.1, ex_a2.2.2] at c
    exact c
  have C3 : Hid (∀ W, Calls Try.prog 13 #[Pw_.v p1, .agg #[.int .i64 7, .int .i64 1, .bool false, .bool false, .string ⟨#[99]⟩]] W fun e w' => e = .returned (.tuple #[Pw_.v zp, .int .i64 1, .string ⟨#[97, 98, 99]⟩]) ∧ Below W.heap.size W w') := fun W => by
    have c := fgAdd_any p1 ⟨7, 1, false, false, xc⟩ W (by decide) (by decide)
    unfold AdPost at c
    rw [ex_a3.1, ex_a3.2.1, ex_a3.2.2] at c
    exact c
  have C4 : Hid (∀ (W : World) v0 c, Ss_.Sl W v0 [xabc, xdef, xg] c → Calls Try.prog 8 #[.slice v0 3 c, .slice (some ⟨W.heap.size, 0, none⟩) 3 3] (W.alloc (.cells #[.string ⟨#[97, 98, 99]⟩, .string ⟨#[100, 101, 102]⟩, .string ⟨#[103]⟩] 9)) fun e w' => e = .returned (.bool true) ∧ Below W.heap.size W w') := fun W v0 c h => by
    have hb : Below W.heap.size W (W.alloc (.cells #[.string ⟨#[97, 98, 99]⟩, .string ⟨#[100, 101, 102]⟩, .string ⟨#[103]⟩] 9)) := (Below.refl _ _).alloc (Nat.le_refl _) _
    have c := r18Same_any [xabc, xdef, xg] v0 (some ⟨W.heap.size, 0, none⟩) c 3 _ (h.below hb).lies (Ss_.sl_lit W [xabc, xdef, xg] (by unfold maxLen; decide)).lies (by decide)
    exact c.mono fun e w' q => ⟨q.1, hb.trans (q.2.mono (by simp))⟩
  have C5 : Hid (∀ W, Calls Try.prog 11 #[.int .i64 33, .int .i64 2] W fun e w' => e = .returned (.int .i64 11) ∧ W = w') := fun W => by
    have c := fgCount_any 33 2 W (by decide)
    rw [ex_c1] at c
    exact c
  have C6 : Hid (∀ W, Calls Try.prog 11 #[.int .i64 0, .int .i64 5] W fun e w' => e = .returned (.int .i64 1) ∧ W = w') := fun W => by
    have c := fgCount_any 0 5 W (by decide)
    rw [ex_c2] at c
    exact c
  generalize p1 = P at *
  go_enter Try.func7, Try.ntmps7
  go_wp2_with fail
  refine (C0.out w).mono ?_
  rintro e w1 ⟨v1, c1, rfl, hs, h⟩
  have S1 := Lib.hid hs
  have B1 := Lib.hid h
  clear h hs C0
  go_wp2_with fail
  refine (C1.out w1).mono ?_
  rintro e w2 ⟨rfl, h⟩
  have S2 := Lib.hid (S1.out.below h)
  have B2 := Lib.hid (B1.out.trans (h.mono B1.out.size))
  clear h S1 B1 C1
  obtain ⟨w3, hw3⟩ : ∃ w3, w2.alloc (.cells (Pw_.C P) 29) = w3 := ⟨_, rfl⟩
  have X3 := Lib.hid (show Pw_.Box w3 w2.heap.size P from hw3 ▸ Pw_.Box.new w2 P)
  have b3 : Below w2.heap.size w2 w3 := hw3 ▸ (Below.refl _ _).alloc (Nat.le_refl _) _
  have S3 := Lib.hid (S2.out.below b3)
  have B3 := Lib.hid (B2.out.trans (b3.mono B2.out.size))
  have l3 := X3.out.loadF
  clear b3 S2 B2
  go_wp2_with fail
  refine (C2.out w3).mono ?_
  rintro e w4 ⟨rfl, h⟩
  have S4 := Lib.hid (S3.out.below h)
  have B4 := Lib.hid (B3.out.trans (h.mono B3.out.size))
  have X4 := Lib.hid (X3.out.below h X3.out.lt)
  clear h S3 B3 C2 l3 hw3 X3
  obtain ⟨w5, hw5⟩ : ∃ w5, w4.alloc (.cells (Pw_.C P) 29) = w5 := ⟨_, rfl⟩
  have b5 : Below w4.heap.size w4 w5 := hw5 ▸ (Below.refl _ _).alloc (Nat.le_refl _) _
  have S5 := Lib.hid (S4.out.below b5)
  have B5 := Lib.hid (B4.out.trans (b5.mono B4.out.size))
  have X5 := Lib.hid (X4.out.below b5 X4.out.lt)
  have l5 := X5.out.loadF
  clear b5 S4 B4 X4
  go_wp2_with fail
  refine (C3.out w5).mono ?_
  rintro e w6 ⟨rfl, h⟩
  have S6 := Lib.hid (S5.out.below h)
  have B6 := Lib.hid (B5.out.trans (h.mono B5.out.size))
  clear h S5 B5 C3 l5 hw5 X5
  obtain ⟨w7, hw7⟩ : ∃ w7, w6.alloc (.cells (Pw_.C zp) 29) = w7 := ⟨_, rfl⟩
  have X7 := Lib.hid (show Pw_.Box w7 w6.heap.size zp from hw7 ▸ Pw_.Box.new w6 zp)
  have b7 : Below w6.heap.size w6 w7 := hw7 ▸ (Below.refl _ _).alloc (Nat.le_refl _) _
  have S7 := Lib.hid (S6.out.below b7)
  have B7 := Lib.hid (B6.out.trans (b7.mono B6.out.size))
  clear b7 S6 B6
  go_wp2_with fail
  refine (C4.out w7 _ _ S7.out).mono ?_
  rintro e w8 ⟨rfl, h⟩
  have B8 := Lib.hid (B7.out.trans (h.mono B7.out.size))
  have l8 := (X7.out.below h X7.out.lt).loadF
  clear h S7 B7 C4 hw7
  go_wp2_with (first
    | (go_at_call 11; with_reducible refine (C5.out _).mono ?_; rintro e w' ⟨rfl, rfl⟩)
    | (go_at_call 11; with_reducible refine (C6.out _).mono ?_; rintro e w' ⟨rfl, rfl⟩))
  go_returns
  exact ⟨rfl, B8.out⟩
end Go.Proofs.Ytbcbfilpkjgclaa
