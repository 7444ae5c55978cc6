/-
  THE WALK of step: a call on a Reader and on the reference return the same.
-/
import Derived.Test.YtekdfcbkpljllaaWrStates
import Derived.Test.YtekdfcbkpljllaaWrOps
namespace Go.Proofs.Ytekdfcbkpljllaa
open Go.RowKit Go.Wr

/-- A call as a value. -/
def Opr.v (o : Opr) : Value := .agg #[.int .i64 o.k, .int .i64 o.n, .int .i64 o.z, .string o.t, .int .i64 o.e]
theorem RdS.but {w w' : World} {b g : Nat} {e : Int} {L : List UInt8} (h : RdS w b e L) (hb : But g w w') (hg : b ≠ g) : RdS w' b e L := h.blk (hb.block b h.lt hg)
theorem RdS.below {w w' : World} {b : Nat} {e : Int} {L : List UInt8} (h : RdS w b e L) (hb : Below w.heap.size w w') : RdS w' b e L := h.blk (hb.block b h.lt)

/-- What step hands back, and what it leaves. -/
def StepPost (b : Nat) (e' : Int) (L' : List UInt8) (w : World) (r : Ending) (w' : World) : Prop :=
  r = .returned (.tuple #[.agg #[.string (str L'), .int .i64 e'], .bool true]) ∧ RdS w' b e' L' ∧ But b w w'

/-- The three blocks that step lays. -/
def stepW (w : World) (e : Int) (L : List UInt8) (o : Opr) : World :=
  ((w.alloc (.cells #[.string (str L), .int .i64 e] 49)).alloc (.cells #[.int .i64 o.k, .int .i64 o.n, .int .i64 o.z, .string o.t, .int .i64 o.e] 32)).alloc (.cells #[.string ⟨#[]⟩, .int .i64 0] 49)
theorem stepW_m (w : World) (e : Int) (L : List UInt8) (o : Opr) : Blk (stepW w e L o) w.heap.size 49 [.string (str L), .int .i64 e] := ((Blk.new w _ _ _ rfl).alloc _).alloc _
theorem stepW_o (w : World) (e : Int) (L : List UInt8) (o : Opr) : Blk (stepW w e L o) (w.heap.size + 1) 32 [.int .i64 o.k, .int .i64 o.n, .int .i64 o.z, .string o.t, .int .i64 o.e] := (Blk.new _ _ _ _ (by simp)).alloc _
theorem stepW_r (w : World) (e : Int) (L : List UInt8) (o : Opr) : Blk (stepW w e L o) (w.heap.size + 2) 49 [.string ⟨#[]⟩, .int .i64 0] := Blk.new _ _ _ _ (by simp)
theorem stepW_b (w : World) (e : Int) (L : List UInt8) (o : Opr) : Below w.heap.size w (stepW w e L o) := (((Below.refl _ _).alloc (Nat.le_refl _) _).alloc (by simp) _).alloc (by simp; omega) _
theorem stepW_s (w : World) (e : Int) (L : List UInt8) (o : Opr) : (stepW w e L o).heap.size = w.heap.size + 3 := by unfold stepW; simp

set_option maxRecDepth 100000 in
set_option maxHeartbeats 4000000 in
theorem step_num (b : Nat) (e e' : Int) (L L' : List UInt8) (x : Nat) (o : Opr) (w : World) (hk : o.k = 0) (h : RdS w b e L)
    (hA : ∀ W, Calls Try.prog 34 #[.agg #[.string (str L), .int .i64 e], .int .i64 o.z] W fun r w' => r = .returned (.tuple #[.agg #[.string (str L'), .int .i64 e'], .int .i64 (x : Int)]) ∧ Below W.heap.size W w')
    (hC : ∀ W, RdS W b e L → Calls Try.prog 14 #[.pointer (some ⟨b, 0, none⟩), .int .i64 o.z] W fun r w' => r = .returned (.int .i64 (x : Int)) ∧ RdS w' b e' L' ∧ But b W w') :
    Calls Try.prog 22 #[.pointer (some ⟨b, 0, none⟩), .agg #[.string (str L), .int .i64 e], o.v] w (StepPost b e' L' w) := by
  have HA := Lib.hid hA
  have HC := Lib.hid hC
  have HR := Lib.hid h
  have HW : Hid (stepW w e L o = stepW w e L o) := rfl
  have HM := Lib.hid (stepW_m w e L o)
  have HO := Lib.hid (stepW_o w e L o)
  have HS := Lib.hid (stepW_r w e L o)
  have HB := Lib.hid (stepW_b w e L o)
  have HZ := Lib.hid (stepW_s w e L o)
  have hbl : b < w.heap.size := h.lt
  have HBL := Lib.hid hbl
  clear hA hC h HW hbl
  obtain ⟨ok, on, oz, ot, oe⟩ := o
  dsimp only at hk HA HC
  subst hk
  unfold Opr.v
  dsimp only [stepW] at HM HO HS HB HZ ⊢
  go_enter Try.func22, Try.ntmps22
  go_wp2_with (first | (go_at_call 34; refine (HA.out _).mono ?_; rintro r w1 ⟨rfl, hb1⟩; have HO1 := Lib.hid (HO.out.of_block (hb1.block _ HO.out.lt)); have HS1 := Lib.hid (HS.out.of_block (hb1.block _ HS.out.lt)); have HB1 := Lib.hid (HB.out.trans (hb1.mono HB.out.size)); have HZ1 := hb1.size; rw [HZ.out] at HZ1; clear hb1 HM HO HS HB HZ HA) | fail)
  have HR4 := Lib.hid (HR.out.below (HB1.out.trans ((Below.refl _ _).alloc HB1.out.size (.cells #[.string (str L'), .int .i64 e'] 49))))
  have HO4 := Lib.hid (HO1.out.alloc (.cells #[.string (str L'), .int .i64 e'] 49))
  have HS4 := Lib.hid (HS1.out.alloc (.cells #[.string (str L'), .int .i64 e'] 49))
  have HN4 := Lib.hid (Blk.new w1 _ 49 [.string (str L'), .int .i64 e'] rfl)
  have HB4 := Lib.hid (HB1.out.trans ((Below.refl _ _).alloc HB1.out.size (.cells #[.string (str L'), .int .i64 e'] 49)))
  have HG : Hid (w.heap.size + 3 ≤ w1.heap.size) := HZ1
  clear HO1 HS1 HB1 HZ1 HR
  generalize w1.heap.size = g8 at *
  generalize w1.alloc (.cells #[.string (str L'), .int .i64 e'] 49) = W4 at *
  have o1 := Blk.cell HO4.out 1 _ rfl
  have o2 := Blk.cell HO4.out 2 _ rfl
  have n0 := Blk.cell HN4.out 0 _ rfl
  have n1 := Blk.cell HN4.out 1 _ rfl
  go_region_with (go_at_call 14; refine (HC.out _ ?hw).mono ?_; (case hw => exact HR4.out); rintro r w2 ⟨rfl, hr2, hb2⟩; have hn2 := hb2.blk (g := g8) HN4.out (by have := HG.out; have := HBL.out; omega); have hs2 := hb2.blk (g := w.heap.size + 2) HS4.out (by have := HBL.out; omega); have m0 := Blk.cell hn2 0 _ rfl; have m1 := Blk.cell hn2 1 _ rfl; have r1 := Blk.cell hs2 0 _ rfl; have r2 := Blk.cell hs2 1 _ rfl; have f1 := Blk.frozen hs2 0; have f2 := Blk.frozen hs2 1)
  all_goals
    have HX : Hid (RdS ((w2.setCell ⟨w.heap.size + 2, 0, none⟩ (.string (str L'))).setCell ⟨w.heap.size + 2, 1, none⟩ (.int .i64 e')) b e' L' ∧ But b w ((w2.setCell ⟨w.heap.size + 2, 0, none⟩ (.string (str L'))).setCell ⟨w.heap.size + 2, 1, none⟩ (.int .i64 e'))) := by
      refine ⟨hr2.blk ?_, ?_⟩
      · have := HBL.out
        rw [Below.heap_setCell _ _ _ _ (by simp; omega), Below.heap_setCell _ _ _ _ (by simp; omega)]
      · exact ((((But.of_below HB4.out (Nat.le_refl _)).drew.trans hb2).setCell (p := ⟨w.heap.size + 2, 0, none⟩) (.inr (by simp)) _).setCell (p := ⟨w.heap.size + 2, 1, none⟩) (.inr (by simp)) _)
    have cA := fun u => (two_set r1 r2 u (.int .i64 0)).1
    have cB := fun u v => (two_set r1 r2 u v).2
    have KA := Lib.hid cA
    have KB := Lib.hid cB
    clear cA cB hr2 hb2 hn2 hs2 HR4 HO4 HS4 HN4 HB4
    go_wp2
    refine bodyPost_ret (by simp [results, Try.results22, go_sem, KA.out, KB.out]; rfl) rfl ?_
    exact ⟨by simp, HX.out.1, HX.out.2⟩

set_option maxRecDepth 100000 in
set_option maxHeartbeats 4000000 in
theorem step_take (b : Nat) (e e' : Int) (L L' : List UInt8) (x : List UInt8) (o : Opr) (w : World) (hk : o.k = 1) (h : RdS w b e L)
    (hA : ∀ W, Calls Try.prog 35 #[.agg #[.string (str L), .int .i64 e], .int .i64 o.n] W fun r w' => r = .returned (.tuple #[.agg #[.string (str L'), .int .i64 e'], .string (str x)]) ∧ Below W.heap.size W w')
    (hC : ∀ W, RdS W b e L → Calls Try.prog 15 #[.pointer (some ⟨b, 0, none⟩), .int .i64 o.n] W fun r w' => r = .returned (.string (str x)) ∧ RdS w' b e' L' ∧ But b W w') :
    Calls Try.prog 22 #[.pointer (some ⟨b, 0, none⟩), .agg #[.string (str L), .int .i64 e], o.v] w (StepPost b e' L' w) := by
  have HA := Lib.hid hA
  have HC := Lib.hid hC
  have HR := Lib.hid h
  have HW : Hid (stepW w e L o = stepW w e L o) := rfl
  have HM := Lib.hid (stepW_m w e L o)
  have HO := Lib.hid (stepW_o w e L o)
  have HS := Lib.hid (stepW_r w e L o)
  have HB := Lib.hid (stepW_b w e L o)
  have HZ := Lib.hid (stepW_s w e L o)
  have hbl : b < w.heap.size := h.lt
  have HBL := Lib.hid hbl
  clear hA hC h HW hbl
  obtain ⟨ok, on, oz, ot, oe⟩ := o
  dsimp only at hk HA HC
  subst hk
  unfold Opr.v
  dsimp only [stepW] at HM HO HS HB HZ ⊢
  go_enter Try.func22, Try.ntmps22
  go_wp2_with (first | (go_at_call 35; refine (HA.out _).mono ?_; rintro r w1 ⟨rfl, hb1⟩; have HO1 := Lib.hid (HO.out.of_block (hb1.block _ HO.out.lt)); have HS1 := Lib.hid (HS.out.of_block (hb1.block _ HS.out.lt)); have HB1 := Lib.hid (HB.out.trans (hb1.mono HB.out.size)); have HZ1 := hb1.size; rw [HZ.out] at HZ1; clear hb1 HM HO HS HB HZ HA) | fail)
  have HR4 := Lib.hid (HR.out.below (HB1.out.trans ((Below.refl _ _).alloc HB1.out.size (.cells #[.string (str L'), .int .i64 e'] 49))))
  have HO4 := Lib.hid (HO1.out.alloc (.cells #[.string (str L'), .int .i64 e'] 49))
  have HS4 := Lib.hid (HS1.out.alloc (.cells #[.string (str L'), .int .i64 e'] 49))
  have HN4 := Lib.hid (Blk.new w1 _ 49 [.string (str L'), .int .i64 e'] rfl)
  have HB4 := Lib.hid (HB1.out.trans ((Below.refl _ _).alloc HB1.out.size (.cells #[.string (str L'), .int .i64 e'] 49)))
  have HG : Hid (w.heap.size + 3 ≤ w1.heap.size) := HZ1
  clear HO1 HS1 HB1 HZ1 HR
  generalize w1.heap.size = g8 at *
  generalize w1.alloc (.cells #[.string (str L'), .int .i64 e'] 49) = W4 at *
  have o1 := Blk.cell HO4.out 1 _ rfl
  have o2 := Blk.cell HO4.out 2 _ rfl
  have n0 := Blk.cell HN4.out 0 _ rfl
  have n1 := Blk.cell HN4.out 1 _ rfl
  go_region_with (go_at_call 15; refine (HC.out _ ?hw).mono ?_; (case hw => exact HR4.out); rintro r w2 ⟨rfl, hr2, hb2⟩; have hn2 := hb2.blk (g := g8) HN4.out (by have := HG.out; have := HBL.out; omega); have hs2 := hb2.blk (g := w.heap.size + 2) HS4.out (by have := HBL.out; omega); have m0 := Blk.cell hn2 0 _ rfl; have m1 := Blk.cell hn2 1 _ rfl; have r1 := Blk.cell hs2 0 _ rfl; have r2 := Blk.cell hs2 1 _ rfl; have f1 := Blk.frozen hs2 0; have f2 := Blk.frozen hs2 1)
  all_goals
    have HX : Hid (RdS ((w2.setCell ⟨w.heap.size + 2, 0, none⟩ (.string (str L'))).setCell ⟨w.heap.size + 2, 1, none⟩ (.int .i64 e')) b e' L' ∧ But b w ((w2.setCell ⟨w.heap.size + 2, 0, none⟩ (.string (str L'))).setCell ⟨w.heap.size + 2, 1, none⟩ (.int .i64 e'))) := by
      refine ⟨hr2.blk ?_, ?_⟩
      · have := HBL.out
        rw [Below.heap_setCell _ _ _ _ (by simp; omega), Below.heap_setCell _ _ _ _ (by simp; omega)]
      · exact ((((But.of_below HB4.out (Nat.le_refl _)).drew.trans hb2).setCell (p := ⟨w.heap.size + 2, 0, none⟩) (.inr (by simp)) _).setCell (p := ⟨w.heap.size + 2, 1, none⟩) (.inr (by simp)) _)
    have cA := fun u => (two_set r1 r2 u (.int .i64 0)).1
    have cB := fun u v => (two_set r1 r2 u v).2
    have KA := Lib.hid cA
    have KB := Lib.hid cB
    clear cA cB hr2 hb2 hn2 hs2 HR4 HO4 HS4 HN4 HB4
    go_wp2
    refine bodyPost_ret (by simp [results, Try.results22, go_sem, KA.out, KB.out]; rfl) rfl ?_
    exact ⟨by simp, HX.out.1, HX.out.2⟩

set_option maxRecDepth 100000 in
set_option maxHeartbeats 4000000 in
theorem step_rest (b : Nat) (e e' : Int) (L L' : List UInt8) (x : List UInt8) (o : Opr) (w : World) (hk : o.k = 3) (h : RdS w b e L)
    (hA : ∀ W, Calls Try.prog 36 #[.agg #[.string (str L), .int .i64 e]] W fun r w' => r = .returned (.tuple #[.agg #[.string (str L'), .int .i64 e'], .string (str x)]) ∧ Below W.heap.size W w')
    (hC : ∀ W, RdS W b e L → Calls Try.prog 26 #[.pointer (some ⟨b, 0, none⟩)] W fun r w' => r = .returned (.string (str x)) ∧ RdS w' b e' L' ∧ But b W w') :
    Calls Try.prog 22 #[.pointer (some ⟨b, 0, none⟩), .agg #[.string (str L), .int .i64 e], o.v] w (StepPost b e' L' w) := by
  have HA := Lib.hid hA
  have HC := Lib.hid hC
  have HR := Lib.hid h
  have HW : Hid (stepW w e L o = stepW w e L o) := rfl
  have HM := Lib.hid (stepW_m w e L o)
  have HO := Lib.hid (stepW_o w e L o)
  have HS := Lib.hid (stepW_r w e L o)
  have HB := Lib.hid (stepW_b w e L o)
  have HZ := Lib.hid (stepW_s w e L o)
  have hbl : b < w.heap.size := h.lt
  have HBL := Lib.hid hbl
  clear hA hC h HW hbl
  obtain ⟨ok, on, oz, ot, oe⟩ := o
  dsimp only at hk HA HC
  subst hk
  unfold Opr.v
  dsimp only [stepW] at HM HO HS HB HZ ⊢
  go_enter Try.func22, Try.ntmps22
  go_wp2_with (first | (go_at_call 36; refine (HA.out _).mono ?_; rintro r w1 ⟨rfl, hb1⟩; have HO1 := Lib.hid (HO.out.of_block (hb1.block _ HO.out.lt)); have HS1 := Lib.hid (HS.out.of_block (hb1.block _ HS.out.lt)); have HB1 := Lib.hid (HB.out.trans (hb1.mono HB.out.size)); have HZ1 := hb1.size; rw [HZ.out] at HZ1; clear hb1 HM HO HS HB HZ HA) | fail)
  have HR4 := Lib.hid (HR.out.below (HB1.out.trans ((Below.refl _ _).alloc HB1.out.size (.cells #[.string (str L'), .int .i64 e'] 49))))
  have HO4 := Lib.hid (HO1.out.alloc (.cells #[.string (str L'), .int .i64 e'] 49))
  have HS4 := Lib.hid (HS1.out.alloc (.cells #[.string (str L'), .int .i64 e'] 49))
  have HN4 := Lib.hid (Blk.new w1 _ 49 [.string (str L'), .int .i64 e'] rfl)
  have HB4 := Lib.hid (HB1.out.trans ((Below.refl _ _).alloc HB1.out.size (.cells #[.string (str L'), .int .i64 e'] 49)))
  have HG : Hid (w.heap.size + 3 ≤ w1.heap.size) := HZ1
  clear HO1 HS1 HB1 HZ1 HR
  generalize w1.heap.size = g8 at *
  generalize w1.alloc (.cells #[.string (str L'), .int .i64 e'] 49) = W4 at *
  have o1 := Blk.cell HO4.out 1 _ rfl
  have o2 := Blk.cell HO4.out 2 _ rfl
  have n0 := Blk.cell HN4.out 0 _ rfl
  have n1 := Blk.cell HN4.out 1 _ rfl
  go_region_with (go_at_call 26; refine (HC.out _ ?hw).mono ?_; (case hw => exact HR4.out); rintro r w2 ⟨rfl, hr2, hb2⟩; have hn2 := hb2.blk (g := g8) HN4.out (by have := HG.out; have := HBL.out; omega); have hs2 := hb2.blk (g := w.heap.size + 2) HS4.out (by have := HBL.out; omega); have m0 := Blk.cell hn2 0 _ rfl; have m1 := Blk.cell hn2 1 _ rfl; have r1 := Blk.cell hs2 0 _ rfl; have r2 := Blk.cell hs2 1 _ rfl; have f1 := Blk.frozen hs2 0; have f2 := Blk.frozen hs2 1)
  all_goals
    have HX : Hid (RdS ((w2.setCell ⟨w.heap.size + 2, 0, none⟩ (.string (str L'))).setCell ⟨w.heap.size + 2, 1, none⟩ (.int .i64 e')) b e' L' ∧ But b w ((w2.setCell ⟨w.heap.size + 2, 0, none⟩ (.string (str L'))).setCell ⟨w.heap.size + 2, 1, none⟩ (.int .i64 e'))) := by
      refine ⟨hr2.blk ?_, ?_⟩
      · have := HBL.out
        rw [Below.heap_setCell _ _ _ _ (by simp; omega), Below.heap_setCell _ _ _ _ (by simp; omega)]
      · exact ((((But.of_below HB4.out (Nat.le_refl _)).drew.trans hb2).setCell (p := ⟨w.heap.size + 2, 0, none⟩) (.inr (by simp)) _).setCell (p := ⟨w.heap.size + 2, 1, none⟩) (.inr (by simp)) _)
    have cA := fun u => (two_set r1 r2 u (.int .i64 0)).1
    have cB := fun u v => (two_set r1 r2 u v).2
    have KA := Lib.hid cA
    have KB := Lib.hid cB
    clear cA cB hr2 hb2 hn2 hs2 HR4 HO4 HS4 HN4 HB4
    go_wp2
    refine bodyPost_ret (by simp [results, Try.results22, go_sem, KA.out, KB.out]; rfl) rfl ?_
    exact ⟨by simp, HX.out.1, HX.out.2⟩

set_option maxRecDepth 100000 in
set_option maxHeartbeats 4000000 in
theorem step_fail (b : Nat) (e e' : Int) (L L' : List UInt8) (o : Opr) (w : World) (hk : o.k = 4) (h : RdS w b e L)
    (hA : ∀ W, Calls Try.prog 37 #[.agg #[.string (str L), .int .i64 e], .int .i64 o.e] W fun r w' => r = .returned (.agg #[.string (str L'), .int .i64 e']) ∧ Below W.heap.size W w')
    (hC : ∀ W, RdS W b e L → Calls Try.prog 25 #[.pointer (some ⟨b, 0, none⟩), .int .i64 o.e] W fun r w' => r = .returned (.tuple #[]) ∧ RdS w' b e' L' ∧ But b W w') :
    Calls Try.prog 22 #[.pointer (some ⟨b, 0, none⟩), .agg #[.string (str L), .int .i64 e], o.v] w (StepPost b e' L' w) := by
  have HA := Lib.hid hA
  have HC := Lib.hid hC
  have HR : Hid (RdS (stepW w e L o) b e L) := h.below (stepW_b w e L o)
  have HM := Lib.hid (stepW_m w e L o)
  have HO := Lib.hid (stepW_o w e L o)
  have HS := Lib.hid (stepW_r w e L o)
  have HB := Lib.hid (stepW_b w e L o)
  have hbl : b < w.heap.size := h.lt
  have HBL := Lib.hid hbl
  clear hA hC h hbl
  obtain ⟨ok, on, oz, ot, oe⟩ := o
  dsimp only at hk HA HC
  subst hk
  unfold Opr.v
  dsimp only [stepW] at HR HM HO HS HB ⊢
  go_enter Try.func22, Try.ntmps22
  go_wp2_with (first | (go_at_call 25; refine (HC.out _ HR.out).mono ?_; rintro r w1 ⟨rfl, hr1, hb1⟩; have hm1 := hb1.blk HM.out (by have := HBL.out; omega); have ho1 := hb1.blk HO.out (by have := HBL.out; omega); have hs1 := hb1.blk HS.out (by have := HBL.out; omega); have m0 := Blk.cell hm1 0 _ rfl; have m1 := Blk.cell hm1 1 _ rfl; have o4 := Blk.cell ho1 4 _ rfl; have HS1 := Lib.hid hs1; have HR1 := Lib.hid hr1; have HB1 := Lib.hid ((But.of_below HB.out (Nat.le_refl _)).trans hb1); clear hm1 ho1 hs1 hr1 hb1 HM HO HS HB HR) | (go_at_call 37; refine (HA.out _).mono ?_; rintro r w2 ⟨rfl, hb2⟩; have hr2 := HR1.out.below hb2; have hs2 := HS1.out.of_block (hb2.block _ HS1.out.lt); have HB2 := Lib.hid (HB1.out.trans (But.of_below hb2 (Nat.le_refl _))); have r1 := Blk.cell hs2 0 _ rfl; have r2 := Blk.cell hs2 1 _ rfl; have f1 := Blk.frozen hs2 0; have f2 := Blk.frozen hs2 1; have HR2 := Lib.hid hr2; clear hr2 hs2 hb2) | fail)
  have HX : Hid (RdS ((w2.setCell ⟨w.heap.size + 2, 0, none⟩ (.string (str L'))).setCell ⟨w.heap.size + 2, 1, none⟩ (.int .i64 e')) b e' L' ∧ But b w ((w2.setCell ⟨w.heap.size + 2, 0, none⟩ (.string (str L'))).setCell ⟨w.heap.size + 2, 1, none⟩ (.int .i64 e'))) := by
    refine ⟨HR2.out.blk ?_, ?_⟩
    · have := HBL.out
      rw [Below.heap_setCell _ _ _ _ (by simp; omega), Below.heap_setCell _ _ _ _ (by simp; omega)]
    · exact ((HB2.out.setCell (p := ⟨w.heap.size + 2, 0, none⟩) (.inr (by simp)) _).setCell (p := ⟨w.heap.size + 2, 1, none⟩) (.inr (by simp)) _)
  have cA := fun u => (two_set r1 r2 u (.int .i64 0)).1
  have cB := fun u v => (two_set r1 r2 u v).2
  have KA := Lib.hid cA
  have KB := Lib.hid cB
  clear cA cB
  refine bodyPost_ret (by simp [results, Try.results22, go_sem, KA.out, KB.out]; rfl) rfl ?_
  exact ⟨rfl, HX.out.1, HX.out.2⟩

set_option maxRecDepth 100000 in
set_option maxHeartbeats 4000000 in
theorem step_none (b : Nat) (e : Int) (L : List UInt8) (o : Opr) (w : World) (h0 : o.k ≠ 0) (h1 : o.k ≠ 1) (h3 : o.k ≠ 3) (h4 : o.k ≠ 4) (h : RdS w b e L) :
    Calls Try.prog 22 #[.pointer (some ⟨b, 0, none⟩), .agg #[.string (str L), .int .i64 e], o.v] w (StepPost b e L w) := by
  have k0 : (o.k == 0) = false := beq_eq_false_iff_ne.2 h0
  have k1 : (o.k == 1) = false := beq_eq_false_iff_ne.2 h1
  have k3 : (o.k == 3) = false := beq_eq_false_iff_ne.2 h3
  have k4 : (o.k == 4) = false := beq_eq_false_iff_ne.2 h4
  have HR := Lib.hid h
  clear h h0 h1 h3 h4
  obtain ⟨ok, on, oz, ot, oe⟩ := o
  dsimp only at k0 k1 k3 k4
  unfold Opr.v
  dsimp only
  go_enter Try.func22, Try.ntmps22
  go_wp2
  go_returns
  have hb : Below w.heap.size w (((w.alloc (.cells #[.string (str L), .int .i64 e] 49)).alloc (.cells #[.int .i64 ok, .int .i64 on, .int .i64 oz, .string ot, .int .i64 oe] 32)).alloc (.cells #[.string (str L), .int .i64 e] 49)) := by go_grown
  exact ⟨rfl, HR.out.below hb, But.of_below hb (Nat.le_refl _)⟩

theorem step_any (b : Nat) (e : Int) (L : List UInt8) (o : Opr) :
    ∃ e' L', ∀ w, RdS w b e L → Calls Try.prog 22 #[.pointer (some ⟨b, 0, none⟩), .agg #[.string (str L), .int .i64 e], o.v] w (StepPost b e' L' w) := by
  by_cases h0 : o.k = 0
  · exact ⟨_, _, fun w h => step_num b e _ L _ _ o w h0 h (fun W => refGet_st e L o.z W) (fun W hW => num_st b e L o.z W hW)⟩
  · by_cases h1 : o.k = 1
    · exact ⟨_, _, fun w h => step_take b e _ L _ _ o w h1 h (fun W => refTake_st e L o.n W) (fun W hW => take_st b e L o.n W hW)⟩
    · by_cases h3 : o.k = 3
      · exact ⟨_, _, fun w h => step_rest b e _ L _ _ o w h3 h (fun W => refRest_st e L W) (fun W hW => rest_st b e L W hW)⟩
      · by_cases h4 : o.k = 4
        · exact ⟨_, _, fun w h => step_fail b e _ L _ o w h4 h (fun W => refFail_st e L o.e W) (fun W hW => fail_st b e L o.e W hW)⟩
        · exact ⟨e, L, fun w h => step_none b e L o w h0 h1 h3 h4 h⟩
end Go.Proofs.Ytekdfcbkpljllaa
