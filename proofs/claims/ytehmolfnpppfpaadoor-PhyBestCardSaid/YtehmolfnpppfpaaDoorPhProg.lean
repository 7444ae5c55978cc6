/-
  WHAT THE PROGRAM's FUNCTIONS OF LAYER 8 DO, as the laws' walks ask it: a structure of contracts over an invariant of the world (XPhDone proves it over the landed code: True, or that its tables lie in their variables); and the five laws over it.
-/
import Derived.Test.YtehmolfnpppfpaaDoorPhRef
namespace Go.Proofs.YtehmolfnpppfpaaDoor
open Go.RowKit Go.Ph

structure Does (I : World → Prop) : Prop where
  keep : ∀ w w', I w → Below w.heap.size w w' → I w'
  bits_any : ∀ (r : Int) (w : World) (_ : I w) (_ : (Lit.int .i64 r).wf = true),
    Calls Tryd.prog 11 #[.int .i64 r] w fun e w' => e = .returned (.int .i64 (bt r)) ∧ Below w.heap.size w w'
  need_any : ∀ (r : Int) (w : World) (_ : I w) (_ : (Lit.int .i64 r).wf = true),
    Calls Tryd.prog 13 #[.int .i64 r] w fun e w' => e = .returned (.int .i64 (nd r)) ∧ Below w.heap.size w w'
  slots_any : ∀ (r n : Int) (w : World) (_ : I w) (_ : (Lit.int .i64 r).wf = true) (_ : (Lit.int .i64 n).wf = true),
    Calls Tryd.prog 10 #[.int .i64 r, .int .i64 n] w fun e w' => e = .returned (.tuple #[.int .i64 (slo r n), .int .i64 (sle r n)]) ∧ Below w.heap.size w w'
  fits_any : ∀ (r s : Int) (w : World) (_ : I w) (_ : (Lit.int .i64 r).wf = true) (_ : (Lit.int .i64 s).wf = true),
    Calls Tryd.prog 8 #[.int .i64 r, .int .i64 s] w fun e w' => e = .returned (.int .i64 (fit r s)) ∧ Below w.heap.size w w'
  basic_any : ∀ (r : Int) (w : World) (_ : I w) (_ : (Lit.int .i64 r).wf = true),
    Calls Tryd.prog 15 #[.int .i64 r] w fun e w' => e = .returned (.int .i64 (bas r)) ∧ Below w.heap.size w w'
  best_any : ∀ (l : Int) (w : World) (_ : I w) (_ : (Lit.int .i64 l).wf = true),
    Calls Tryd.prog 17 #[.int .i64 l] w fun e w' => e = .returned (.int .i64 (bst l)) ∧ Below w.heap.size w w'

/-- The invariant in a world that has come from W. -/
structure St (I : World → Prop) (W w : World) : Prop where
  inv : I w
  bel : Below W.heap.size W w
theorem St.start {I : World → Prop} {W : World} (h : I W) : St I W W := ⟨h, Below.refl _ _⟩
theorem St.step {I : World → Prop} {W w w' : World} (h : St I W w) (K : ∀ w w', I w → Below w.heap.size w w' → I w') (hb : Below w.heap.size w w') : St I W w' := ⟨K _ _ h.inv hb, h.bel.trans (hb.mono h.bel.size)⟩

theorem wf_i64 {z : Int} (h : -9223372036854775808 ≤ z ∧ z < 9223372036854775808) : (Lit.int .i64 z).wf = true := by
  simp [Lit.wf, IntKind.min, IntKind.max, IntKind.signed, IntKind.bits]
  omega

set_option maxRecDepth 100000 in
set_option maxHeartbeats 2000000 in
theorem lives_any {I : World → Prop} (D : Does I) (w : World) (hi : I w) : Calls Tryd.prog 9 #[] w fun e w' => e = .returned (.bool true) ∧ Below w.heap.size w w' := by
  have K := Lib.hid D.keep
  have S0 := Lib.hid (St.start hi)
  clear hi
  have c1 := Lib.hid (fun w h => D.slots_any 0 14 w h (by decide) (by decide))
  have c2 := Lib.hid (fun w h => D.slots_any 8 14 w h (by decide) (by decide))
  have c3 := Lib.hid (fun w h => D.fits_any 0 7 w h (by decide) (by decide))
  have c4 := Lib.hid (fun w h => D.fits_any 0 1 w h (by decide) (by decide))
  have c5 := Lib.hid (fun w h => D.basic_any 3 w h (by decide))
  have c6 := Lib.hid (fun w h => D.basic_any 7 w h (by decide))
  have c7 := Lib.hid (fun w h => D.best_any 8 w h (by decide))
  have c8 := Lib.hid (fun w h => D.best_any 4 w h (by decide))
  rw [show slo 0 14 = 7 from by decide, show sle 0 14 = 0 from by decide] at c1
  rw [show slo 8 14 = 0 from by decide, show sle 8 14 = 4 from by decide] at c2
  rw [show fit 0 7 = 15 from by decide] at c3
  rw [show fit 0 1 = -1 from by decide] at c4
  rw [show bas 3 = 2 from by decide] at c5
  rw [show bas 7 = 4 from by decide] at c6
  rw [show bst 8 = 2 from by decide] at c7
  rw [show bst 4 = -1 from by decide] at c8
  go_enter Tryd.func9, Tryd.ntmps9
  go_wp2_with (first
    | (go_at_call 10; with_reducible refine (c1.out _ S0.out.inv).mono ?_; rintro e w1 ⟨rfl, hb⟩; have S1 := Lib.hid (S0.out.step K.out hb); clear hb S0)
    | (go_at_call 10; with_reducible refine (c2.out _ S1.out.inv).mono ?_; rintro e w2 ⟨rfl, hb⟩; have S2 := Lib.hid (S1.out.step K.out hb); clear hb S1)
    | (go_at_call 8; with_reducible refine (c3.out _ S2.out.inv).mono ?_; rintro e w3 ⟨rfl, hb⟩; have S3 := Lib.hid (S2.out.step K.out hb); clear hb S2)
    | (go_at_call 8; with_reducible refine (c4.out _ S3.out.inv).mono ?_; rintro e w4 ⟨rfl, hb⟩; have S4 := Lib.hid (S3.out.step K.out hb); clear hb S3)
    | (go_at_call 15; with_reducible refine (c5.out _ S4.out.inv).mono ?_; rintro e w5 ⟨rfl, hb⟩; have S5 := Lib.hid (S4.out.step K.out hb); clear hb S4)
    | (go_at_call 15; with_reducible refine (c6.out _ S5.out.inv).mono ?_; rintro e w6 ⟨rfl, hb⟩; have S6 := Lib.hid (S5.out.step K.out hb); clear hb S5)
    | (go_at_call 17; with_reducible refine (c7.out _ S6.out.inv).mono ?_; rintro e w7 ⟨rfl, hb⟩; have S7 := Lib.hid (S6.out.step K.out hb); clear hb S6)
    | (go_at_call 17; with_reducible refine (c8.out _ S7.out.inv).mono ?_; rintro e w8 ⟨rfl, hb⟩; have S8 := Lib.hid (S7.out.step K.out hb); clear hb S7))
  go_returns
  exact ⟨rfl, S8.out.bel⟩

set_option maxRecDepth 100000 in
set_option maxHeartbeats 2000000 in
theorem phyRates_walk1 {I : World → Prop} (D : Does I) (r : Int) (hr : (Lit.int .i64 r).wf = true) (l : Int) (hl : (Lit.int .i64 l).wf = true) (W : World) (hi : I W) :
    Calls Tryd.prog 4 #[.int .i64 r, .int .i64 l] W fun e w' => e = .returned (.bool true) ∧ Below W.heap.size W w' := by
  have K := Lib.hid D.keep
  have S0 := Lib.hid (St.start hi)
  have c1 := Lib.hid (fun w h => D.bits_any r w h hr)
  have c2 := Lib.hid (refBits_any r)
  have c3 := Lib.hid (fun w h => D.need_any r w h hr)
  have c4 := Lib.hid (refNeed_any r)
  have c5 := Lib.hid (fun w h => D.basic_any r w h hr)
  have c6 := Lib.hid (refBasic_any r)
  have c7 := Lib.hid (fun w h => D.best_any l w h hl)
  have c8 := Lib.hid (refBest_any l)
  have c9 := Lib.hid (lives_any D)
  generalize bt r = b at *
  generalize nd r = n at *
  generalize bas r = s at *
  generalize bst l = t at *
  clear hi hr hl
  go_enter Tryd.func4, Tryd.ntmps4
  go_wp2_with (first
    | (go_at_call 11; refine (c1.out _ S0.out.inv).mono ?_; rintro e w1 ⟨rfl, hb⟩; have S1 := Lib.hid (S0.out.step K.out hb); clear hb S0)
    | (go_at_call 12; refine (c2.out _).mono ?_; rintro e w2 ⟨rfl, hb⟩; have S2 := Lib.hid (S1.out.step K.out hb); clear hb S1)
    | (go_at_call 13; refine (c3.out _ S2.out.inv).mono ?_; rintro e w3 ⟨rfl, hb⟩; have S3 := Lib.hid (S2.out.step K.out hb); clear hb S2)
    | (go_at_call 14; refine (c4.out _).mono ?_; rintro e w4 ⟨rfl, hb⟩; have S4 := Lib.hid (S3.out.step K.out hb); clear hb S3)
    | (go_at_call 15; refine (c5.out _ S4.out.inv).mono ?_; rintro e w5 ⟨rfl, hb⟩; have S5 := Lib.hid (S4.out.step K.out hb); clear hb S4)
    | (go_at_call 16; refine (c6.out _).mono ?_; rintro e w' ⟨rfl, rfl⟩)
    | (go_at_call 17; refine (c7.out _ S5.out.inv).mono ?_; rintro e w6 ⟨rfl, hb⟩; have S6 := Lib.hid (S5.out.step K.out hb); clear hb S5)
    | (go_at_call 18; refine (c8.out _).mono ?_; rintro e w7 ⟨rfl, hb⟩; have S7 := Lib.hid (S6.out.step K.out hb); clear hb S6)
    | (go_at_call 9; refine (c9.out _ S7.out.inv).mono ?_; rintro e w8 ⟨rfl, hb⟩; have S8 := Lib.hid (S7.out.step K.out hb); clear hb S7))
  go_returns
  exact ⟨rfl, S8.out.bel⟩

set_option maxRecDepth 100000 in
set_option maxHeartbeats 2000000 in
theorem phySlots_walk1 {I : World → Prop} (D : Does I) (r : Int) (hr : (Lit.int .i64 r).wf = true) (n : Int) (hn : (Lit.int .i64 n).wf = true) (W : World) (hi : I W) :
    Calls Tryd.prog 5 #[.int .i64 r, .int .i64 n] W fun e w' => e = .returned (.bool true) ∧ Below W.heap.size W w' := by
  have K := Lib.hid D.keep
  have S0 := Lib.hid (St.start hi)
  have c1 := Lib.hid (fun w h => D.slots_any r n w h hr hn)
  have c2 := Lib.hid (refSlots_any r n)
  have c9 := Lib.hid (lives_any D)
  generalize slo r n = b at *
  generalize sle r n = s at *
  clear hi hr hn
  go_enter Tryd.func5, Tryd.ntmps5
  go_wp2_with (first
    | (go_at_call 10; refine (c1.out _ S0.out.inv).mono ?_; rintro e w1 ⟨rfl, hb⟩; have S1 := Lib.hid (S0.out.step K.out hb); clear hb S0)
    | (go_at_call 19; refine (c2.out _).mono ?_; rintro e w2 ⟨rfl, hb⟩; have S2 := Lib.hid (S1.out.step K.out hb); clear hb S1)
    | (go_at_call 9; refine (c9.out _ S2.out.inv).mono ?_; rintro e w8 ⟨rfl, hb⟩; have S8 := Lib.hid (S2.out.step K.out hb); clear hb S2))
  go_returns
  exact ⟨rfl, S8.out.bel⟩
end Go.Proofs.YtehmolfnpppfpaaDoor
