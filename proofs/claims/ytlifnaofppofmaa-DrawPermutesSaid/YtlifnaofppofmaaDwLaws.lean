/-
  THE WALKS of the laws DrawSteps, DrawNumbers, DrawOrders, DrawDiffers.
-/
import Derived.Test.YtlifnaofppofmaaDwSame
import Derived.Deep.RegionHeld3
namespace Go.Proofs.Ytlifnaofppofmaa
open Go.RowKit Go.Dw

theorem nat_of_u64 {a : Int} (h : (Lit.int .u64 a).wf = true) : ∃ n : Nat, a = n ∧ n < 18446744073709551616 := by
  simp [Lit.wf, IntKind.min, IntKind.max, IntKind.signed, IntKind.bits] at h
  exact ⟨a.toNat, by omega, by omega⟩
theorem i64_bounds {a : Int} (h : (Lit.int .i64 a).wf = true) : -9223372036854775808 ≤ a ∧ a < 9223372036854775808 := by
  simp [Lit.wf, IntKind.min, IntKind.max, IntKind.signed, IntKind.bits] at h
  omega

/-- Below and the reference's Below answer the same pair. -/
theorem below_both (x : Nat) (n : Int) (hx : x < 18446744073709551616) (hn : n < 9223372036854775808) : ∃ a y : Int,
    (∀ w, Calls Try.prog 14 #[.int .u64 x, .int .i64 n] w fun e w' => e = .returned (.tuple #[.int .i64 a, .int .u64 y]) ∧ w = w') ∧
    (∀ w, Calls Try.prog 15 #[.int .u64 x, .int .i64 n] w fun e w' => e = .returned (.tuple #[.int .i64 a, .int .u64 y]) ∧ w = w') := by
  by_cases h : n < 1
  · exact ⟨_, _, fun w => below_small x n w h, fun w => refBelow_small x n w h⟩
  · obtain ⟨m, rfl⟩ : ∃ m : Nat, n = m := ⟨n.toNat, by omega⟩
    exact ⟨_, _, fun w => below_big x m w hx (by omega) (by omega), fun w => refBelow_big x m w hx (by omega) (by omega)⟩

set_option maxRecDepth 100000 in
set_option maxHeartbeats 2000000 in
theorem drawNumbers_walk0 (a : Int) (ha : (Lit.int .u64 a).wf = true) (n : Int) (hn : (Lit.int .i64 n).wf = true) (W : World) :
    Calls Try.prog 4 #[.int .u64 a, .int .i64 n] W fun e w' => e = .returned (.bool true) ∧ Below W.heap.size W w' := by
  obtain ⟨x, rfl, hx⟩ := nat_of_u64 ha
  obtain ⟨b, y, h1, h2⟩ := below_both x n hx (i64_bounds hn).2
  have c1 := Lib.hid h1
  have c2 := Lib.hid h2
  have LV := Lib.hid lives_any
  clear ha hn hx h1 h2
  go_enter Try.func4, Try.ntmps4
  go_wp2_with (first
    | (go_at_call 14; refine (c1.out _).mono ?_; rintro e w' ⟨rfl, rfl⟩)
    | (go_at_call 15; refine (c2.out _).mono ?_; rintro e w' ⟨rfl, rfl⟩)
    | (go_at_call 13; refine (LV.out _).mono ?_; rintro e w1 ⟨rfl, hb1⟩))
  go_returns
  exact ⟨rfl, hb1⟩

set_option maxRecDepth 100000 in
set_option maxHeartbeats 2000000 in
theorem drawOrders_walk0 (a : Int) (ha : (Lit.int .u64 a).wf = true) (n : Int) (_hn : (Lit.int .i64 n).wf = true) (W : World) :
    Calls Try.prog 5 #[.int .u64 a, .int .i64 n] W fun e w' => e = .returned (.bool true) ∧ Below W.heap.size W w' := by
  obtain ⟨x, rfl, hx⟩ := nat_of_u64 ha
  have hm := cnt_le n
  have c1 := Lib.hid (order_any x n W hx)
  have c2 := Lib.hid (fun w => refOrder_any x n w hx)
  have LV := Lib.hid lives_any
  clear ha hx
  go_enter Try.func5, Try.ntmps5
  go_wp2_with fail
  refine c1.out.mono ?_
  rintro e w1 ⟨g, cap, rfl, hc, -, hg, hb⟩
  have HB1 := Lib.hid hb
  have HC1 := Lib.hid (And.intro hc hg)
  clear hc hg hb c1
  go_wp2_with fail
  refine (c2.out _).mono ?_
  rintro e w2 ⟨g', cap', rfl, hc', -, -, hb⟩
  have HB2 := Lib.hid (HB1.out.trans (hb.mono HB1.out.size))
  have SM := Lib.hid (same_any (cnt n) (fun j => (ord x (cnt n)).1.getD j 0) g g' cap cap' w2 (by omega) (fun j hj => (hb.cell (p := ⟨g, j, none⟩) HC1.out.2).trans (HC1.out.1 j hj)) hc')
  clear hc' hb c2 HC1 HB1
  go_wp2_with (first
    | (go_at_call 18; refine SM.out.mono ?_; rintro e w3 ⟨rfl, hb3⟩; have HB3 := Lib.hid (HB2.out.trans (hb3.mono HB2.out.size)); clear hb3)
    | (go_at_call 13; refine (LV.out _).mono ?_; rintro e w4 ⟨rfl, hb4⟩; have HB4 := Lib.hid (HB3.out.trans (hb4.mono HB3.out.size)); clear hb4))
  go_returns
  exact ⟨rfl, HB4.out⟩

set_option maxRecDepth 100000 in
set_option maxHeartbeats 2000000 in
theorem drawDiffers_walk0 (a : Int) (ha : (Lit.int .u64 a).wf = true) (b : Int) (hb : (Lit.int .u64 b).wf = true) (W : World) :
    Calls Try.prog 7 #[.int .u64 a, .int .u64 b] W fun e w' => e = .returned (.bool true) ∧ Below W.heap.size W w' := by
  obtain ⟨x, rfl, hx⟩ := nat_of_u64 ha
  obtain ⟨y, rfl, hy⟩ := nat_of_u64 hb
  have c1 := Lib.hid (fun w => next_any x w hx)
  have c2 := Lib.hid (fun w => next_any y w hy)
  have LV := Lib.hid lives_any
  have hxy := nx_iff x y
  generalize nx x = p at *
  generalize nx y = q at *
  have hxg : (11400714819323198485 : Int) = ((gold : Nat) : Int) := rfl
  have hs : ∀ v : Nat, (v = 0 → ((strt v : Nat) : Int) = 11400714819323198485) ∧ (¬ v = 0 → ((strt v : Nat) : Int) = v) := fun v =>
    ⟨fun h => by rw [h]; rfl, fun h => by unfold strt; rw [if_neg h]⟩
  have hfin : (((p : Int) == (q : Int)) == (((strt x : Nat) : Int) == ((strt y : Nat) : Int))) = true := by
    by_cases h : p = q
    · have h2 : strt x = strt y := hxy.1 h
      rw [h, h2]; simp
    · have h2 : ¬ strt x = strt y := fun e => h (hxy.2 e)
      have i1 : ((p : Int) == (q : Int)) = false := beq_eq_false_iff_ne.mpr (by omega)
      have i2 : (((strt x : Nat) : Int) == ((strt y : Nat) : Int)) = false := beq_eq_false_iff_ne.mpr (by omega)
      rw [i1, i2]; rfl
  have hsx := hs x
  have hsy := hs y
  generalize ((strt x : Nat) : Int) = X at *
  generalize ((strt y : Nat) : Int) = Y at *
  clear ha hb hx hy hxy hs hxg
  have hx1 : (x = 0 → ((x : Nat) : Int) = 0) ∧ (¬ x = 0 → ¬ ((x : Nat) : Int) = 0) := ⟨fun h => by omega, fun h => by omega⟩
  have hy1 : (y = 0 → ((y : Nat) : Int) = 0) ∧ (¬ y = 0 → ¬ ((y : Nat) : Int) = 0) := ⟨fun h => by omega, fun h => by omega⟩
  generalize ((x : Nat) : Int) = xi at *
  generalize ((y : Nat) : Int) = yi at *
  by_cases hx0 : x = 0
  · obtain rfl := hsx.1 hx0
    obtain rfl := hx1.1 hx0
    clear hx1 hx0
    by_cases hy0 : y = 0
    · obtain rfl := hsy.1 hy0
      obtain rfl := hy1.1 hy0
      clear hy1 hy0
      clear hsx hsy
      go_enter Try.func7, Try.ntmps7
      go_wp2_with (first
        | (go_at_call 9; with_reducible refine (c1.out _).mono ?_; rintro e w' ⟨rfl, rfl⟩)
        | (go_at_call 9; with_reducible refine (c2.out _).mono ?_; rintro e w' ⟨rfl, rfl⟩)
        | (go_at_call 13; refine (LV.out _).mono ?_; rintro e w1 ⟨rfl, hb1⟩))
      go_returns
      exact ⟨rfl, hb1⟩
    · obtain rfl := hsy.2 hy0
      have hyn := hy1.2 hy0
      clear hy1 hy0
      clear hsx hsy
      go_enter Try.func7, Try.ntmps7
      go_wp2_with (first
        | (go_at_call 9; with_reducible refine (c1.out _).mono ?_; rintro e w' ⟨rfl, rfl⟩)
        | (go_at_call 9; with_reducible refine (c2.out _).mono ?_; rintro e w' ⟨rfl, rfl⟩)
        | (go_at_call 13; refine (LV.out _).mono ?_; rintro e w1 ⟨rfl, hb1⟩))
      go_returns
      exact ⟨rfl, hb1⟩
  · obtain rfl := hsx.2 hx0
    have hxn := hx1.2 hx0
    clear hx1 hx0
    by_cases hy0 : y = 0
    · obtain rfl := hsy.1 hy0
      obtain rfl := hy1.1 hy0
      clear hy1 hy0
      clear hsx hsy
      go_enter Try.func7, Try.ntmps7
      go_wp2_with (first
        | (go_at_call 9; with_reducible refine (c1.out _).mono ?_; rintro e w' ⟨rfl, rfl⟩)
        | (go_at_call 9; with_reducible refine (c2.out _).mono ?_; rintro e w' ⟨rfl, rfl⟩)
        | (go_at_call 13; refine (LV.out _).mono ?_; rintro e w1 ⟨rfl, hb1⟩))
      go_returns
      exact ⟨rfl, hb1⟩
    · obtain rfl := hsy.2 hy0
      have hyn := hy1.2 hy0
      clear hy1 hy0
      clear hsx hsy
      go_enter Try.func7, Try.ntmps7
      go_wp2_with (first
        | (go_at_call 9; with_reducible refine (c1.out _).mono ?_; rintro e w' ⟨rfl, rfl⟩)
        | (go_at_call 9; with_reducible refine (c2.out _).mono ?_; rintro e w' ⟨rfl, rfl⟩)
        | (go_at_call 13; refine (LV.out _).mono ?_; rintro e w1 ⟨rfl, hb1⟩))
      go_returns
      exact ⟨rfl, hb1⟩

set_option maxRecDepth 100000 in
set_option maxHeartbeats 4000000 in
theorem drawSteps_walk0 (a : Int) (ha : (Lit.int .u64 a).wf = true) (s : Int) (_hs : (Lit.int .i64 s).wf = true) (p : List Int) (lp : p.length = 2) (wp : ∀ z ∈ p, (Lit.int .i64 z).wf = true) (W : World) :
    Calls Try.prog 3 #[.int .u64 a, .int .i64 s, .agg (p.map fun z => Value.int .i64 z).toArray] W fun e w' => e = .returned (.bool true) ∧ Below W.heap.size W w' := by
  obtain ⟨x, rfl, hx⟩ := nat_of_u64 ha
  obtain ⟨b, c, rfl⟩ : ∃ b c, p = [b, c] := by
    match p, lp with
    | [b, c], _ => exact ⟨b, c, rfl⟩
  have c1 := Lib.hid (fun w => next_any x w hx)
  have c2 := Lib.hid (fun w => refNext_any x w hx)
  have c3 := Lib.hid (fun w => stream_any s b c w)
  have c4 := Lib.hid (fun w => refStream_any s b c w)
  have LV := Lib.hid lives_any
  generalize nx x = y at *
  generalize strm s b c = z at *
  clear ha hx lp wp
  go_enter Try.func3, Try.ntmps3
  go_wp2
  have hc0 : (W.alloc (.cells #[.int .i64 b, .int .i64 c] 23)).cell? ⟨W.heap.size, 0, none⟩ = some (.int .i64 b) := by simp
  have hc1 : (W.alloc (.cells #[.int .i64 b, .int .i64 c] 23)).cell? ⟨W.heap.size, 1, none⟩ = some (.int .i64 c) := by simp
  have hg : W.heap.size < (W.alloc (.cells #[.int .i64 b, .int .i64 c] 23)).heap.size := by simp
  have hbl : Below W.heap.size W (W.alloc (.cells #[.int .i64 b, .int .i64 c] 23)) := (Below.refl _ _).alloc (Nat.le_refl _) _
  generalize W.alloc (.cells #[.int .i64 b, .int .i64 c] 23) = W1 at *
  have hbd := hbl.drew
  have LV2 : Hid (∀ w : World, (w.cell? ⟨W.heap.size, 0, none⟩ = some (.int .i64 b) ∧ w.cell? ⟨W.heap.size, 1, none⟩ = some (.int .i64 c) ∧ W.heap.size < w.heap.size ∧ Below W.heap.size W w) → Calls Try.prog 13 #[] w fun e w' => e = .returned (.bool true) ∧ w'.cell? ⟨W.heap.size, 0, none⟩ = some (.int .i64 b) ∧ w'.cell? ⟨W.heap.size, 1, none⟩ = some (.int .i64 c) ∧ W.heap.size < w'.heap.size ∧ Below W.heap.size W w') := fun w h =>
    (LV.out w).mono fun e w' h' => ⟨h'.1, (h'.2.cell (p := ⟨W.heap.size, 0, none⟩) h.2.2.1).trans h.1, (h'.2.cell (p := ⟨W.heap.size, 1, none⟩) h.2.2.1).trans h.2.1, Nat.lt_of_lt_of_le h.2.2.1 h'.2.size, h.2.2.2.trans (h'.2.mono (Nat.le_of_lt h.2.2.1))⟩
  go_region_held3 (fun w' => w'.cell? ⟨W.heap.size, 0, none⟩ = some (.int .i64 b) ∧ w'.cell? ⟨W.heap.size, 1, none⟩ = some (.int .i64 c) ∧ W.heap.size < w'.heap.size ∧ Below W.heap.size W w') (go_keep)
    (first
    | (go_at_call 9; refine (c1.out _).mono ?_; rintro e w' ⟨rfl, rfl⟩)
    | (go_at_call 10; refine (c2.out _).mono ?_; rintro e w' ⟨rfl, rfl⟩)
    | (go_at_call 11; refine (c3.out _).mono ?_; rintro e w' ⟨rfl, rfl⟩)
    | (go_at_call 12; refine (c4.out _).mono ?_; rintro e w' ⟨rfl, rfl⟩)
    | (go_at_call 13; refine (LV2.out _ ?_).mono ?_; (first | assumption | exact ⟨by assumption, by assumption, by assumption, by assumption⟩); rintro e w3 ⟨rfl, k0, k1, kg, kb⟩))
  all_goals
    go_wp2
    go_returns
    exact ⟨rfl, kb⟩
end Go.Proofs.Ytlifnaofppofmaa
