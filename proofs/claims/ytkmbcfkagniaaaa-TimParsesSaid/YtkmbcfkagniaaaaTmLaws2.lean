/-
  THE LAWS of layer 13: TimParses, TimReads, TimHas.
-/
import Derived.Test.YtkmbcfkagniaaaaTmLaws
namespace Go.Proofs.Ytkmbcfkagniaaaa
open Go.RowKit Go.Bs Go.Tm

set_option maxRecDepth 100000 in
set_option maxHeartbeats 4000000 in
theorem timParses_walk0 (a : ByteArray) (ha : a.size ≤ 140737488351232) (W : World) :
    Calls Try.prog 4 #[.string a] W fun e W' => e = .returned (.bool true) ∧ Below W.heap.size W W' := by
  have CD0 := Lib.hid fun w => tmDecode_any a w ha
  have CR0 := Lib.hid fun w => refDecode13_any a w ha
  by_cases hl : 100 < a.size
  · have CD : Hid (∀ w, Calls Try.prog 13 #[.string a] w fun e w' => e = .returned (.tuple #[.agg #[.int .i64 0, .int .i64 0, .bool false, .int .u64 0], .int .i64 2]) ∧ Below w.heap.size w w') := fun w => by
      have := CD0.out w
      rw [dec_long (by omega)] at this
      exact this
    have hl' : 100 < (a.size : Int) := by omega
    clear CD0 CR0 hl ha
    go_enter Try.func4, Try.ntmps4
    go_wp2_with (first
      | (go_at_call 13; refine (CD.out _).mono ?_; rintro e w1 ⟨rfl, hb⟩; have HB1 := Lib.hid hb; clear hb)
      | (go_at_call 11; refine (lives13_any _).mono ?_; rintro e w5 ⟨rfl, hb⟩; have HB5 := Lib.hid ((HB1.out.alloc HB1.out.size _).trans (hb.mono (HB1.out.alloc HB1.out.size _).size)); clear hb))
    go_ret
    exact ⟨rfl, HB5.out⟩
  · have hl' : ¬ 100 < (a.size : Int) := by omega
    obtain ⟨⟨⟨c, p, g, m⟩, r⟩, hd⟩ : ∃ x, dec a = x := ⟨_, rfl⟩
    have CD : Hid (∀ w, Calls Try.prog 13 #[.string a] w fun e w' => e = .returned (.tuple #[.agg #[.int .i64 c, .int .i64 p, .bool g, .int .u64 m], .int .i64 r]) ∧ Below w.heap.size w w') := fun w => by
      have := CD0.out w
      rw [hd] at this
      exact this
    have CR : Hid (∀ w, Calls Try.prog 14 #[.string a] w fun e w' => e = .returned (.tuple #[.agg #[.int .i64 c, .int .i64 p, .bool g, .int .u64 m], .int .i64 r]) ∧ Below w.heap.size w w') := fun w => by
      have := CR0.out w
      rw [hd] at this
      exact this
    have HU := Lib.hid fun w => TmB.new w c p g m
    clear CD0 CR0 hl ha hd
    go_enter Try.func4, Try.ntmps4
    go_wp2_with (first
      | (go_at_call 13; refine (CD.out _).mono ?_; rintro e w1 ⟨rfl, hb⟩; have HB1 := Lib.hid hb; clear hb)
      | (go_at_call 14; refine (CR.out _).mono ?_; rintro e w2 ⟨rfl, hb⟩; have HU2 := Lib.hid ((HU.out _).below hb); have HB2 := Lib.hid ((HB1.out.alloc HB1.out.size _).trans (hb.mono (HB1.out.alloc HB1.out.size _).size)); obtain ⟨u0, u1, u2, u3, ul, -⟩ := HU2.out; clear hb)
      | (go_at_call 11; refine (lives13_any _).mono ?_; rintro e w5 ⟨rfl, hb⟩; have HB5 := Lib.hid ((HB2.out.alloc HB2.out.size _).trans (hb.mono (HB2.out.alloc HB2.out.size _).size)); clear hb))
    go_ret
    exact ⟨rfl, HB5.out⟩

set_option maxHeartbeats 1000000 in
theorem timHas_walk0 (x : Tm) (hw : (Lit.int .i64 x.c).wf = true ∧ (Lit.int .i64 x.p).wf = true ∧ (Lit.int .u64 x.m).wf = true) (i : Int) (_ : (Lit.int .i64 i).wf = true) (W : World) :
    Calls Try.prog 6 #[Tm_.v x, .int .i64 i] W fun e W' => e = .returned (.bool true) ∧ Below W.heap.size W W' := by
  obtain ⟨c, p, g, m⟩ := x
  obtain ⟨-, -, hm⟩ := hw
  obtain ⟨s, rfl, hs⟩ := set_nat hm
  show Calls Try.prog 6 #[.agg #[.int .i64 c, .int .i64 p, .bool g, .int .u64 (s : Int)], .int .i64 i] W fun e W' => e = .returned (.bool true) ∧ Below W.heap.size W W'
  have CH := Lib.hid fun w => tmHas_any c p g s i w hs
  have HX0 := Lib.hid (TmB.new W c p g (s : Int))
  have HB0 : Hid (Below W.heap.size W (W.alloc (.cells #[.int .i64 c, .int .i64 p, .bool g, .int .u64 (s : Int)] 24))) := (Below.refl _ _).alloc (Nat.le_refl _) _
  by_cases hi : 1 ≤ i ∧ i ≤ 63
  · obtain ⟨h1, h2⟩ := hi
    have hq : (decide (i ≠ 0) && has s i) = has s i := by
      rw [decide_eq_true (show i ≠ 0 by omega), Bool.true_and]
    rw [hq] at CH
    have hd : (((s : Int) / 2 ^ i.toNat).tmod 2 == 1) = has s i := by
      have := div_mod (s := s) (i := i) (by omega) (by omega)
      rw [show ((pw i.toNat : Nat) : Int) = 2 ^ i.toNat by unfold pw; simp] at this
      rw [Int.tmod_eq_emod_of_nonneg (Int.ediv_nonneg (by omega) (Int.le_of_lt (Int.pow_pos (by decide))))]
      exact this
    generalize has s i = b at *
    clear hs hm hq
    go_enter Try.func6, Try.ntmps6
    go_wp2_with (first
      | (go_at_call 15; refine (CH.out _).mono ?_; rintro e w1 ⟨rfl, hb⟩; have HB1 := Lib.hid (HB0.out.trans (hb.mono HB0.out.size)); clear hb)
      | (go_at_call 11; refine (lives13_any _).mono ?_; rintro e w5 ⟨rfl, hb⟩; have HB5 := Lib.hid (HB1.out.trans (hb.mono HB1.out.size)); clear hb))
    go_ret
    exact ⟨rfl, HB5.out⟩
  · have hq : (decide (i ≠ 0) && has s i) = false := by
      by_cases h0 : i = 0
      · subst h0; rfl
      · rw [has_out (by omega), Bool.and_false]
    rw [hq] at CH
    clear hs hm hq
    by_cases h1 : 1 ≤ i
    · have h2 : ¬ i ≤ 63 := fun h => hi ⟨h1, h⟩
      clear hi
      go_enter Try.func6, Try.ntmps6
      go_wp2_with (first
        | (go_at_call 15; refine (CH.out _).mono ?_; rintro e w1 ⟨rfl, hb⟩; have HB1 := Lib.hid (HB0.out.trans (hb.mono HB0.out.size)); clear hb)
        | (go_at_call 11; refine (lives13_any _).mono ?_; rintro e w5 ⟨rfl, hb⟩; have HB5 := Lib.hid (HB1.out.trans (hb.mono HB1.out.size)); clear hb))
      go_ret
      exact ⟨rfl, HB5.out⟩
    · clear hi
      go_enter Try.func6, Try.ntmps6
      go_wp2_with (first
        | (go_at_call 15; refine (CH.out _).mono ?_; rintro e w1 ⟨rfl, hb⟩; have HB1 := Lib.hid (HB0.out.trans (hb.mono HB0.out.size)); clear hb)
        | (go_at_call 11; refine (lives13_any _).mono ?_; rintro e w5 ⟨rfl, hb⟩; have HB5 := Lib.hid (HB1.out.trans (hb.mono HB1.out.size)); clear hb))
      go_ret
      exact ⟨rfl, HB5.out⟩

end Go.Proofs.Ytkmbcfkagniaaaa
