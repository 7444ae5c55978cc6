/-
  THE LAW TimReads of layer 13.
-/
import Derived.Test.YtkmbcfkagniaaaaTmLaws
namespace Go.Proofs.Ytkmbcfkagniaaaa
open Go.RowKit Go.Bs Go.Tm

/-- The second half: octets that came in. -/
structure Half (a : ByteArray) (c p : Int) (g : Bool) (m r : Int) : Prop where
  dec : ∀ w, Calls Try.prog 13 #[.string a] w fun e w' => e = .returned (.tuple #[.agg #[.int .i64 c, .int .i64 p, .bool g, .int .u64 m], .int .i64 r]) ∧ Below w.heap.size w w'
  bad : r ≠ 0 → c = 0 ∧ p = 0 ∧ g = false ∧ m = 0
  enc : r = 0 → ∀ w, Calls Try.prog 8 #[.agg #[.int .i64 c, .int .i64 p, .bool g, .int .u64 m]] w fun e w' => e = .returned (.tuple #[.string a, .int .i64 0]) ∧ Below w.heap.size w w'
  chk : r = 0 → ∀ w, Calls Try.prog 10 #[.agg #[.int .i64 c, .int .i64 p, .bool g, .int .u64 m]] w fun e w' => e = .returned (.int .i64 0) ∧ Below w.heap.size w w'
theorem half (a : ByteArray) (ha : a.size ≤ 140737488351232) : ∃ c p g m r, Half a c p g m r := by
  by_cases h : (dec a).2 = 0
  · obtain ⟨c, p, g, s, hs, h1, h2, h3⟩ := dec_ok h
    refine ⟨c, p, g, (s : Int), 0, ?_, fun h => absurd rfl h, fun _ w => ?_, fun _ w => ?_⟩
    · intro w
      have := tmDecode_any a w ha
      rw [h1, h] at this
      exact this
    · have := tmEncode_any c p g s w hs
      rw [show encR c p g s = a from (if_pos h2).trans h3, h2] at this
      exact this
    · have := tmCheck_any c p g s w hs
      rw [h2] at this
      exact this
  · refine ⟨0, 0, false, 0, (dec a).2, ?_, fun _ => ⟨rfl, rfl, rfl, rfl⟩, fun e => absurd e h, fun e => absurd e h⟩
    intro w
    have := tmDecode_any a w ha
    rw [dec_bad h] at this
    exact this

set_option maxRecDepth 100000 in
set_option maxHeartbeats 4000000 in
theorem timReads_walk0 (x : Tm) (hw : (Lit.int .i64 x.c).wf = true ∧ (Lit.int .i64 x.p).wf = true ∧ (Lit.int .u64 x.m).wf = true) (a : ByteArray) (ha : a.size ≤ 140737488351232) (W : World) :
    Calls Try.prog 5 #[Tm_.v x, .string a] W fun e W' => e = .returned (.bool true) ∧ Below W.heap.size W W' := by
  obtain ⟨c, p, g, m⟩ := x
  obtain ⟨-, -, hm⟩ := hw
  obtain ⟨s, rfl, hs⟩ := set_nat hm
  show Calls Try.prog 5 #[.agg #[.int .i64 c, .int .i64 p, .bool g, .int .u64 (s : Int)], .string a] W fun e W' => e = .returned (.bool true) ∧ Below W.heap.size W W'
  have CK := Lib.hid fun w => tmCheck_any c p g s w hs
  have HX0 := Lib.hid (TmB.new W c p g (s : Int))
  have HB0 : Hid (Below W.heap.size W (W.alloc (.cells #[.int .i64 c, .int .i64 p, .bool g, .int .u64 (s : Int)] 24))) := (Below.refl _ _).alloc (Nat.le_refl _) _
  obtain ⟨c', p', g', m', r, H⟩ := half a ha
  have CD2 := Lib.hid H.dec
  have HU2 := Lib.hid fun w => TmB.new w c' p' g' m'
  have CE2 := Lib.hid H.enc
  have CK2 := Lib.hid H.chk
  have HZ := Lib.hid H.bad
  clear H ha
  by_cases hk : chk c p s = 0
  · have hE : encR c p g s = Go.Tm.enc c p g s := if_pos hk
    have CE := Lib.hid fun w => tmEncode_any c p g s w hs
    rw [hk] at CK CE
    rw [hE] at CE
    obtain ⟨z4, z11⟩ := enc_sizes c p g hs
    have CD : Hid (∀ w, Calls Try.prog 13 #[.string (Go.Tm.enc c p g s)] w fun e w' => e = .returned (.tuple #[.agg #[.int .i64 c, .int .i64 p, .bool g, .int .u64 (s : Int)], .int .i64 0]) ∧ Below w.heap.size w w') := fun w => by
      have := tmDecode_any (Go.Tm.enc c p g s) w (by omega)
      rw [dec_enc hs hk] at this
      exact this
    clear hk hE hs hm
    generalize Go.Tm.enc c p g s = E at *
    have z4' : ¬ (E.size : Int) < 4 := by omega
    have z11' : ¬ 11 < (E.size : Int) := by omega
    clear z4 z11
    by_cases hr : r = 0
    · subst hr
      have CE3 := Lib.hid (CE2.out rfl)
      have CK3 := Lib.hid (CK2.out rfl)
      clear HZ CE2 CK2
      go_enter Try.func5, Try.ntmps5
      go_wp2_with (first
        | (have _h := HB6; go_at_call 10; refine (CK3.out _).mono ?_; rintro e w7 ⟨rfl, hb⟩; have HB7 := Lib.hid (HB6.out.trans (hb.mono HB6.out.size)); clear hb)
        | (have _h := HB5; go_at_call 8; refine (CE3.out _).mono ?_; rintro e w6 ⟨rfl, hb⟩; have HU6 := Lib.hid ((HU2.out _).below hb); have HB6 := Lib.hid (HB5.out.trans (hb.mono HB5.out.size)); obtain ⟨u0, u1, u2, u3, ul, -⟩ := HU6.out; clear hb)
        | (have _h := HB3; go_at_call 13; refine (CD2.out _).mono ?_; rintro e w5 ⟨rfl, hb⟩; have HB5 := Lib.hid ((HB3.out.trans (hb.mono HB3.out.size)).alloc (Nat.le_trans HB3.out.size hb.size) (.cells #[.int .i64 c', .int .i64 p', .bool g', .int .u64 m'] 24)); clear hb)
        | (go_at_call 10; refine (CK.out _).mono ?_; rintro e w1 ⟨rfl, hb⟩; have HX1 := Lib.hid (HX0.out.below hb); have HB1 := Lib.hid (HB0.out.trans (hb.mono HB0.out.size)); obtain ⟨d0, d1, d2, d3, dl, -⟩ := HX1.out; clear hb)
        | (go_at_call 8; refine (CE.out _).mono ?_; rintro e w2 ⟨rfl, hb⟩; have HX2 := Lib.hid (HX1.out.below hb); have HB2 := Lib.hid (HB1.out.trans (hb.mono HB1.out.size)); clear hb)
        | (go_at_call 13; refine (CD.out _).mono ?_; rintro e w3 ⟨rfl, hb⟩; have HX3 := Lib.hid (HX2.out.below hb); have HB3 := Lib.hid ((HB2.out.trans (hb.mono HB2.out.size)).alloc (Nat.le_trans HB2.out.size hb.size) (.cells #[.int .i64 c, .int .i64 p, .bool g, .int .u64 (s : Int)] 24)); obtain ⟨d0, d1, d2, d3, dl, -⟩ := HX3.out; clear hb)
        | (go_at_call 11; refine (lives13_any _).mono ?_; rintro e w9 ⟨rfl, hb⟩; have HB9 := Lib.hid (HB7.out.trans (hb.mono HB7.out.size)); clear hb))
      go_ret
      exact ⟨rfl, HB9.out⟩
    · obtain ⟨rfl, rfl, rfl, rfl⟩ := HZ.out hr
      have hr' : (r != 0) = true := by simp [hr]
      clear CE2 CK2 HZ
      go_enter Try.func5, Try.ntmps5
      go_wp2_with (first
        | (have _h := HB3; go_at_call 13; refine (CD2.out _).mono ?_; rintro e w5 ⟨rfl, hb⟩; have HB5 := Lib.hid ((HB3.out.trans (hb.mono HB3.out.size)).alloc (Nat.le_trans HB3.out.size hb.size) (.cells #[.int .i64 0, .int .i64 0, .bool false, .int .u64 0] 24)); clear hb)
        | (go_at_call 10; refine (CK.out _).mono ?_; rintro e w1 ⟨rfl, hb⟩; have HX1 := Lib.hid (HX0.out.below hb); have HB1 := Lib.hid (HB0.out.trans (hb.mono HB0.out.size)); obtain ⟨d0, d1, d2, d3, dl, -⟩ := HX1.out; clear hb)
        | (go_at_call 8; refine (CE.out _).mono ?_; rintro e w2 ⟨rfl, hb⟩; have HX2 := Lib.hid (HX1.out.below hb); have HB2 := Lib.hid (HB1.out.trans (hb.mono HB1.out.size)); clear hb)
        | (go_at_call 13; refine (CD.out _).mono ?_; rintro e w3 ⟨rfl, hb⟩; have HX3 := Lib.hid (HX2.out.below hb); have HB3 := Lib.hid ((HB2.out.trans (hb.mono HB2.out.size)).alloc (Nat.le_trans HB2.out.size hb.size) (.cells #[.int .i64 c, .int .i64 p, .bool g, .int .u64 (s : Int)] 24)); obtain ⟨d0, d1, d2, d3, dl, -⟩ := HX3.out; clear hb)
        | (go_at_call 11; refine (lives13_any _).mono ?_; rintro e w9 ⟨rfl, hb⟩; have HB9 := Lib.hid (HB5.out.trans (hb.mono HB5.out.size)); clear hb))
      go_ret
      exact ⟨rfl, HB9.out⟩
  · have hk' : (chk c p s == 0) = false := by simp [hk]
    generalize chk c p s = q at *
    clear hk hs hm
    by_cases hr : r = 0
    · subst hr
      have CE3 := Lib.hid (CE2.out rfl)
      have CK3 := Lib.hid (CK2.out rfl)
      clear HZ CE2 CK2
      go_enter Try.func5, Try.ntmps5
      go_wp2_with (first
        | (have _h := HB6; go_at_call 10; refine (CK3.out _).mono ?_; rintro e w7 ⟨rfl, hb⟩; have HB7 := Lib.hid (HB6.out.trans (hb.mono HB6.out.size)); clear hb)
        | (have _h := HB5; go_at_call 8; refine (CE3.out _).mono ?_; rintro e w6 ⟨rfl, hb⟩; have HU6 := Lib.hid ((HU2.out _).below hb); have HB6 := Lib.hid (HB5.out.trans (hb.mono HB5.out.size)); obtain ⟨u0, u1, u2, u3, ul, -⟩ := HU6.out; clear hb)
        | (have _h := HB1; go_at_call 13; refine (CD2.out _).mono ?_; rintro e w5 ⟨rfl, hb⟩; have HB5 := Lib.hid ((HB1.out.trans (hb.mono HB1.out.size)).alloc (Nat.le_trans HB1.out.size hb.size) (.cells #[.int .i64 c', .int .i64 p', .bool g', .int .u64 m'] 24)); clear hb)
        | (go_at_call 10; refine (CK.out _).mono ?_; rintro e w1 ⟨rfl, hb⟩; have HB1 := Lib.hid (HB0.out.trans (hb.mono HB0.out.size)); clear hb)
        | (go_at_call 11; refine (lives13_any _).mono ?_; rintro e w9 ⟨rfl, hb⟩; have HB9 := Lib.hid (HB7.out.trans (hb.mono HB7.out.size)); clear hb))
      go_ret
      exact ⟨rfl, HB9.out⟩
    · obtain ⟨rfl, rfl, rfl, rfl⟩ := HZ.out hr
      have hr' : (r != 0) = true := by simp [hr]
      clear CE2 CK2 HZ
      go_enter Try.func5, Try.ntmps5
      go_wp2_with (first
        | (have _h := HB1; go_at_call 13; refine (CD2.out _).mono ?_; rintro e w5 ⟨rfl, hb⟩; have HB5 := Lib.hid ((HB1.out.trans (hb.mono HB1.out.size)).alloc (Nat.le_trans HB1.out.size hb.size) (.cells #[.int .i64 0, .int .i64 0, .bool false, .int .u64 0] 24)); clear hb)
        | (go_at_call 10; refine (CK.out _).mono ?_; rintro e w1 ⟨rfl, hb⟩; have HB1 := Lib.hid (HB0.out.trans (hb.mono HB0.out.size)); clear hb)
        | (go_at_call 11; refine (lives13_any _).mono ?_; rintro e w9 ⟨rfl, hb⟩; have HB9 := Lib.hid (HB5.out.trans (hb.mono HB5.out.size)); clear hb))
      go_ret
      exact ⟨rfl, HB9.out⟩
end Go.Proofs.Ytkmbcfkagniaaaa
