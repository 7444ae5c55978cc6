/-
  THE LAWS of layer 13: what all of them end in (lives), TimChecks, TimHas.
-/
import Derived.Test.YtkmbcfkagniaaaaTmRefD
namespace Go.Proofs.Ytkmbcfkagniaaaa
open Go.RowKit Go.Bs Go.Tm

theorem lv_enc : encR 0 2 true 2147614720 = ⟨#[0, 2, 3, 2, 128]⟩ := by decide +kernel
theorem lv_enc1 : enc 0 2 true 2147614720 = ⟨#[0, 2, 3, 2, 128]⟩ := by decide +kernel
theorem lv_chk : chk 0 2 2147614720 = 0 := by decide +kernel
theorem lv_dec : dec ⟨#[0, 2, 3, 2, 128]⟩ = (⟨0, 2, true, 2147614720⟩, 0) := by
  rw [← lv_enc1]; exact dec_enc (by decide) lv_chk
theorem lv_bad : dec ⟨#[0, 2, 1, 0, 0, 2, 128]⟩ = (zt, 3) := by
  rw [dec_in (by decide) (by decide) (by decide +kernel)]
  exact if_neg fun h => absurd h.2 (by decide +kernel)

set_option maxRecDepth 100000 in
set_option maxHeartbeats 4000000 in
theorem lives13_any (w : World) : Calls Try.prog 11 #[] w fun e w' => e = .returned (.bool true) ∧ Below w.heap.size w w' := by
  have CE : Hid (∀ w, Calls Try.prog 8 #[.agg #[.int .i64 0, .int .i64 2, .bool true, .int .u64 2147614720]] w fun e w' => e = .returned (.tuple #[.string ⟨#[0, 2, 3, 2, 128]⟩, .int .i64 0]) ∧ Below w.heap.size w w') := fun w => by
    have := tmEncode_any 0 2 true 2147614720 w (by decide)
    rw [lv_enc, lv_chk] at this
    exact this
  have CD : Hid (∀ w, Calls Try.prog 13 #[.string ⟨#[0, 2, 3, 2, 128]⟩] w fun e w' => e = .returned (.tuple #[.agg #[.int .i64 0, .int .i64 2, .bool true, .int .u64 2147614720], .int .i64 0]) ∧ Below w.heap.size w w') := fun w => by
    have := tmDecode_any ⟨#[0, 2, 3, 2, 128]⟩ w (by decide)
    rw [lv_dec] at this
    exact this
  have CB : Hid (∀ w, Calls Try.prog 13 #[.string ⟨#[0, 2, 1, 0, 0, 2, 128]⟩] w fun e w' => e = .returned (.tuple #[.agg #[.int .i64 0, .int .i64 0, .bool false, .int .u64 0], .int .i64 3]) ∧ Below w.heap.size w w') := fun w => by
    have := tmDecode_any ⟨#[0, 2, 1, 0, 0, 2, 128]⟩ w (by decide)
    rw [lv_bad] at this
    exact this
  have CH : Hid (∀ w, Calls Try.prog 15 #[.agg #[.int .i64 0, .int .i64 2, .bool true, .int .u64 2147614720], .int .i64 17] w fun e w' => e = .returned (.bool true) ∧ Below w.heap.size w w') := fun w => by
    have := tmHas_any 0 2 true 2147614720 17 w (by decide)
    rw [show (decide ((17 : Int) ≠ 0) && has 2147614720 17) = true by decide +kernel] at this
    exact this
  have CZ : Hid (∀ w, Calls Try.prog 15 #[.agg #[.int .i64 0, .int .i64 2, .bool true, .int .u64 2147614720], .int .i64 0] w fun e w' => e = .returned (.bool false) ∧ Below w.heap.size w w') := fun w => by
    have := tmHas_any 0 2 true 2147614720 0 w (by decide)
    rw [show (decide ((0 : Int) ≠ 0) && has 2147614720 0) = false by decide +kernel] at this
    exact this
  have HA := Lib.hid (TmB.new w 0 2 true 2147614720)
  have HU := Lib.hid fun w => TmB.new w 0 2 true 2147614720
  have HB : Hid (Below w.heap.size w (w.alloc (.cells #[.int .i64 0, .int .i64 2, .bool true, .int .u64 2147614720] 24))) := (Below.refl _ _).alloc (Nat.le_refl _) _
  go_enter Try.func11, Try.ntmps11
  go_wp2_with (first
    | (have _h := HA5; go_at_call 15; refine (CZ.out _).mono ?_; rintro e w6 ⟨rfl, hb⟩; have HB6 := Lib.hid (HB5.out.trans (hb.mono HB5.out.size)); clear hb)
    | (have _h := HA3; go_at_call 15; refine (CH.out _).mono ?_; rintro e w5 ⟨rfl, hb⟩; have HA5 := Lib.hid ((HA3.out.alloc _).below hb); have HB5 := Lib.hid ((HB3.out.alloc HB3.out.size _).trans (hb.mono (HB3.out.alloc HB3.out.size _).size)); obtain ⟨d0, d1, d2, d3, -, -⟩ := HA5.out; clear hb)
    | (have _h := HA2; go_at_call 13; refine (CB.out _).mono ?_; rintro e w3 ⟨rfl, hb⟩; have HA3 := Lib.hid ((HA2.out.alloc _).below hb); have HU3 := Lib.hid ((HU.out _).below hb); have HB3 := Lib.hid ((HB2.out.alloc HB2.out.size _).trans (hb.mono (HB2.out.alloc HB2.out.size _).size)); obtain ⟨d0, d1, d2, d3, dl, -⟩ := HA3.out; obtain ⟨u0, u1, u2, u3, ul, -⟩ := HU3.out; clear hb)
    | (have _h := HA1; go_at_call 13; refine (CD.out _).mono ?_; rintro e w2 ⟨rfl, hb⟩; have HA2 := Lib.hid (HA1.out.below hb); have HB2 := Lib.hid (HB1.out.trans (hb.mono HB1.out.size)); clear hb)
    | (go_at_call 8; refine (CE.out _).mono ?_; rintro e w1 ⟨rfl, hb⟩; have HA1 := Lib.hid (HA.out.below hb); have HB1 := Lib.hid (HB.out.trans (hb.mono (by simp))); clear hb))
  go_ret
  exact ⟨rfl, HB6.out⟩

/-- The bounds of a set that came in. -/
theorem set_nat {m : Int} (h : (Lit.int .u64 m).wf = true) : ∃ n : Nat, m = (n : Int) ∧ n < 18446744073709551616 := by
  simp [Lit.wf, IntKind.min, IntKind.max, IntKind.signed, IntKind.bits] at h
  exact ⟨m.toNat, by omega, by omega⟩

set_option maxRecDepth 100000 in
set_option maxHeartbeats 4000000 in
theorem timChecks_walk0 (x : Tm) (hw : (Lit.int .i64 x.c).wf = true ∧ (Lit.int .i64 x.p).wf = true ∧ (Lit.int .u64 x.m).wf = true) (W : World) :
    Calls Try.prog 3 #[Tm_.v x] W fun e W' => e = .returned (.bool true) ∧ Below W.heap.size W W' := by
  obtain ⟨c, p, g, m⟩ := x
  obtain ⟨-, -, hm⟩ := hw
  obtain ⟨s, rfl, hs⟩ := set_nat hm
  show Calls Try.prog 3 #[.agg #[.int .i64 c, .int .i64 p, .bool g, .int .u64 (s : Int)]] W fun e W' => e = .returned (.bool true) ∧ Below W.heap.size W W'
  have CE := Lib.hid fun w => tmEncode_any c p g s w hs
  have CR := Lib.hid fun w => refCheck13_any c p g s w hs
  have CK := Lib.hid fun w => tmCheck_any c p g s w hs
  have HX0 := Lib.hid (TmB.new W c p g (s : Int))
  have HB0 : Hid (Below W.heap.size W (W.alloc (.cells #[.int .i64 c, .int .i64 p, .bool g, .int .u64 (s : Int)] 24))) := (Below.refl _ _).alloc (Nat.le_refl _) _
  by_cases hk : chk c p s = 0
  · have CF := Lib.hid fun w => refEncode13_any c p g s w hs (chk_ok.1 hk).1
    have hE : encR c p g s = enc c p g s := if_pos hk
    rw [hk] at CE CR CK
    rw [hE] at CE
    clear hk hE hs hm
    generalize enc c p g s = E at *
    go_enter Try.func3, Try.ntmps3
    go_wp2_with (first
      | (go_at_call 8; refine (CE.out _).mono ?_; rintro e w1 ⟨rfl, hb⟩; have HX1 := Lib.hid (HX0.out.below hb); have HB1 := Lib.hid (HB0.out.trans (hb.mono HB0.out.size)); obtain ⟨d0, d1, d2, d3, -, -⟩ := HX1.out; clear hb)
      | (go_at_call 9; refine (CR.out _).mono ?_; rintro e w2 ⟨rfl, hb⟩; have HX2 := Lib.hid (HX1.out.below hb); have HB2 := Lib.hid (HB1.out.trans (hb.mono HB1.out.size)); obtain ⟨d0, d1, d2, d3, -, -⟩ := HX2.out; clear hb)
      | (go_at_call 10; refine (CK.out _).mono ?_; rintro e w3 ⟨rfl, hb⟩; have HX3 := Lib.hid (HX2.out.below hb); have HB3 := Lib.hid (HB2.out.trans (hb.mono HB2.out.size)); obtain ⟨d0, d1, d2, d3, -, -⟩ := HX3.out; clear hb)
      | (go_at_call 12; refine (CF.out _).mono ?_; rintro e w4 ⟨rfl, hb⟩; have HB4 := Lib.hid (HB3.out.trans (hb.mono HB3.out.size)); clear hb)
      | (go_at_call 11; refine (lives13_any _).mono ?_; rintro e w5 ⟨rfl, hb⟩; have HB5 := Lib.hid (HB4.out.trans (hb.mono HB4.out.size)); clear hb))
    go_ret
    exact ⟨rfl, HB5.out⟩
  · have hE : encR c p g s = ⟨#[]⟩ := if_neg hk
    rw [hE] at CE
    have hk' : (chk c p s != 0) = true := by simp [hk]
    clear hE hs hm
    generalize chk c p s = r at *
    go_enter Try.func3, Try.ntmps3
    go_wp2_with (first
      | (go_at_call 8; refine (CE.out _).mono ?_; rintro e w1 ⟨rfl, hb⟩; have HX1 := Lib.hid (HX0.out.below hb); have HB1 := Lib.hid (HB0.out.trans (hb.mono HB0.out.size)); obtain ⟨d0, d1, d2, d3, -, -⟩ := HX1.out; clear hb)
      | (go_at_call 9; refine (CR.out _).mono ?_; rintro e w2 ⟨rfl, hb⟩; have HX2 := Lib.hid (HX1.out.below hb); have HB2 := Lib.hid (HB1.out.trans (hb.mono HB1.out.size)); obtain ⟨d0, d1, d2, d3, -, -⟩ := HX2.out; clear hb)
      | (go_at_call 10; refine (CK.out _).mono ?_; rintro e w3 ⟨rfl, hb⟩; have HX3 := Lib.hid (HX2.out.below hb); have HB3 := Lib.hid (HB2.out.trans (hb.mono HB2.out.size)); obtain ⟨d0, d1, d2, d3, -, -⟩ := HX3.out; clear hb)
      | (go_at_call 11; refine (lives13_any _).mono ?_; rintro e w5 ⟨rfl, hb⟩; have HB5 := Lib.hid (HB3.out.trans (hb.mono HB3.out.size)); clear hb))
    go_ret
    exact ⟨rfl, HB5.out⟩
end Go.Proofs.Ytkmbcfkagniaaaa
