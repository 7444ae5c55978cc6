/-
  THE LAW BundleReads, walked.
-/
import Derived.Test.YtlkipjpjkiffjaaBuLives
namespace Go.Proofs.Ytlkipjpjkiffjaa
open Go.RowKit Go.Bu Go.Wr Go.Ad Pk_

set_option maxRecDepth 100000 in
set_option maxHeartbeats 4000000 in
theorem bundleReads_walk1 (l : List Pk) (sa : Option Addr) (c : Nat) (W : World) (h : Sl W sa l c) (hl : l.length ≤ maxLen) (hw : ∀ p ∈ l, PkW p) (s : ByteArray) (hs : s.size ≤ 140737488351232) :
    Calls Try.prog 5 #[.slice sa l.length c, .string s] W fun e w' => e = .returned (.bool true) ∧ Below W.heap.size W w' := by
  have AW := Lib.hid lives16_any
  have SM := Lib.hid (few16_any l sa c W h.lies hl)
  cases hm : fewB l
  · rw [hm] at SM
    go_enter Try.func5, Try.ntmps5
    go_wp2_with (first
      | (go_at_call 8; refine SM.out.mono ?_; rintro e w' ⟨rfl, rfl⟩)
      | (go_at_call 9; refine (AW.out _).mono ?_; rintro e w1 ⟨rfl, hb1⟩))
    go_returns
    exact ⟨rfl, hb1⟩
  rw [hm] at SM
  by_cases h3 : (3000 : Int) < s.size
  · go_enter Try.func5, Try.ntmps5
    go_wp2_with (first
      | (go_at_call 8; refine SM.out.mono ?_; rintro e w' ⟨rfl, rfl⟩)
      | (go_at_call 9; refine (AW.out _).mono ?_; rintro e w1 ⟨rfl, hb1⟩))
    go_returns
    exact ⟨rfl, hb1⟩
  have h3' : decide ((3000 : Int) < s.size) = false := decide_eq_false h3
  obtain ⟨hz, h10⟩ := few_sz hm hw
  have c1 := Lib.hid (buEncode_any l sa c W h.lies hz)
  have c2 := Lib.hid (fun w => buDecode_any (encS l) w (by have := encS_le l; omega))
  have c3 := Lib.hid (fun w => buDecode_any s w (by omega))
  have c4 := Lib.hid (fun sa c w h => buEncode_any (dec s).1 sa c w h (dec_sz s))
  have c5 := Lib.hid (fun sa sb c c' w h h' => r16Same_any l sa sb c c' w (by omega) h h')
  have hle := encS_le l
  have hle' : decide ((2048 : Int) < ((encS l).size : Int)) = false := decide_eq_false (by omega)
  have H := Lib.hid h
  have HD : Hid (encE l = 0 → dec (encS l) = (l, 0)) := dec_enc
  have HE : Hid ((dec s).2 = 0 → encE (dec s).1 = 0 ∧ encS (dec s).1 = s) := enc_dec
  have HNil : Hid (¬ (dec s).2 = 0 → (dec s).1 = []) := dec_nil s
  unfold EncPost at c1 c4
  unfold DecPost at c2 c3
  generalize (dec s).2 = g at *
  generalize (dec s).1 = n at *
  clear h hz hm hl hs hw h10 hle
  by_cases h0 : encE l = 0
  · rw [h0] at c1
    rw [HD.out h0] at c2
    simp only at c2
    generalize encS l = t at *
    by_cases hg : g = 0
    · obtain ⟨k0, k1⟩ := HE.out hg
      rw [k0, k1] at c4
      subst hg
      clear HD HE HNil h0 k0 k1
      go_enter Try.func5, Try.ntmps5
      go_wp2_with (first
        | (go_at_call 8; refine SM.out.mono ?_; rintro e w' ⟨rfl, rfl⟩)
        | (go_at_call 12; with_reducible refine c1.out.mono ?_; rintro e w1 ⟨rfl, hb⟩; have H1 := Lib.hid (H.out.below hb); have B1 := Lib.hid hb; clear hb H c1)
        | (go_at_call 14; with_reducible refine (c2.out _).mono ?_; rintro e w2 ⟨v2, n2, rfl, hs2, hb⟩; have H2 := Lib.hid (H1.out.below hb); have J2 := Lib.hid hs2; have B2 := Lib.hid (B1.out.trans (hb.mono B1.out.size)); clear hb H1 hs2 c2)
        | (go_at_call 16; refine (c5.out _ _ _ _ _ H2.out.lies J2.out.lies).mono ?_; rintro e w3 ⟨rfl, hb⟩; have B3 := Lib.hid (B2.out.trans (hb.mono B2.out.size)); clear hb H2 J2 B2)
        | (go_at_call 14; with_reducible refine (c3.out _).mono ?_; rintro e w4 ⟨v4, n4, rfl, hs4, hb⟩; have J4 := Lib.hid hs4; have B4 := Lib.hid (B3.out.trans (hb.mono B3.out.size)); clear hb hs4)
        | (go_at_call 12; refine (c4.out _ _ _ J4.out.lies).mono ?_; rintro e w5 ⟨rfl, hb⟩; have B5 := Lib.hid (B4.out.trans (hb.mono B4.out.size)); clear hb J4)
        | (go_at_call 9; refine (AW.out _).mono ?_; rintro e w6 ⟨rfl, hb⟩; have B6 := Lib.hid (B5.out.trans (hb.mono B5.out.size)); clear hb))
      go_returns
      exact ⟨rfl, B6.out⟩
    · have hg' : (g != 0) = true := by rw [bne_iff_ne]; exact hg
      obtain rfl := HNil.out hg
      clear HD HE HNil h0 c4 hg
      go_enter Try.func5, Try.ntmps5
      go_wp2_with (first
        | (go_at_call 8; refine SM.out.mono ?_; rintro e w' ⟨rfl, rfl⟩)
        | (go_at_call 12; with_reducible refine c1.out.mono ?_; rintro e w1 ⟨rfl, hb⟩; have H1 := Lib.hid (H.out.below hb); have B1 := Lib.hid hb; clear hb H c1)
        | (go_at_call 14; with_reducible refine (c2.out _).mono ?_; rintro e w2 ⟨v2, n2, rfl, hs2, hb⟩; have H2 := Lib.hid (H1.out.below hb); have J2 := Lib.hid hs2; have B2 := Lib.hid (B1.out.trans (hb.mono B1.out.size)); clear hb H1 hs2 c2)
        | (go_at_call 16; refine (c5.out _ _ _ _ _ H2.out.lies J2.out.lies).mono ?_; rintro e w3 ⟨rfl, hb⟩; have B3 := Lib.hid (B2.out.trans (hb.mono B2.out.size)); clear hb H2 J2 B2)
        | (go_at_call 14; with_reducible refine (c3.out _).mono ?_; rintro e w4 ⟨v4, n4, rfl, hs4, hb⟩; have J4 := Lib.hid hs4; have B4 := Lib.hid (B3.out.trans (hb.mono B3.out.size)); clear hb hs4)
        | (go_at_call 9; refine (AW.out _).mono ?_; rintro e w6 ⟨rfl, hb⟩; have B6 := Lib.hid (B4.out.trans (hb.mono B4.out.size)); clear hb))
      go_returns
      exact ⟨rfl, B6.out⟩
  · have h0' : (encE l == 0) = false := by rw [beq_eq_false_iff_ne]; exact h0
    generalize encS l = t at *
    generalize encE l = q at *
    by_cases hg : g = 0
    · obtain ⟨k0, k1⟩ := HE.out hg
      rw [k0, k1] at c4
      subst hg
      clear HD HE HNil h0 k0 k1
      go_enter Try.func5, Try.ntmps5
      go_wp2_with (first
        | (go_at_call 8; refine SM.out.mono ?_; rintro e w' ⟨rfl, rfl⟩)
        | (go_at_call 12; with_reducible refine c1.out.mono ?_; rintro e w1 ⟨rfl, hb⟩; have H1 := Lib.hid (H.out.below hb); have B1 := Lib.hid hb; clear hb H c1)
        | (go_at_call 14; with_reducible refine (c3.out _).mono ?_; rintro e w4 ⟨v4, n4, rfl, hs4, hb⟩; have J4 := Lib.hid hs4; have B4 := Lib.hid (B1.out.trans (hb.mono B1.out.size)); clear hb hs4)
        | (go_at_call 12; refine (c4.out _ _ _ J4.out.lies).mono ?_; rintro e w5 ⟨rfl, hb⟩; have B5 := Lib.hid (B4.out.trans (hb.mono B4.out.size)); clear hb J4)
        | (go_at_call 9; refine (AW.out _).mono ?_; rintro e w6 ⟨rfl, hb⟩; have B6 := Lib.hid (B5.out.trans (hb.mono B5.out.size)); clear hb))
      go_returns
      exact ⟨rfl, B6.out⟩
    · have hg' : (g != 0) = true := by rw [bne_iff_ne]; exact hg
      obtain rfl := HNil.out hg
      clear HD HE HNil h0 c4 hg
      go_enter Try.func5, Try.ntmps5
      go_wp2_with (first
        | (go_at_call 8; refine SM.out.mono ?_; rintro e w' ⟨rfl, rfl⟩)
        | (go_at_call 12; with_reducible refine c1.out.mono ?_; rintro e w1 ⟨rfl, hb⟩; have H1 := Lib.hid (H.out.below hb); have B1 := Lib.hid hb; clear hb H c1)
        | (go_at_call 14; with_reducible refine (c3.out _).mono ?_; rintro e w4 ⟨v4, n4, rfl, hs4, hb⟩; have J4 := Lib.hid hs4; have B4 := Lib.hid (B1.out.trans (hb.mono B1.out.size)); clear hb hs4)
        | (go_at_call 9; refine (AW.out _).mono ?_; rintro e w6 ⟨rfl, hb⟩; have B6 := Lib.hid (B4.out.trans (hb.mono B4.out.size)); clear hb))
      go_returns
      exact ⟨rfl, B6.out⟩
theorem bundleReads_walk0 (l : List Pk) (sa : Option Addr) (c : Nat) {W : World} (h : Sl W sa l c) (hl : l.length ≤ maxLen) (hw : ∀ x ∈ l, (Lit.int .u64 x.to).wf = true ∧ (Lit.int .u64 x.fr).wf = true) (s : ByteArray) (hs : s.size ≤ 140737488351232) :
    Calls Try.prog 5 #[.slice sa l.length c, .string s] W fun e w' => e = .returned (.bool true) ∧ Below W.heap.size W w' := bundleReads_walk1 l sa c W h hl (fun x hx => pkw (hw x hx)) s hs
end Go.Proofs.Ytlkipjpjkiffjaa
