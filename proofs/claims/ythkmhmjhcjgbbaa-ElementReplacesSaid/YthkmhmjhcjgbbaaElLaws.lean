/-
  THE LAWS ElementEncodes, ElementDecodes, ElementReads, over the contracts.
-/
import Derived.Test.YthkmhmjhcjgbbaaElProg
namespace Go.Proofs.Ythkmhmjhcjgbbaa
open Go.RowKit Go.Em El_

set_option maxRecDepth 100000 in
set_option maxHeartbeats 2000000 in
theorem elementEncodes_walk1 (D : Does) (l : List El) (sa : Option Addr) (c : Nat) (W : World) (h : Sl W sa l c) (hl : l.length ≤ maxLen) :
    Calls Try.prog 3 #[.slice sa l.length c] W fun e w' => e = .returned (.bool true) ∧ Below W.heap.size W w' := by
  have AW := Lib.hid (awake_any D)
  have SM := Lib.hid (refSmall_any l sa c W h.lies hl)
  cases hs : sml l
  · rw [hs] at SM
    go_enter Try.func3, Try.ntmps3
    go_wp2_with (first
      | (go_at_call 8; refine SM.out.mono ?_; rintro e w' ⟨rfl, rfl⟩)
      | (go_at_call 9; refine (AW.out _).mono ?_; rintro e w1 ⟨rfl, hb1⟩))
    go_returns
    exact ⟨rfl, hb1⟩
  · rw [hs] at SM
    obtain ⟨hz, h100⟩ := sml_sz hs
    have c1 := Lib.hid (D.encode_any l sa c W h hz)
    have c2 := Lib.hid (fun w h => refEncode_any l sa c w h (by omega))
    have c3 := Lib.hid (fun w h => D.check_any l sa c w h hz)
    have c4 := Lib.hid (fun w h => refCheck_any l sa c w h (by omega))
    have H := Lib.hid h
    generalize enc l = s at *
    generalize chk l = r at *
    clear h hz hs h100 hl
    go_enter Try.func3, Try.ntmps3
    go_wp2_with (first
      | (go_at_call 8; refine SM.out.mono ?_; rintro e w' ⟨rfl, rfl⟩)
      | (go_at_call 10; refine c1.out.mono ?_; rintro e w1 ⟨rfl, hb⟩; have H1 := Lib.hid (H.out.below hb); have B1 := Lib.hid hb; clear hb H c1)
      | (go_at_call 11; refine (c2.out _ H1.out.lies).mono ?_; rintro e w2 ⟨rfl, hb⟩; have H2 := Lib.hid (H1.out.below hb); have B2 := Lib.hid (B1.out.trans (hb.mono B1.out.size)); clear hb H1 B1)
      | (go_at_call 12; refine (c3.out _ H2.out).mono ?_; rintro e w3 ⟨rfl, hb⟩; have H3 := Lib.hid (H2.out.below hb); have B3 := Lib.hid (B2.out.trans (hb.mono B2.out.size)); clear hb H2 B2)
      | (go_at_call 13; refine (c4.out _ H3.out.lies).mono ?_; rintro e w' ⟨rfl, rfl⟩)
      | (go_at_call 9; refine (AW.out _).mono ?_; rintro e w4 ⟨rfl, hb⟩; have B4 := Lib.hid (B3.out.trans (hb.mono B3.out.size)); clear hb B3))
    go_returns
    exact ⟨rfl, B4.out⟩

set_option maxRecDepth 100000 in
set_option maxHeartbeats 2000000 in
theorem elementDecodes_walk1 (D : Does) (s : ByteArray) (hs : s.size ≤ 140737488351232) (W : World) :
    Calls Try.prog 4 #[.string s] W fun e w' => e = .returned (.bool true) ∧ Below W.heap.size W w' := by
  have AW := Lib.hid (awake_any D)
  by_cases h : (10000 : Int) < s.size
  · go_enter Try.func4, Try.ntmps4
    go_wp2_with (go_at_call 9; refine (AW.out _).mono ?_; rintro e w1 ⟨rfl, hb1⟩)
    go_returns
    exact ⟨rfl, hb1⟩
  · have c1 := Lib.hid (D.decode_any s W (by omega))
    have c2 := Lib.hid (fun w => refDecode_any s w (by omega))
    have hln := dec_len s
    unfold DecPost at c1 c2
    generalize (dec s).2 = r at *
    generalize (dec s).1 = l at *
    have c3 := Lib.hid (fun sa sb c c' w h h' => refSame_any l sa sb c c' w (by omega) h h')
    clear hs hln
    go_enter Try.func4, Try.ntmps4
    go_wp2_with (first
      | (go_at_call 14; refine c1.out.mono ?_; rintro e w1 ⟨v1, n1, rfl, hs1, hb⟩; have H1 := Lib.hid hs1; have B1 := Lib.hid hb; clear hb hs1 c1)
      | (go_at_call 15; refine (c2.out _).mono ?_; rintro e w2 ⟨v2, n2, rfl, hs2, hb⟩; have H2 := Lib.hid (H1.out.below hb); have J2 := Lib.hid hs2; have B2 := Lib.hid (B1.out.trans (hb.mono B1.out.size)); clear hb H1 B1 hs2)
      | (go_at_call 16; refine (c3.out _ _ _ _ _ H2.out.lies J2.out.lies).mono ?_; rintro e w3 ⟨rfl, hb⟩; have B3 := Lib.hid (B2.out.trans (hb.mono B2.out.size)); clear hb H2 J2 B2)
      | (go_at_call 9; refine (AW.out _).mono ?_; rintro e w4 ⟨rfl, hb⟩; have B4 := Lib.hid (B3.out.trans (hb.mono B3.out.size)); clear hb B3))
    go_returns
    exact ⟨rfl, B4.out⟩

theorem chk_int (l : List El) : chk l = 0 ∨ ¬ chk l = 0 := by omega

set_option maxRecDepth 100000 in
set_option maxHeartbeats 4000000 in
theorem elementReads_walk1 (D : Does) (l : List El) (sa : Option Addr) (c : Nat) (W : World) (h : Sl W sa l c) (hl : l.length ≤ maxLen) (s : ByteArray) (hs : s.size ≤ 140737488351232) :
    Calls Try.prog 5 #[.slice sa l.length c, .string s] W fun e w' => e = .returned (.bool true) ∧ Below W.heap.size W w' := by
  have AW := Lib.hid (awake_any D)
  have SM := Lib.hid (refSmall_any l sa c W h.lies hl)
  cases hm : sml l
  · rw [hm] at SM
    go_enter Try.func5, Try.ntmps5
    go_wp2_with (first
      | (go_at_call 8; refine SM.out.mono ?_; rintro e w' ⟨rfl, rfl⟩)
      | (go_at_call 9; refine (AW.out _).mono ?_; rintro e w1 ⟨rfl, hb1⟩))
    go_returns
    exact ⟨rfl, hb1⟩
  rw [hm] at SM
  by_cases h10 : (10000 : Int) < s.size
  · go_enter Try.func5, Try.ntmps5
    go_wp2_with (first
      | (go_at_call 8; refine SM.out.mono ?_; rintro e w' ⟨rfl, rfl⟩)
      | (go_at_call 9; refine (AW.out _).mono ?_; rintro e w1 ⟨rfl, hb1⟩))
    go_returns
    exact ⟨rfl, hb1⟩
  have h10' : decide ((10000 : Int) < s.size) = false := decide_eq_false h10
  obtain ⟨hz, h100⟩ := sml_sz hm
  have c1 := Lib.hid (D.encode_any l sa c W h hz)
  have c2 := Lib.hid (fun w => D.decode_any (enc l) w (enc_size l))
  have c3 := Lib.hid (fun w => D.decode_any s w (by omega))
  have c4 := Lib.hid (fun sa c w h => D.encode_any (dec s).1 sa c w h (dec_sz s))
  have c5 := Lib.hid (fun sa sb c c' w h h' => refSame_any l sa sb c c' w (by omega) h h')
  have H := Lib.hid h
  have HD : Hid (chk l = 0 → dec (enc l) = (l, 0)) := dec_enc
  have HE : Hid ((dec s).2 = 0 → chk (dec s).1 = 0 ∧ enc (dec s).1 = s) := enc_dec
  unfold DecPost at c2 c3
  generalize (dec s).2 = g at *
  generalize (dec s).1 = n at *
  clear h hz hm hl hs
  rcases chk_int l with h0 | h0
  · rw [h0] at c1
    rw [HD.out h0] at c2
    simp only at c2
    by_cases hg : g = 0
    · obtain ⟨k0, k1⟩ := HE.out hg
      rw [k0, k1] at c4
      subst hg
      generalize enc l = t at *
      clear HD HE h0 k0 k1
      go_enter Try.func5, Try.ntmps5
      go_wp2_with (first
        | (go_at_call 8; refine SM.out.mono ?_; rintro e w' ⟨rfl, rfl⟩)
        | (go_at_call 10; with_reducible refine c1.out.mono ?_; rintro e w1 ⟨rfl, hb⟩; have H1 := Lib.hid (H.out.below hb); have B1 := Lib.hid hb; clear hb H c1)
        | (go_at_call 14; with_reducible refine (c2.out _).mono ?_; rintro e w2 ⟨v2, n2, rfl, hs2, hb⟩; have H2 := Lib.hid (H1.out.below hb); have J2 := Lib.hid hs2; have B2 := Lib.hid (B1.out.trans (hb.mono B1.out.size)); clear hb H1 B1 hs2 c2)
        | (go_at_call 16; refine (c5.out _ _ _ _ _ H2.out.lies J2.out.lies).mono ?_; rintro e w3 ⟨rfl, hb⟩; have B3 := Lib.hid (B2.out.trans (hb.mono B2.out.size)); clear hb H2 J2 B2)
        | (go_at_call 14; with_reducible refine (c3.out _).mono ?_; rintro e w4 ⟨v4, n4, rfl, hs4, hb⟩; have J4 := Lib.hid hs4; have B4 := Lib.hid (B3.out.trans (hb.mono B3.out.size)); clear hb B3 hs4)
        | (go_at_call 10; refine (c4.out _ _ _ J4.out).mono ?_; rintro e w5 ⟨rfl, hb⟩; have B5 := Lib.hid (B4.out.trans (hb.mono B4.out.size)); clear hb J4 B4)
        | (go_at_call 9; refine (AW.out _).mono ?_; rintro e w6 ⟨rfl, hb⟩; have B6 := Lib.hid (B5.out.trans (hb.mono B5.out.size)); clear hb B5))
      go_returns
      exact ⟨rfl, B6.out⟩
    · generalize enc n = u at *
      generalize chk n = k at *
      generalize enc l = t at *
      clear HD HE h0
      go_enter Try.func5, Try.ntmps5
      go_wp2_with (first
        | (go_at_call 8; refine SM.out.mono ?_; rintro e w' ⟨rfl, rfl⟩)
        | (go_at_call 10; with_reducible refine c1.out.mono ?_; rintro e w1 ⟨rfl, hb⟩; have H1 := Lib.hid (H.out.below hb); have B1 := Lib.hid hb; clear hb H c1)
        | (go_at_call 14; with_reducible refine (c2.out _).mono ?_; rintro e w2 ⟨v2, n2, rfl, hs2, hb⟩; have H2 := Lib.hid (H1.out.below hb); have J2 := Lib.hid hs2; have B2 := Lib.hid (B1.out.trans (hb.mono B1.out.size)); clear hb H1 B1 hs2 c2)
        | (go_at_call 16; refine (c5.out _ _ _ _ _ H2.out.lies J2.out.lies).mono ?_; rintro e w3 ⟨rfl, hb⟩; have B3 := Lib.hid (B2.out.trans (hb.mono B2.out.size)); clear hb H2 J2 B2)
        | (go_at_call 14; with_reducible refine (c3.out _).mono ?_; rintro e w4 ⟨v4, n4, rfl, hs4, hb⟩; have J4 := Lib.hid hs4; have B4 := Lib.hid (B3.out.trans (hb.mono B3.out.size)); clear hb B3 hs4)
        | (go_at_call 10; refine (c4.out _ _ _ J4.out).mono ?_; rintro e w5 ⟨rfl, hb⟩; have B5 := Lib.hid (B4.out.trans (hb.mono B4.out.size)); clear hb J4 B4)
        | (go_at_call 9; refine (AW.out _).mono ?_; rintro e w6 ⟨rfl, hb⟩; have B6 := Lib.hid (B5.out.trans (hb.mono B5.out.size)); clear hb B5))
      go_returns
      exact ⟨rfl, B6.out⟩
  · generalize chk l = q at *
    generalize (dec (enc l)).2 = f at *
    generalize (dec (enc l)).1 = m at *
    generalize enc l = t at *
    clear HD
    by_cases hg : g = 0
    · obtain ⟨k0, k1⟩ := HE.out hg
      rw [k0, k1] at c4
      subst hg
      clear HE k0 k1
      go_enter Try.func5, Try.ntmps5
      go_wp2_with (first
        | (go_at_call 8; refine SM.out.mono ?_; rintro e w' ⟨rfl, rfl⟩)
        | (go_at_call 10; with_reducible refine c1.out.mono ?_; rintro e w1 ⟨rfl, hb⟩; have B1 := Lib.hid hb; clear hb H c1)
        | (go_at_call 14; with_reducible refine (c2.out _).mono ?_; rintro e w2 ⟨v2, n2, rfl, hs2, hb⟩; have B3 := Lib.hid (B1.out.trans (hb.mono B1.out.size)); clear hb B1 hs2 c2)
        | (go_at_call 14; with_reducible refine (c3.out _).mono ?_; rintro e w4 ⟨v4, n4, rfl, hs4, hb⟩; have J4 := Lib.hid hs4; have B4 := Lib.hid (B3.out.trans (hb.mono B3.out.size)); clear hb B3 hs4)
        | (go_at_call 10; refine (c4.out _ _ _ J4.out).mono ?_; rintro e w5 ⟨rfl, hb⟩; have B5 := Lib.hid (B4.out.trans (hb.mono B4.out.size)); clear hb J4 B4)
        | (go_at_call 9; refine (AW.out _).mono ?_; rintro e w6 ⟨rfl, hb⟩; have B6 := Lib.hid (B5.out.trans (hb.mono B5.out.size)); clear hb B5))
      go_returns
      exact ⟨rfl, B6.out⟩
    · generalize enc n = u at *
      generalize chk n = k at *
      clear HE
      go_enter Try.func5, Try.ntmps5
      go_wp2_with (first
        | (go_at_call 8; refine SM.out.mono ?_; rintro e w' ⟨rfl, rfl⟩)
        | (go_at_call 10; with_reducible refine c1.out.mono ?_; rintro e w1 ⟨rfl, hb⟩; have B1 := Lib.hid hb; clear hb H c1)
        | (go_at_call 14; with_reducible refine (c2.out _).mono ?_; rintro e w2 ⟨v2, n2, rfl, hs2, hb⟩; have B3 := Lib.hid (B1.out.trans (hb.mono B1.out.size)); clear hb B1 hs2 c2)
        | (go_at_call 14; with_reducible refine (c3.out _).mono ?_; rintro e w4 ⟨v4, n4, rfl, hs4, hb⟩; have J4 := Lib.hid hs4; have B4 := Lib.hid (B3.out.trans (hb.mono B3.out.size)); clear hb B3 hs4)
        | (go_at_call 10; refine (c4.out _ _ _ J4.out).mono ?_; rintro e w5 ⟨rfl, hb⟩; have B5 := Lib.hid (B4.out.trans (hb.mono B4.out.size)); clear hb J4 B4)
        | (go_at_call 9; refine (AW.out _).mono ?_; rintro e w6 ⟨rfl, hb⟩; have B6 := Lib.hid (B5.out.trans (hb.mono B5.out.size)); clear hb B5))
      go_returns
      exact ⟨rfl, B6.out⟩
end Go.Proofs.Ythkmhmjhcjgbbaa
