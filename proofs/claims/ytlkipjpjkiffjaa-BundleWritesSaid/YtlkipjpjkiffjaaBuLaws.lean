/-
  THE LAWS BundleWrites, BundleParses, BundleRooms, walked.
-/
import Derived.Test.YtlkipjpjkiffjaaBuLives
namespace Go.Proofs.Ytlkipjpjkiffjaa
open Go.RowKit Go.Bu Go.Wr Go.Ad Pk_

set_option maxRecDepth 100000 in
set_option maxHeartbeats 2000000 in
theorem bundleRooms_walk1 (o m : Int) (W : World) (ho : (Lit.int .i64 o).wf = true) :
    Calls Try.prog 6 #[.int .i64 o, .int .i64 m] W fun e w' => e = .returned (.bool true) ∧ Below W.heap.size W w' := by
  have C1 := Lib.hid (buRoom_any o m W ho)
  have C2 := Lib.hid fun w => r16Room_any o m w
  have AW := Lib.hid lives16_any
  generalize rm o m = r at *
  go_enter Try.func6, Try.ntmps6
  go_wp2_with (first
    | (go_at_call 17; refine C1.out.mono ?_; rintro e w' ⟨rfl, rfl⟩)
    | (go_at_call 18; refine (C2.out _).mono ?_; rintro e w' ⟨rfl, rfl⟩)
    | (go_at_call 9; refine (AW.out _).mono ?_; rintro e w1 ⟨rfl, hb1⟩))
  go_returns
  exact ⟨rfl, hb1⟩

set_option maxRecDepth 100000 in
set_option maxHeartbeats 2000000 in
theorem bundleParses_walk1 (s : ByteArray) (hs : s.size ≤ 140737488351232) (W : World) :
    Calls Try.prog 4 #[.string s] W fun e w' => e = .returned (.bool true) ∧ Below W.heap.size W w' := by
  have AW := Lib.hid lives16_any
  by_cases h : (3000 : Int) < s.size
  · go_enter Try.func4, Try.ntmps4
    go_wp2_with (go_at_call 9; refine (AW.out _).mono ?_; rintro e w1 ⟨rfl, hb1⟩)
    go_returns
    exact ⟨rfl, hb1⟩
  · have c1 := Lib.hid (buDecode_any s W (by omega))
    have c2 := Lib.hid (fun w => r16Decode_any s w (by omega))
    have hln := (dec_sz s).1
    unfold DecPost at c1 c2
    generalize (dec s).2 = r at *
    generalize (dec s).1 = l at *
    have c3 := Lib.hid (fun sa sb c c' w h h' => r16Same_any l sa sb c c' w (by omega) h h')
    clear hs hln
    go_enter Try.func4, Try.ntmps4
    go_wp2_with (first
      | (go_at_call 14; refine c1.out.mono ?_; rintro e w1 ⟨v1, n1, rfl, hs1, hb⟩; have H1 := Lib.hid hs1; have B1 := Lib.hid hb; clear hb hs1 c1)
      | (go_at_call 15; refine (c2.out _).mono ?_; rintro e w2 ⟨v2, n2, rfl, hs2, hb⟩; have H2 := Lib.hid (H1.out.below hb); have J2 := Lib.hid hs2; have B2 := Lib.hid (B1.out.trans (hb.mono B1.out.size)); clear hb H1 B1 hs2)
      | (go_at_call 16; refine (c3.out _ _ _ _ _ H2.out.lies J2.out.lies).mono ?_; rintro e w3 ⟨rfl, hb⟩; have B3 := Lib.hid (B2.out.trans (hb.mono B2.out.size)); clear hb H2 J2 B2)
      | (go_at_call 9; refine (AW.out _).mono ?_; rintro e w4 ⟨rfl, hb⟩; have B4 := Lib.hid (B3.out.trans (hb.mono B3.out.size)); clear hb B3))
    go_returns
    exact ⟨rfl, B4.out⟩

set_option maxRecDepth 100000 in
set_option maxHeartbeats 4000000 in
theorem bundleWrites_walk1 (l : List Pk) (sa : Option Addr) (c : Nat) (W : World) (h : Sl W sa l c) (hl : l.length ≤ maxLen) (hw : ∀ p ∈ l, PkW p) :
    Calls Try.prog 3 #[.slice sa l.length c] W fun e w' => e = .returned (.bool true) ∧ Below W.heap.size W w' := by
  have AW := Lib.hid lives16_any
  have SM := Lib.hid (few16_any l sa c W h.lies hl)
  cases hs : fewB l
  · rw [hs] at SM
    go_enter Try.func3, Try.ntmps3
    go_wp2_with (first
      | (go_at_call 8; refine SM.out.mono ?_; rintro e w' ⟨rfl, rfl⟩)
      | (go_at_call 9; refine (AW.out _).mono ?_; rintro e w1 ⟨rfl, hb1⟩))
    go_returns
    exact ⟨rfl, hb1⟩
  rw [hs] at SM
  obtain ⟨hz, h10⟩ := few_sz hs hw
  have HA := Lib.hid h
  have c1 := Lib.hid (fun w h => buEncode_any l sa c w h hz)
  have c2 := Lib.hid (fun w h => r16Encode_any l sa c w h hz)
  have HW := Lib.hid hw
  unfold EncPost at c1 c2
  generalize encS l = s at *
  generalize encE l = r at *
  clear h hs hz hl hw
  go_enter Try.func3, Try.ntmps3
  go_wp2_with (go_at_call 8; refine SM.out.mono ?_; rintro e w' ⟨rfl, rfl⟩)
  go_loopw [14] (fun i wr => ∃ k : Nat, k ≤ l.length ∧ i = .int .i64 k ∧ Below W.heap.size W wr) (fun i _ => l.length - (intOf i).toNat)
  case atStart => exact ⟨0, Nat.zero_le _, rfl, Below.refl _ _⟩
  case round =>
    rename_i wr
    obtain ⟨k, hk, rfl, hb⟩ := hrel
    have HB := Lib.hid hb
    by_cases hlt : k < l.length
    · obtain ⟨b, off, rfl, hbl, c0, c1', c2'⟩ := HA.out.lies k hlt
      have HLT := Lib.hid hlt
      have hpw := HW.out l[k] (List.getElem_mem hlt)
      have K1 := Lib.hid fun w => buCheck_any l[k] w hpw
      have K2 := Lib.hid fun w => r16Check_any l[k] w hpw
      generalize l[k] = p at *
      generalize chk p = r0 at *
      have i0 : (0 : Int) ≤ (k : Int) := by omega
      have i1 : (k : Int) < (l.length : Int) := by omega
      have hc0 : ∀ (q : Of (fun w' => Below W.heap.size W w')), q.w.cell? ⟨b, off + k * 3, none⟩ = some (.int .u64 p.to) := fun q => (q.ok.cell (by exact hbl)).trans c0
      have hc1 : ∀ (q : Of (fun w' => Below W.heap.size W w')), q.w.cell? ⟨b, off + k * 3 + 1, none⟩ = some (.int .u64 p.fr) := fun q => (q.ok.cell (by exact hbl)).trans c1'
      have hc2 : ∀ (q : Of (fun w' => Below W.heap.size W w')), q.w.cell? ⟨b, off + k * 3 + 2, none⟩ = some (.string p.s) := fun q => (q.ok.cell (by exact hbl)).trans c2'
      have _ne : Nonempty (Of (fun w' => Below W.heap.size W w')) := ⟨⟨_, HB.out⟩⟩
      clear hb hpw c0 c1' c2'
      go_wp2
      refine wp_region_of (fun w' => Below W.heap.size W w') (by kernel_rfl) (by kernel_rfl) HB.out.drew ?_
      repeat (quiet_step (first
        | (go_at_call 10; exact Calls.of_below (fun _ _ h hb => h.trans (hb.mono h.size)) (K1.out _))
        | (go_at_call 11; exact Calls.of_below (fun _ _ h hb => h.trans (hb.mono h.size)) (K2.out _))))
      refine wpQuiet_nil ?_
      rintro _ ⟨q, rfl⟩
      have HB2 := Lib.hid q.ok
      generalize q.w = w2 at *
      clear hc0 hc1 hc2
      go_wp2
      go_roundw
      case rel => exact ⟨k + 1, HLT.out, by go_num, HB2.out⟩
      case measure => have := HLT.out; simp [intOf]; omega
    · obtain rfl : k = l.length := by omega
      have H1 := Lib.hid (HA.out.below hb)
      clear hb
      go_wp2_with (first
        | (go_at_call 12; refine (c1.out _ H1.out.lies).mono ?_; rintro e w1 ⟨rfl, hb⟩; have H2 := Lib.hid (H1.out.below hb); have B1 := Lib.hid (HB.out.trans (hb.mono HB.out.size)); clear hb)
        | (go_at_call 13; refine (c2.out _ H2.out.lies).mono ?_; rintro e w2 ⟨rfl, hb⟩; have B2 := Lib.hid (B1.out.trans (hb.mono B1.out.size)); clear hb)
        | (go_at_call 9; refine (AW.out _).mono ?_; rintro e w4 ⟨rfl, hb⟩; have B4 := Lib.hid (B2.out.trans (hb.mono B2.out.size)); clear hb))
      go_returns
      exact ⟨rfl, B4.out⟩

/-! As the rows call them. -/
theorem bundleRooms_walk0 (o : Int) (ho : (Lit.int .i64 o).wf = true) (m : Int) (_ : (Lit.int .i64 m).wf = true) {W : World} :
    Calls Try.prog 6 #[.int .i64 o, .int .i64 m] W fun e w' => e = .returned (.bool true) ∧ Below W.heap.size W w' := bundleRooms_walk1 o m W ho
theorem bundleParses_walk0 (s : ByteArray) (hs : s.size ≤ 140737488351232) {W : World} :
    Calls Try.prog 4 #[.string s] W fun e w' => e = .returned (.bool true) ∧ Below W.heap.size W w' := bundleParses_walk1 s hs W
theorem bundleWrites_walk0 (l : List Pk) (sa : Option Addr) (c : Nat) {W : World} (h : Sl W sa l c) (hl : l.length ≤ maxLen) (hw : ∀ x ∈ l, (Lit.int .u64 x.to).wf = true ∧ (Lit.int .u64 x.fr).wf = true) :
    Calls Try.prog 3 #[.slice sa l.length c] W fun e w' => e = .returned (.bool true) ∧ Below W.heap.size W w' := bundleWrites_walk1 l sa c W h hl fun x hx => pkw (hw x hx)
end Go.Proofs.Ytlkipjpjkiffjaa
