/-
  THE WALKS of the examples that every law of layer 5 ends with, and of the laws AddressKinds, AddressNodes, AddressReadsTexts.
-/
import Derived.Test.YtnbcphpjgahgoaaAdProg
namespace Go.Proofs.Ytnbcphpjgahgoaa
open Go.RowKit Go.Wr Go.Ad

theorem nat_of_u64 {a : Int} (h : (Lit.int .u64 a).wf = true) : ∃ n : Nat, a = n ∧ n < 18446744073709551616 := by
  simp [Lit.wf, IntKind.min, IntKind.max, IntKind.signed, IntKind.bits] at h
  exact ⟨a.toNat, by omega, by omega⟩

theorem prs9 : txt (prz (⟨#[48, 50, 58, 48, 48, 58, 48, 48, 58, 48, 48, 58, 48, 48, 58, 48, 97]⟩ : ByteArray).data.toList) = (⟨#[48, 50, 58, 48, 48, 58, 48, 48, 58, 48, 48, 58, 48, 48, 58, 48, 97]⟩ : ByteArray).data.toList := by decide +kernel
theorem prz9 : prz (⟨#[48, 50, 58, 48, 48, 58, 48, 48, 58, 48, 48, 58, 48, 48, 58, 48, 97]⟩ : ByteArray).data.toList = 2199023255562 := by decide +kernel
theorem prsA : ¬ txt (prz (⟨#[48, 50, 58, 48, 48, 58, 48, 48, 58, 48, 48, 58, 48, 48, 58, 48, 65]⟩ : ByteArray).data.toList) = (⟨#[48, 50, 58, 48, 48, 58, 48, 48, 58, 48, 48, 58, 48, 48, 58, 48, 65]⟩ : ByteArray).data.toList := by decide +kernel
theorem txt0 : (⟨(txt 2199023255553).toArray⟩ : ByteArray) = ⟨#[48, 50, 58, 48, 48, 58, 48, 48, 58, 48, 48, 58, 48, 48, 58, 48, 49]⟩ := by decide +kernel
theorem num9 : num 2199023255562 = (9, true) := by decide +kernel
theorem nod9 : nod 9 = 2199023255562 := by decide +kernel
theorem nod0 : nod 0 = 2199023255553 := by decide +kernel
theorem grpB : grp 281474976710655 = true := by decide +kernel
theorem grp9 : grp 2199023255562 = false := by decide +kernel

set_option maxRecDepth 100000 in
set_option maxHeartbeats 2000000 in
theorem lives_any (D : Does) (w : World) :
    Calls Try.prog 10 #[] w fun e w' => e = .returned (.bool true) ∧ Below w.heap.size w w' := by
  have P1 : Hid (∀ w, Calls Try.prog 12 #[.string ⟨#[48, 50, 58, 48, 48, 58, 48, 48, 58, 48, 48, 58, 48, 48, 58, 48, 97]⟩] w fun e w' => e = .returned (.tuple #[.int .u64 2199023255562, .int .i64 0]) ∧ Below w.heap.size w w') := fun w => by
    have h := D.parse_any ⟨#[48, 50, 58, 48, 48, 58, 48, 48, 58, 48, 48, 58, 48, 48, 58, 48, 97]⟩ w (by decide)
    rw [if_pos prs9, if_pos prs9, prz9] at h; exact h
  have P2 : Hid (∀ w, Calls Try.prog 12 #[.string ⟨#[48, 50, 58, 48, 48, 58, 48, 48, 58, 48, 48, 58, 48, 48, 58, 48, 65]⟩] w fun e w' => e = .returned (.tuple #[.int .u64 0, .int .i64 3]) ∧ Below w.heap.size w w') := fun w => by
    have h := D.parse_any ⟨#[48, 50, 58, 48, 48, 58, 48, 48, 58, 48, 48, 58, 48, 48, 58, 48, 65]⟩ w (by decide)
    rw [if_neg prsA, if_neg prsA] at h; exact h
  have N1 : Hid (∀ w, Calls Try.prog 16 #[.int .u64 2199023255562] w fun e w' => e = .returned (.tuple #[.int .i64 9, .bool true]) ∧ w = w') := fun w => by
    have h := D.number_any 2199023255562 w (by decide)
    rw [num9] at h; exact h
  have D9 : Hid (∀ w, Calls Try.prog 23 #[.int .i64 9] w fun e w' => e = .returned (.int .u64 2199023255562) ∧ w = w') := fun w => by
    have h := D.node_any 9 w (by decide)
    rw [nod9] at h; exact h
  have D0 : Hid (∀ w, Calls Try.prog 23 #[.int .i64 0] w fun e w' => e = .returned (.int .u64 2199023255553) ∧ w = w') := fun w => by
    have h := D.node_any 0 w (by decide)
    rw [nod0] at h; exact h
  have G1 : Hid (∀ w, Calls Try.prog 20 #[.int .u64 281474976710655] w fun e w' => e = .returned (.bool true) ∧ w = w') := fun w => by
    have h := D.group_any 281474976710655 w (by decide)
    rw [grpB] at h; exact h
  have G2 : Hid (∀ w, Calls Try.prog 20 #[.int .u64 2199023255562] w fun e w' => e = .returned (.bool false) ∧ w = w') := fun w => by
    have h := D.group_any 2199023255562 w (by decide)
    rw [grp9] at h; exact h
  have T1 : Hid (∀ w, Calls Try.prog 13 #[.int .u64 2199023255553] w fun e w' => e = .returned (.string ⟨#[48, 50, 58, 48, 48, 58, 48, 48, 58, 48, 48, 58, 48, 48, 58, 48, 49]⟩) ∧ Below w.heap.size w w') := fun w => by
    have h := D.text_any 2199023255553 w (by decide)
    rw [txt0] at h; exact h
  have T2 : Hid (∀ w, Calls Try.prog 13 #[.int .u64 281474976710656] w fun e w' => e = .returned (.string ⟨#[]⟩) ∧ Below w.heap.size w w') := fun w => D.text_big 281474976710656 w (by decide) (by decide)
  go_enter Try.func10, Try.ntmps10
  go_wp2_with fail
  refine (P1.out _).mono ?_
  rintro e w1 ⟨rfl, hb⟩
  have B1 := Lib.hid hb
  clear hb
  go_wp2_with fail
  refine (P2.out _).mono ?_
  rintro e w2 ⟨rfl, hb⟩
  have B2 := Lib.hid (B1.out.trans (hb.mono B1.out.size))
  clear hb P1 P2
  go_wp2_with (first
    | (go_at_call 16; refine (N1.out _).mono ?_; rintro e w' ⟨rfl, rfl⟩)
    | (go_at_call 23; with_reducible refine (D9.out _).mono ?_; rintro e w' ⟨rfl, rfl⟩)
    | (go_at_call 23; with_reducible refine (D0.out _).mono ?_; rintro e w' ⟨rfl, rfl⟩)
    | (go_at_call 20; with_reducible refine (G1.out _).mono ?_; rintro e w' ⟨rfl, rfl⟩)
    | (go_at_call 20; with_reducible refine (G2.out _).mono ?_; rintro e w' ⟨rfl, rfl⟩)
    | (go_at_call 13; with_reducible refine (T1.out _).mono ?_; rintro e w3 ⟨rfl, hb3⟩; have B3 := Lib.hid (B2.out.trans (hb3.mono B2.out.size)); clear hb3)
    | (go_at_call 13; with_reducible refine (T2.out _).mono ?_; rintro e w4 ⟨rfl, hb4⟩; have B4 := Lib.hid (B3.out.trans (hb4.mono B3.out.size)); clear hb4))
  go_returns
  exact ⟨rfl, B4.out⟩

set_option maxRecDepth 100000 in
set_option maxHeartbeats 2000000 in
theorem addressReadsTexts_walk1 (D : Does) (s : ByteArray) (_hs : s.size ≤ 140737488351232) (W : World) :
    Calls Try.prog 6 #[.string s] W fun e w' => e = .returned (.bool true) ∧ Below W.heap.size W w' := by
  have LV := Lib.hid (lives_any D)
  by_cases h2 : (200 : Int) < s.size
  · go_enter Try.func6, Try.ntmps6
    go_wp2_with (go_at_call 10; refine (LV.out _).mono ?_; rintro e w1 ⟨rfl, hb1⟩)
    go_returns
    exact ⟨rfl, hb1⟩
  obtain ⟨v, c, h1, h3⟩ : ∃ v c : Int, (∀ w, Calls Try.prog 12 #[.string s] w fun e w' => e = .returned (.tuple #[.int .u64 v, .int .i64 c]) ∧ Below w.heap.size w w') ∧ (∀ w, Calls Try.prog 24 #[.string s] w fun e w' => e = .returned (.tuple #[.int .u64 v, .int .i64 c]) ∧ Below w.heap.size w w') :=
    ⟨_, _, fun w => D.parse_any s w (by omega), fun w => refParse_any s w⟩
  have c1 := Lib.hid h1
  have c2 := Lib.hid h3
  clear h1 h3
  go_enter Try.func6, Try.ntmps6
  go_wp2_with (first
    | (go_at_call 12; refine (c1.out _).mono ?_; rintro e w1 ⟨rfl, hb1⟩; have B1 := Lib.hid hb1; clear hb1)
    | (go_at_call 24; refine (c2.out _).mono ?_; rintro e w2 ⟨rfl, hb2⟩; have B2 := Lib.hid (B1.out.trans (hb2.mono B1.out.size)); clear hb2)
    | (go_at_call 10; refine (LV.out _).mono ?_; rintro e w3 ⟨rfl, hb3⟩; have B3 := Lib.hid (B2.out.trans (hb3.mono B2.out.size)); clear hb3))
  go_returns
  exact ⟨rfl, B3.out⟩

theorem text_both (D : Does) (a : Nat) (ha : a < 18446744073709551616) : ∃ t : ByteArray,
    (∀ w, Calls Try.prog 13 #[.int .u64 a] w fun e w' => e = .returned (.string t) ∧ Below w.heap.size w w') ∧
    (∀ w, Calls Try.prog 22 #[.int .u64 a] w fun e w' => e = .returned (.string t) ∧ Below w.heap.size w w') := by
  by_cases h : a < 281474976710656
  · exact ⟨_, fun w => D.text_any a w h, fun w => refText5_any a w h⟩
  · exact ⟨_, fun w => D.text_big a w (by omega) (by omega), fun w => (refText5_big a w (by omega)).mono fun e w' h => ⟨h.1, h.2 ▸ Below.refl _ _⟩⟩

set_option maxRecDepth 100000 in
set_option maxHeartbeats 2000000 in
theorem addressKinds_walk1 (D : Does) (a0 : Int) (ha : (Lit.int .u64 a0).wf = true) (W : World) :
    Calls Try.prog 4 #[.int .u64 a0] W fun e w' => e = .returned (.bool true) ∧ Below W.heap.size W w' := by
  obtain ⟨a, rfl, hl⟩ := nat_of_u64 ha
  obtain ⟨t, h1, h2⟩ := text_both D a hl
  have c1 := Lib.hid (fun w => D.number_any a w hl)
  have c2 := Lib.hid (fun w => refNumber_any a w)
  have c3 := Lib.hid (fun w => D.valid_any a w hl)
  have c4 := Lib.hid (fun w => refValid_any a w)
  have c5 := Lib.hid (fun w => D.group_any a w hl)
  have c6 := Lib.hid (fun w => refGroup_any a w hl)
  have c7 := Lib.hid h1
  have c8 := Lib.hid h2
  have LV := Lib.hid (lives_any D)
  clear h1 h2 ha hl
  generalize num a = nb at *
  generalize vald a = v at *
  generalize grp a = g at *
  go_enter Try.func4, Try.ntmps4
  go_wp2_with (first
    | (go_at_call 16; refine (c1.out _).mono ?_; rintro e w' ⟨rfl, rfl⟩)
    | (go_at_call 17; refine (c2.out _).mono ?_; rintro e w' ⟨rfl, rfl⟩)
    | (go_at_call 18; refine (c3.out _).mono ?_; rintro e w' ⟨rfl, rfl⟩)
    | (go_at_call 19; refine (c4.out _).mono ?_; rintro e w' ⟨rfl, rfl⟩)
    | (go_at_call 20; refine (c5.out _).mono ?_; rintro e w' ⟨rfl, rfl⟩)
    | (go_at_call 21; refine (c6.out _).mono ?_; rintro e w' ⟨rfl, rfl⟩)
    | (go_at_call 13; refine (c7.out _).mono ?_; rintro e w1 ⟨rfl, hb1⟩; have B1 := Lib.hid hb1; clear hb1)
    | (go_at_call 22; refine (c8.out _).mono ?_; rintro e w2 ⟨rfl, hb2⟩; have B2 := Lib.hid (B1.out.trans (hb2.mono B1.out.size)); clear hb2)
    | (go_at_call 10; refine (LV.out _).mono ?_; rintro e w3 ⟨rfl, hb3⟩; have B3 := Lib.hid (B2.out.trans (hb3.mono B2.out.size)); clear hb3))
  go_returns
  exact ⟨rfl, B3.out⟩
end Go.Proofs.Ytnbcphpjgahgoaa
