/-
  THE WALK of the law BitsetParses: true, for every set and every text.
-/
import Derived.Test.YtfmjekfgfkcleaaDoorBsLives
import Derived.Test.YtfmjekfgfkcleaaDoorBsTxt
import Derived.Test.YtfmjekfgfkcleaaDoorBsRefText
import Derived.Test.YtfmjekfgfkcleaaDoorBsGuess
namespace Go.Proofs.YtfmjekfgfkcleaaDoor
open Go.RowKit Go.Bs

theorem str_ne {a b : ByteArray} (h : a.data.toList ≠ b.data.toList) : (!a.toList == b.toList) = true := by
  rw [Lib.toList_data, Lib.toList_data]; simpa using h

theorem prs_lt {l : List UInt8} {v : Nat} (h : prs l = some v) : v < 18446744073709551616 := by
  unfold prs at h
  split at h
  · injection h with h; omega
  · obtain ⟨z, r, _, hy, _⟩ := prl_some _ _ _ _ _ h
    rw [hy]; exact fold_lt _ 0 (by decide)

set_option maxRecDepth 100000 in
set_option maxHeartbeats 3200000 in
theorem parses_walk (s : Nat) (text : ByteArray) (w : World) (hs : s < 18446744073709551616) (ht : text.size ≤ 281474976710656) (hv : ErrVars w) (hT : Tab64 w) (hg : 0 < w.heap.size) :
    Calls Tryd.prog 7 #[.int .u64 s, .string text] w fun e w' => e = .returned (.bool true) ∧ Below w.heap.size w w' := by
  obtain ⟨t, hte⟩ : ∃ t : ByteArray, t = ⟨(txt s).toArray⟩ := ⟨_, rfl⟩
  have htl : t.data.toList = txt s := by rw [hte]
  have htz : t.size ≤ 281474976710656 := by
    rw [← size_eq, htl]; have := txt_le s; omega
  have HL : Hid (∀ wx : World, Below w.heap.size w wx → Calls Tryd.prog 17 #[] wx fun e w' => e = .returned (.bool true) ∧ Below w.heap.size w w') := fun wx hb =>
    (lives_any wx (hv.below hb)).mono fun e w' h => ⟨h.1, hb.trans (h.2.mono hb.size)⟩
  have HTx : Hid (∀ wx : World, Below w.heap.size w wx → Calls Tryd.prog 28 #[.int .u64 s] wx fun e w' => e = .returned (.string t) ∧ Below w.heap.size w w') := fun wx hb => by
    rw [hte]
    exact (text_any s hs wx (hT.below hg hb) (Nat.lt_of_lt_of_le hg hb.size)).mono fun e w' h => ⟨h.1, hb.trans (h.2.mono hb.size)⟩
  have HR : Hid (∀ (x : Nat) (_ : x < 18446744073709551616) (wx : World), Below w.heap.size w wx → Calls Tryd.prog 30 #[.int .u64 x] wx fun e w' => e = .returned (.string ⟨(txt x).toArray⟩) ∧ Below w.heap.size w w') := fun x hx wx hb =>
    (refText_any x wx hx).mono fun e w' h => ⟨h.1, hb.trans (h.2.mono hb.size)⟩
  have HRs : Hid (∀ wx : World, Below w.heap.size w wx → Calls Tryd.prog 30 #[.int .u64 s] wx fun e w' => e = .returned (.string t) ∧ Below w.heap.size w w') := fun wx hb => by
    rw [hte]; exact HR.out s hs wx hb
  have HPt : Hid (∀ wx : World, Below w.heap.size w wx → Calls Tryd.prog 29 #[.string t] wx fun e w' => e = .returned (.tuple #[.int .u64 s, .int .i64 0]) ∧ Below w.heap.size w w') := fun wx hb =>
    (parse_any t wx htz (hv.below hb)).mono fun e w' h => by
      obtain ⟨hb2, ⟨h1, _⟩ | ⟨v, h1, _, h2⟩⟩ := h
      · rw [htl, prs_txt hs] at h1; cases h1
      · rw [htl, prs_txt hs] at h1
        injection h1 with h1
        subst h1
        exact ⟨h2, hb.trans (hb2.mono hb.size)⟩
  clear hte htl htz
  cases hp : prs text.data.toList with
  | none =>
    have HPx : Hid (∀ wx : World, Below w.heap.size w wx → Calls Tryd.prog 29 #[.string text] wx fun e w' => e = .returned (.tuple #[.int .u64 0, .int .i64 3]) ∧ Below w.heap.size w w') := fun wx hb =>
      (parse_any text wx ht (hv.below hb)).mono fun e w' h => by
        obtain ⟨hb2, ⟨_, h2⟩ | ⟨v, h1, _, _⟩⟩ := h
        · exact ⟨h2, hb.trans (hb2.mono hb.size)⟩
        · rw [hp] at h1; cases h1
    have HG : Hid (∀ wx : World, Calls Tryd.prog 31 #[.string text] wx fun e w' => ∃ g : Nat, g < 18446744073709551616 ∧ e = .returned (.int .u64 g) ∧ wx = w') := fun wx => (guess_any text wx ht).mono fun e w' ⟨g, h1, h2, h3⟩ => ⟨g, h1, h2, h3.symm⟩
    have HN : Hid (∀ g : Nat, g < 18446744073709551616 → ∃ rt : ByteArray, (!rt.toList == text.toList) = true ∧ ∀ wx : World, Below w.heap.size w wx → Calls Tryd.prog 30 #[.int .u64 g] wx fun e w' => e = .returned (.string rt) ∧ Below w.heap.size w w') := fun g hg =>
      ⟨⟨(txt g).toArray⟩, str_ne (a := ⟨(txt g).toArray⟩) (b := text) (fun e => by
        have := prs_txt hg
        rw [show txt g = text.data.toList from e, hp] at this; cases this), fun wx hb => HR.out g hg wx hb⟩
    clear hp hs ht hv hT hg
    go_enter Tryd.func7, Tryd.ntmps7
    go_wp2_with (first
      | (go_at_call 28; refine (HTx.out _ (Below.refl _ _)).mono ?_; rintro e w1 ⟨rfl, hb1⟩)
      | (go_at_call 29; with_reducible refine (HPt.out _ (by assumption)).mono ?_; rintro e w2 ⟨rfl, hb2⟩)
      | (go_at_call 30; with_reducible refine (HRs.out _ (by assumption)).mono ?_; rintro e w3 ⟨rfl, hb3⟩)
      | (go_at_call 29; with_reducible refine (HPx.out _ (by assumption)).mono ?_; rintro e w4 ⟨rfl, hb4⟩)
      | (go_at_call 31; refine (HG.out _).mono ?_; rintro e w' ⟨g, hgl, rfl, rfl⟩; obtain ⟨rt, hgn, hRt⟩ := HN.out g hgl)
      | (go_at_call 30; refine (hRt _ (by assumption)).mono ?_; rintro e w5 ⟨rfl, hb5⟩)
      | (go_at_call 17; refine (HL.out _ (by assumption)).mono ?_; rintro e w6 ⟨rfl, hb6⟩))
    go_ret
    exact ⟨rfl, hb6⟩
  | some v =>
    have hvl := prs_lt hp
    have HPx : Hid (∀ wx : World, Below w.heap.size w wx → Calls Tryd.prog 29 #[.string text] wx fun e w' => e = .returned (.tuple #[.int .u64 v, .int .i64 0]) ∧ Below w.heap.size w w') := fun wx hb =>
      (parse_any text wx ht (hv.below hb)).mono fun e w' h => by
        obtain ⟨hb2, ⟨h1, _⟩ | ⟨x, h1, _, h2⟩⟩ := h
        · rw [hp] at h1; cases h1
        · rw [hp] at h1
          injection h1 with h1
          subst h1
          exact ⟨h2, hb.trans (hb2.mono hb.size)⟩
    have HRv : Hid (∀ wx : World, Below w.heap.size w wx → Calls Tryd.prog 30 #[.int .u64 v] wx fun e w' => e = .returned (.string text) ∧ Below w.heap.size w w') := fun wx hb => by
      have := HR.out v hvl wx hb
      rw [txt_prs hp, show (⟨text.data.toList.toArray⟩ : ByteArray) = text from rfl] at this
      exact this
    clear hp hs ht hv hT hg hvl HR
    go_enter Tryd.func7, Tryd.ntmps7
    go_wp2_with (first
      | (go_at_call 28; refine (HTx.out _ (Below.refl _ _)).mono ?_; rintro e w1 ⟨rfl, hb1⟩)
      | (go_at_call 29; with_reducible refine (HPt.out _ (by assumption)).mono ?_; rintro e w2 ⟨rfl, hb2⟩)
      | (go_at_call 30; with_reducible refine (HRs.out _ (by assumption)).mono ?_; rintro e w3 ⟨rfl, hb3⟩)
      | (go_at_call 29; with_reducible refine (HPx.out _ (by assumption)).mono ?_; rintro e w4 ⟨rfl, hb4⟩)
      | (go_at_call 30; with_reducible refine (HRv.out _ (by assumption)).mono ?_; rintro e w5 ⟨rfl, hb5⟩)
      | (go_at_call 17; refine (HL.out _ (by assumption)).mono ?_; rintro e w6 ⟨rfl, hb6⟩))
    go_ret
    exact ⟨rfl, hb6⟩
theorem bitsetParses_walk0 (a0 : Int) (w0 : (Lit.int .u64 a0).wf = true) (a1 : ByteArray) (w1 : a1.size ≤ 140737488351232) (W : World) (hl : LaidFacts W) :
    Calls Tryd.prog 7 #[.int .u64 a0, .string a1] W fun e w' => e = .returned (.bool true) ∧ Below W.heap.size W w' := by
  obtain ⟨n, rfl, hn⟩ := nat_of_u64 w0
  have hT := tab64_of hl
  have hg : 0 < W.heap.size := World.block_lt_of_cell? W _ (hT 0 (by decide))
  exact parses_walk n a1 W hn (by omega) hl.errs hT hg
end Go.Proofs.YtfmjekfgfkcleaaDoor
