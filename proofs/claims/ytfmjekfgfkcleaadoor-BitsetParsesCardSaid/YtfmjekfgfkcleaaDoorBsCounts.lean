/-
  THE WALK of the law BitsetCounts: true, for every set.
-/
import Derived.Test.YtfmjekfgfkcleaaDoorBsLives
import Derived.Test.YtfmjekfgfkcleaaDoorBsCount
import Derived.Test.YtfmjekfgfkcleaaDoorBsEach
import Derived.Test.YtfmjekfgfkcleaaDoorBsSame
namespace Go.Proofs.YtfmjekfgfkcleaaDoor
open Go.RowKit Go.Bs

theorem eachLaw_any (s : Nat) (hs : s < 18446744073709551616) (w : World) (hT : Tab64 w) (hg : 0 < w.heap.size) :
    Calls Tryd.prog 22 #[.int .u64 s] w fun e w' => EachPost s w e w' :=
  (callsIn_wide (n := 3)).1 (eachLaw_in 3 (by omega) s hs w hT hg)
theorem each_any (s : Nat) (w : World) :
    Calls Tryd.prog 18 #[.int .u64 s] w fun e w' => e = .returned (.func (.func 34) #[] #[.pointer (some ⟨w.heap.size, 0, none⟩)]) ∧ w' = w.alloc (.cells #[.int .u64 s] 22) :=
  (callsIn_wide (n := 1)).1 (each_in 1 s w)

theorem fn_nil (b : Nat) (w : World) : (binOp .eql 32 (.func (.func 34) #[] #[.pointer (some ⟨b, 0, none⟩)]) .nilFunc).run Tryd.prog w = .ok (.bool false) w := by kernel_rfl

theorem owns_all {s base : Nat} {v : Value} {wr : World} (h : wr.ownsRow base 3 1 v (els s).length ((els s).map (Value.int .i64))) (hne : v ≠ .slice none 0 0) :
    ∃ g cap, v = .slice (some ⟨g, 0, none⟩) (els s).length cap ∧ base ≤ g ∧ g < wr.heap.size ∧ ∀ j (h : j < (els s).length), wr.cell? ⟨g, j, none⟩ = some (.int .i64 (els s)[j]) := owns_els (k := 64) h hne

theorem ne_nil_of_row {w : World} {base size n : Nat} {e : TypeId} {v : Value} {xs : List Value} (h : w.ownsRow base e size v n xs) (hn : 0 < n) : v ≠ .slice none 0 0 := by
  rintro rfl
  rcases h.2 with ⟨_, h0⟩ | ⟨_, _, _, h0, _⟩
  · omega
  · cases h0

theorem els_nil {s : Nat} (h : els s = []) (hs : s < 18446744073709551616) : s = 0 := by
  by_cases h0 : s = 0
  · exact h0
  · rw [els_cons h0 hs] at h; cases h

set_option maxRecDepth 100000 in
set_option maxHeartbeats 3200000 in
theorem counts_some (s : Nat) (w : World) (h0 : s ≠ 0) (hs : s < 18446744073709551616) (hv : ErrVars w) (hT : Tab64 w) (hg : 0 < w.heap.size) :
    Calls Tryd.prog 4 #[.int .u64 s] w fun e w' => e = .returned (.bool true) ∧ Below w.heap.size w w' := by
  have HL : Hid (∀ wx : World, Below w.heap.size w wx → Calls Tryd.prog 17 #[] wx fun e w' => e = .returned (.bool true) ∧ Below w.heap.size w w') := fun wx hb =>
    (lives_any wx (hv.below hb)).mono fun e w' h => ⟨h.1, hb.trans (h.2.mono hb.size)⟩
  have HF : Hid (∀ wx : World, Below w.heap.size w wx → Calls Tryd.prog 20 #[.int .u64 s] wx fun e w' => e = .returned (.tuple #[.int .i64 (Lib.ctz 64 s : Nat), .bool true]) ∧ wx = w') := fun wx hb =>
    first_some s wx h0 hs (hT.below hg hb)
  have HE : Hid (∀ wx : World, Below w.heap.size w wx → Calls Tryd.prog 22 #[.int .u64 s] wx fun e w' => EachPost s wx e w') := fun wx hb =>
    eachLaw_any s hs wx (hT.below hg hb) (Nat.lt_of_lt_of_le hg hb.size)
  have HR : Hid (∀ wx : World, Calls Tryd.prog 19 #[.int .u64 s] wx fun e w' => ElsPost s wx e w') := fun wx => refElements_any s wx hs
  have HC : Hid (∀ wx : World, Calls Tryd.prog 23 #[.int .u64 s] wx fun e w' => e = .returned (.int .i64 ((els s).length : Int)) ∧ wx = w') := fun wx => count_any s wx hs
  have hz : ((s : Int) != 0) = true := by simp; omega
  have hcons := els_cons h0 hs
  have hl64 : (els s).length ≤ 64 := elk_len s 64
  have hlen : 0 < (els s).length := by rw [hcons]; simp
  have h00 : Hid ((els s)[0]'hlen = (Lib.ctz 64 s : Nat)) := by unfold Hid; simp [hcons]
  clear hcons hv hT hs h0
  generalize Lib.ctz 64 s = c at *
  go_enter Tryd.func4, Tryd.ntmps4
  have hfn := fn_nil
  go_wp2_with (first
    | (go_at_call 18; refine (each_any s _).mono ?_; rintro e w' ⟨rfl, rfl⟩)
    | (go_at_call 19; refine (HR.out _).mono ?_; rintro e w1 ⟨g, cap, rfl, hc1, hg1, hg2, hb1⟩; have hW1 : Below w.heap.size w w1 := ((Below.refl _ _).alloc (Nat.le_refl _) _).trans (hb1.mono (by simp)); have HC1 := Lib.hid hc1; clear hc1 hb1 hfn)
    | (go_at_call 20; refine (HF.out _ hW1).mono ?_; rintro e w' ⟨rfl, rfl⟩)
    | (go_at_call 22; refine (HE.out _ hW1).mono ?_; rintro e w2 ⟨v, rfl, hrow, hb2⟩; obtain ⟨g', cap', rfl, hg', hg'2, hc2⟩ := owns_all hrow (ne_nil_of_row hrow hlen); have HC2 := Lib.hid hc2; have hW2 : Below w.heap.size w w2 := hW1.trans (hb2.mono hW1.size); have HC1' : Hid (∀ j (h : j < (els s).length), w2.cell? ⟨g, j, none⟩ = some (.int .i64 (els s)[j])) := (fun j h => (hb2.cell (p := ⟨g, j, none⟩) hg2).trans (HC1.out j h)); have hb2s := hb2.size; clear hc2 hrow hb2)
    | (go_at_call 21; refine (same_rows (els s) g' g cap' cap w2 (by omega) HC2.out HC1'.out).mono ?_; rintro e w3 ⟨rfl, hb3⟩; have hW3 : Below w.heap.size w w3 := hW2.trans (hb3.mono hW2.size); have hc0 : w3.cell? ⟨g, 0, none⟩ = some (.int .i64 (c : Int)) := by rw [hb3.cell (p := ⟨g, 0, none⟩) (Nat.lt_of_lt_of_le hg2 hb2s), HC1'.out 0 hlen, h00.out])
    | (go_at_call 23; refine (HC.out _).mono ?_; rintro e w' ⟨rfl, rfl⟩)
    | (go_at_call 17; refine (HL.out _ hW3).mono ?_; rintro e w' ⟨rfl, hb⟩))
  go_ret
  exact ⟨rfl, hb⟩

set_option maxRecDepth 100000 in
set_option maxHeartbeats 3200000 in
theorem counts_zero (w : World) (hv : ErrVars w) (hT : Tab64 w) (hg : 0 < w.heap.size) :
    Calls Tryd.prog 4 #[.int .u64 0] w fun e w' => e = .returned (.bool true) ∧ Below w.heap.size w w' := by
  have HL : Hid (∀ wx : World, Below w.heap.size w wx → Calls Tryd.prog 17 #[] wx fun e w' => e = .returned (.bool true) ∧ Below w.heap.size w w') := fun wx hb =>
    (lives_any wx (hv.below hb)).mono fun e w' h => ⟨h.1, hb.trans (h.2.mono hb.size)⟩
  have HE : Hid (∀ wx : World, Below w.heap.size w wx → Calls Tryd.prog 22 #[.int .u64 0] wx fun e w' => ∃ v, e = .returned v ∧ (v = .slice none 0 0 ∨ ∃ g c, v = .slice (some ⟨g, 0, none⟩) 0 c) ∧ Below wx.heap.size wx w') := fun wx hb =>
    (eachLaw_any 0 (by decide) wx (hT.below hg hb) (Nat.lt_of_lt_of_le hg hb.size)).mono fun e w' h => by
      obtain ⟨v, he, hr, hb⟩ := h
      refine ⟨v, he, ?_, hb⟩
      rw [els_zero] at hr
      rcases hr.2 with ⟨h0, _⟩ | ⟨g, c, _, h0, _⟩
      · exact .inl h0
      · exact .inr ⟨g, c, h0⟩
  have HR : Hid (∀ wx : World, Calls Tryd.prog 19 #[.int .u64 0] wx fun e w' => ∃ g cap, e = .returned (.slice (some ⟨g, 0, none⟩) 0 cap) ∧ Below wx.heap.size wx w') := fun wx =>
    (refElements_any 0 wx (by decide)).mono fun e w' h => by
      obtain ⟨g, cap, he, _, _, _, hb⟩ := h
      rw [els_zero] at he
      exact ⟨g, cap, he, hb⟩
  have HC : Hid (∀ wx : World, Calls Tryd.prog 23 #[.int .u64 0] wx fun e w' => e = .returned (.int .i64 0) ∧ wx = w') := fun wx => by
    have := count_any 0 wx (by decide); rw [els_zero] at this; exact this
  clear hv hT
  go_enter Tryd.func4, Tryd.ntmps4
  have hfn := fn_nil
  go_wp2_with (first
    | (go_at_call 18; refine (each_any 0 _).mono ?_; rintro e w' ⟨rfl, rfl⟩)
    | (go_at_call 19; refine (HR.out _).mono ?_; rintro e w1 ⟨g, cap, rfl, hb1⟩; have hW1 : Below w.heap.size w w1 := ((Below.refl _ _).alloc (Nat.le_refl _) _).trans (hb1.mono (by simp)); clear hb1 hfn)
    | (go_at_call 20; refine (first_zero _).mono ?_; rintro e w' ⟨rfl, rfl⟩)
    | (go_at_call 22; refine (HE.out _ hW1).mono ?_; rintro e w2 ⟨v, rfl, hvv, hb2⟩; have hW2 : Below w.heap.size w w2 := hW1.trans (hb2.mono hW1.size); have HV := Lib.hid hvv; clear hb2 hvv)
    | (go_at_call 21; refine (same_nil v w2 HV.out g cap).mono ?_; rintro e w3 ⟨rfl, hb3⟩; have hW3 : Below w.heap.size w w3 := hW2.trans (hb3.mono hW2.size); clear hb3)
    | (go_at_call 23; refine (HC.out _).mono ?_; rintro e w' ⟨rfl, rfl⟩)
    | (go_at_call 17; refine (HL.out _ hW3).mono ?_; rintro e w' ⟨rfl, hb⟩))
  go_ret
  exact ⟨rfl, hb⟩

theorem bitsetCounts_walk0 (a0 : Int) (w0 : (Lit.int .u64 a0).wf = true) (W : World) (hl : LaidFacts W) :
    Calls Tryd.prog 4 #[.int .u64 a0] W fun e w' => e = .returned (.bool true) ∧ Below W.heap.size W w' := by
  obtain ⟨n, rfl, hn⟩ := nat_of_u64 w0
  have hT := tab64_of hl
  have hg : 0 < W.heap.size := World.block_lt_of_cell? W _ (hT 0 (by decide))
  by_cases h0 : n = 0
  · subst h0; exact counts_zero W hl.errs hT hg
  · exact counts_some n W h0 hn hl.errs hT hg
end Go.Proofs.YtfmjekfgfkcleaaDoor
