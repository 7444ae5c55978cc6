/-
  THE WALK of the examples that every law of layer 1 ends with: they hold; what was there is as it was.
-/
import Derived.Test.YtfmjekfgfkcleaaDoorBsOf
import Derived.Test.YtfmjekfgfkcleaaDoorBsRange
import Derived.Test.YtfmjekfgfkcleaaDoorBsParse
namespace Go.Proofs.YtfmjekfgfkcleaaDoor
open Go.RowKit Go.Bs

theorem prs1 : prs [51, 44, 48] = none := by decide +kernel
theorem prs2 : prs [48, 44, 51] = some 9 := by decide +kernel
theorem ofl1 : ofl [3, 0, 64, 3] = 9 := by decide +kernel
theorem dwn1 : dwn 9 1 = 4 := by decide +kernel
theorem rng1 : rng (-5) 2 = 3 := by decide +kernel

set_option maxHeartbeats 1000000 in
theorem lives_any (w : World) (hv : ErrVars w) :
    Calls Tryd.prog 17 #[] w fun e w' => e = .returned (.bool true) ∧ Below w.heap.size w w' := by
  have hP1 : ∀ w, ErrVars w → Calls Tryd.prog 29 #[.string ⟨#[51, 44, 48]⟩] w fun e w' => e = .returned (.tuple #[.int .u64 0, .int .i64 3]) ∧ Below w.heap.size w w' := fun w hv =>
    (parse_any _ w (by decide) hv).mono fun e w' h => by
      obtain ⟨hb, ⟨_, he⟩ | ⟨v, h1, _⟩⟩ := h
      · exact ⟨he, hb⟩
      · rw [show prs (⟨#[51, 44, 48]⟩ : ByteArray).data.toList = none from prs1] at h1; cases h1
  have hP2 : ∀ w, ErrVars w → Calls Tryd.prog 29 #[.string ⟨#[48, 44, 51]⟩] w fun e w' => e = .returned (.tuple #[.int .u64 9, .int .i64 0]) ∧ Below w.heap.size w w' := fun w hv =>
    (parse_any _ w (by decide) hv).mono fun e w' h => by
      obtain ⟨hb, ⟨h1, _⟩ | ⟨v, h1, _, he⟩⟩ := h
      · rw [show prs (⟨#[48, 44, 51]⟩ : ByteArray).data.toList = some 9 from prs2] at h1; cases h1
      · rw [show prs (⟨#[48, 44, 51]⟩ : ByteArray).data.toList = some 9 from prs2] at h1; cases h1; exact ⟨he, hb⟩
  go_enter Tryd.func17, Tryd.ntmps17
  go_wp2_with fail
  refine (hP1 _ hv).mono ?_
  rintro e w1 ⟨rfl, hb1⟩
  have hv1 := hv.below hb1
  clear hP1
  go_wp2_with fail
  refine (hP2 _ hv1).mono ?_
  rintro e w2 ⟨rfl, hb2⟩
  clear hP2 hv1 hv
  go_wp2_with fail
  refine (of_any [3, 0, 64, 3] w2.heap.size 0 4 _ (by decide) ?hc).mono ?_
  case hc =>
    intro j hj
    match j, hj with
    | 0, _ => simp
    | 1, _ => simp
    | 2, _ => simp
    | 3, _ => simp
  rintro e w3 ⟨rfl, rfl⟩
  rw [ofl1]
  go_wp2_with (first | (go_at_call 24; refine (down_any 9 1 _ (by decide)).mono ?_; rintro e w' ⟨rfl, rfl⟩; rw [dwn1]) | (go_at_call 26; refine (range_any (-5) 2 _).mono ?_; rintro e w' ⟨rfl, rfl⟩; rw [rng1]))
  go_ret
  exact ⟨rfl, (hb1.trans (hb2.mono hb1.size)).alloc (Nat.le_trans hb1.size hb2.size) _⟩
end Go.Proofs.YtfmjekfgfkcleaaDoor
