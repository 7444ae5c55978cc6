/-
  WALKS of layer 10: the reference's functions of kinds.
-/
import Derived.Test.YtkhnhlahfedkhaaDoorRows
import Derived.Test.YtkhnhlahfedkhaaDoorHdMath
import Derived.WalkKit
import Derived.WalkSpells
import Derived.WalkLawsBesides
import Derived.Deep.QuietTactic
import Derived.BigQuiet
import Derived.Lib.Hide
import Derived.Handy
import Derived.Below
namespace Go.Proofs.YtkhnhlahfedkhaaDoor
open Go.RowKit Go.Hd

theorem refIs_any (k : Int) (w : World) :
    Calls Tryd.prog 57 #[.int .i64 k] w fun e w' => e = .returned (.bool (decide (isK k))) ∧ w = w' := by
  by_cases h0 : 1 ≤ k
  · by_cases h1 : k ≤ 19
    · rw [decide_eq_true (show isK k from ⟨h0, h1⟩)]
      go_enter Tryd.func57, Tryd.ntmps57
      go_wp2
      go_returns
      exact ⟨rfl, rfl⟩
    · rw [decide_eq_false (show ¬ isK k from fun h => h1 h.2)]
      go_enter Tryd.func57, Tryd.ntmps57
      go_wp2
      go_returns
      exact ⟨rfl, rfl⟩
  · rw [decide_eq_false (show ¬ isK k from fun h => h0 h.1)]
    go_enter Tryd.func57, Tryd.ntmps57
    go_wp2
    go_returns
    exact ⟨rfl, rfl⟩

theorem refManaged_any (k : Int) (w : World) :
    Calls Tryd.prog 91 #[.int .i64 k] w fun e w' => e = .returned (.bool (decide (mg k))) ∧ w = w' := by
  by_cases h0 : 1 ≤ k
  · by_cases h1 : k ≤ 11
    · rw [decide_eq_true (show mg k from ⟨h0, h1⟩)]
      go_enter Tryd.func91, Tryd.ntmps91
      go_wp2
      go_returns
      exact ⟨rfl, rfl⟩
    · rw [decide_eq_false (show ¬ mg k from fun h => h1 h.2)]
      go_enter Tryd.func91, Tryd.ntmps91
      go_wp2
      go_returns
      exact ⟨rfl, rfl⟩
  · rw [decide_eq_false (show ¬ mg k from fun h => h0 h.1)]
    go_enter Tryd.func91, Tryd.ntmps91
    go_wp2
    go_returns
    exact ⟨rfl, rfl⟩

theorem refPolicy_any (k : Int) (w : World) :
    Calls Tryd.prog 62 #[.int .i64 k] w fun e w' => e = .returned (.bool (decide (pl k))) ∧ w = w' := by
  by_cases h0 : k = 18
  · rw [decide_eq_true (show pl k from .inl h0)]
    subst h0
    go_enter Tryd.func62, Tryd.ntmps62
    go_wp2
    go_returns
    exact ⟨rfl, rfl⟩
  · by_cases h1 : k = 19
    · rw [decide_eq_true (show pl k from .inr h1)]
      subst h1
      go_enter Tryd.func62, Tryd.ntmps62
      go_wp2
      go_returns
      exact ⟨rfl, rfl⟩
    · rw [decide_eq_false (show ¬ pl k from fun h => h.elim h0 h1)]
      have b0 : (k == 18) = false := by simp [h0]
      have b1 : (k == 19) = false := by simp [h1]
      go_enter Tryd.func62, Tryd.ntmps62
      go_wp2
      go_returns
      exact ⟨rfl, rfl⟩

theorem refFrom_any (k : Int) (w : World) :
    Calls Tryd.prog 68 #[.int .i64 k] w fun e w' => e = .returned (.bool (decide (fro k))) ∧ w = w' := by
  by_cases h0 : k = 13
  · rw [decide_eq_false (show ¬ fro k from fun h => h.1 h0)]
    subst h0
    go_enter Tryd.func68, Tryd.ntmps68
    go_wp2
    go_returns
    exact ⟨rfl, rfl⟩
  · by_cases h1 : k = 14
    · rw [decide_eq_false (show ¬ fro k from fun h => h.2 h1)]
      subst h1
      go_enter Tryd.func68, Tryd.ntmps68
      go_wp2
      go_returns
      exact ⟨rfl, rfl⟩
    · rw [decide_eq_true (show fro k from ⟨h0, h1⟩)]
      have b0 : (k != 13) = true := by simp [h0]
      have b1 : (k != 14) = true := by simp [h1]
      go_enter Tryd.func68, Tryd.ntmps68
      go_wp2
      go_returns
      exact ⟨rfl, rfl⟩

theorem refNumbered_any (k : Int) (w : World) :
    Calls Tryd.prog 69 #[.int .i64 k] w fun e w' => e = .returned (.bool (decide (nb k))) ∧ w = w' := by
  have HM := Lib.hid (refManaged_any k)
  have HP := Lib.hid (refPolicy_any k)
  by_cases h0 : mg k
  · rw [decide_eq_true (show nb k from .inl h0)]
    rw [decide_eq_true h0] at HM
    go_enter Tryd.func69, Tryd.ntmps69
    go_wp2_with (go_at_call 91; refine (HM.out _).mono ?_; rintro e w' ⟨rfl, rfl⟩)
    go_returns
    exact ⟨rfl, rfl⟩
  · have hn : decide (nb k) = decide (pl k) := by
      by_cases h1 : pl k
      · rw [decide_eq_true h1, decide_eq_true (show nb k from .inr h1)]
      · rw [decide_eq_false h1, decide_eq_false (show ¬ nb k from fun h => h.elim h0 h1)]
    rw [hn]
    rw [decide_eq_false h0] at HM
    generalize decide (pl k) = b at *
    go_enter Tryd.func69, Tryd.ntmps69
    go_wp2_with (first
      | (go_at_call 91; refine (HM.out _).mono ?_; rintro e w' ⟨rfl, rfl⟩)
      | (go_at_call 62; refine (HP.out _).mono ?_; rintro e w' ⟨rfl, rfl⟩))
    go_returns
    exact ⟨rfl, rfl⟩

set_option maxRecDepth 100000 in
set_option maxHeartbeats 2000000 in
theorem refBody_any (k : Int) (w : World) :
    Calls Tryd.prog 59 #[.int .i64 k] w fun e w' => e = .returned (.bool (decide (bd k))) ∧ w = w' := by
  have HM := Lib.hid refManaged_any
  have HP := Lib.hid refPolicy_any
  have HI := Lib.hid refIs_any
  by_cases h : isK k
  · rcases kinds h with rfl | rfl | rfl | rfl | rfl | rfl | rfl | rfl | rfl | rfl | rfl | rfl | rfl | rfl | rfl | rfl | rfl | rfl | rfl <;>
    · go_enter Tryd.func59, Tryd.ntmps59
      go_wp2_with (first
      | (go_at_call 91; refine (HM.out _ _).mono ?_; rintro e w' ⟨rfl, rfl⟩))
      go_returns
      exact ⟨rfl, rfl⟩
  · have e1 : decide (mg k) = false := decide_eq_false (by unfold isK at h; unfold mg; omega)
    have e2 : decide (pl k) = false := decide_eq_false (by unfold isK at h; unfold pl; omega)
    have e3 : decide (isK k) = false := decide_eq_false h
    have n1 : ∀ c : Int, 1 ≤ c → c ≤ 19 → ¬ k = c := fun c h1 h2 hc => h ⟨by omega, by omega⟩
    have m15 := n1 15 (by decide) (by decide)
    have m16 := n1 16 (by decide) (by decide)
    have m18 := n1 18 (by decide) (by decide)
    clear n1 h
    rw [decide_eq_false (show ¬ bd k from fun h => by rcases h with h | h | h | h; exact of_decide_eq_false e1 h; exact m15 h; exact m16 h; exact m18 h)]
    have b15 : (k == 15) = false := by simp [m15]
    have b16 : (k == 16) = false := by simp [m16]
    have b18 : (k == 18) = false := by simp [m18]
    go_enter Tryd.func59, Tryd.ntmps59
    go_wp2_with (first
      | (go_at_call 91; refine (HM.out _ _).mono ?_; rintro e w' ⟨rfl, rfl⟩))
    go_returns
    exact ⟨rfl, rfl⟩

set_option maxRecDepth 100000 in
set_option maxHeartbeats 2000000 in
theorem refFlags_any (k : Int) (w : World) :
    Calls Tryd.prog 79 #[.int .i64 k] w fun e w' => e = .returned (.int .i64 (flg k)) ∧ w = w' := by
  have HM := Lib.hid refManaged_any
  have HP := Lib.hid refPolicy_any
  have HI := Lib.hid refIs_any
  by_cases h : isK k
  · rcases kinds h with rfl | rfl | rfl | rfl | rfl | rfl | rfl | rfl | rfl | rfl | rfl | rfl | rfl | rfl | rfl | rfl | rfl | rfl | rfl <;>
    · go_enter Tryd.func79, Tryd.ntmps79
      go_wp2_with (first
      | (go_at_call 91; refine (HM.out _ _).mono ?_; rintro e w' ⟨rfl, rfl⟩))
      go_returns
      exact ⟨rfl, rfl⟩
  · have e1 : decide (mg k) = false := decide_eq_false (by unfold isK at h; unfold mg; omega)
    have e2 : decide (pl k) = false := decide_eq_false (by unfold isK at h; unfold pl; omega)
    have e3 : decide (isK k) = false := decide_eq_false h
    have n1 : ∀ c : Int, 1 ≤ c → c ≤ 19 → ¬ k = c := fun c h1 h2 hc => h ⟨by omega, by omega⟩
    have m18 := n1 18 (by decide) (by decide)
    have m19 := n1 19 (by decide) (by decide)
    clear n1 h
    rw [show flg k = 0 from by unfold flg; rw [if_neg (of_decide_eq_false e1), if_neg m18, if_neg m19]]
    go_enter Tryd.func79, Tryd.ntmps79
    go_wp2_with (first
      | (go_at_call 91; refine (HM.out _ _).mono ?_; rintro e w' ⟨rfl, rfl⟩))
    go_returns
    exact ⟨rfl, rfl⟩

/-- The names lie behind the address. -/
def Nms (W : World) (g : Nat) : Prop := g < W.heap.size ∧ ∀ i (h : i < nms.length), W.cell? ⟨g, i, none⟩ = some (.string nms[i])
theorem Nms.below {W W' : World} {g : Nat} (h : Nms W g) (hb : Below W.heap.size W W') : Nms W' g := ⟨Nat.lt_of_lt_of_le h.1 hb.size, fun i hi => (hb.cell (p := ⟨g, i, none⟩) h.1).trans (h.2 i hi)⟩
theorem nms_new (w : World) (T : TypeId) : Nms (w.alloc (.cells #[.string ⟨#[98, 101, 97, 99, 111, 110]⟩, .string ⟨#[112, 114, 111, 98, 101, 45, 114, 101, 113, 117, 101, 115, 116]⟩, .string ⟨#[112, 114, 111, 98, 101, 45, 114, 101, 115, 112, 111, 110, 115, 101]⟩, .string ⟨#[97, 117, 116, 104]⟩, .string ⟨#[97, 115, 115, 111, 99, 45, 114, 101, 113, 117, 101, 115, 116]⟩, .string ⟨#[97, 115, 115, 111, 99, 45, 114, 101, 115, 112, 111, 110, 115, 101]⟩, .string ⟨#[114, 101, 97, 115, 115, 111, 99, 45, 114, 101, 113, 117, 101, 115, 116]⟩, .string ⟨#[114, 101, 97, 115, 115, 111, 99, 45, 114, 101, 115, 112, 111, 110, 115, 101]⟩, .string ⟨#[100, 105, 115, 97, 115, 115, 111, 99]⟩, .string ⟨#[100, 101, 97, 117, 116, 104]⟩, .string ⟨#[97, 99, 116, 105, 111, 110]⟩, .string ⟨#[114, 116, 115]⟩, .string ⟨#[99, 116, 115]⟩, .string ⟨#[97, 99, 107]⟩, .string ⟨#[98, 108, 111, 99, 107, 45, 114, 101, 113, 117, 101, 115, 116]⟩, .string ⟨#[98, 108, 111, 99, 107, 45, 97, 99, 107]⟩, .string ⟨#[112, 111, 108, 108]⟩, .string ⟨#[100, 97, 116, 97]⟩, .string ⟨#[110, 117, 108, 108]⟩] T)) w.heap.size := by
  refine ⟨by simp, fun i hi => ?_⟩
  have hb : (w.alloc (.cells #[.string ⟨#[98, 101, 97, 99, 111, 110]⟩, .string ⟨#[112, 114, 111, 98, 101, 45, 114, 101, 113, 117, 101, 115, 116]⟩, .string ⟨#[112, 114, 111, 98, 101, 45, 114, 101, 115, 112, 111, 110, 115, 101]⟩, .string ⟨#[97, 117, 116, 104]⟩, .string ⟨#[97, 115, 115, 111, 99, 45, 114, 101, 113, 117, 101, 115, 116]⟩, .string ⟨#[97, 115, 115, 111, 99, 45, 114, 101, 115, 112, 111, 110, 115, 101]⟩, .string ⟨#[114, 101, 97, 115, 115, 111, 99, 45, 114, 101, 113, 117, 101, 115, 116]⟩, .string ⟨#[114, 101, 97, 115, 115, 111, 99, 45, 114, 101, 115, 112, 111, 110, 115, 101]⟩, .string ⟨#[100, 105, 115, 97, 115, 115, 111, 99]⟩, .string ⟨#[100, 101, 97, 117, 116, 104]⟩, .string ⟨#[97, 99, 116, 105, 111, 110]⟩, .string ⟨#[114, 116, 115]⟩, .string ⟨#[99, 116, 115]⟩, .string ⟨#[97, 99, 107]⟩, .string ⟨#[98, 108, 111, 99, 107, 45, 114, 101, 113, 117, 101, 115, 116]⟩, .string ⟨#[98, 108, 111, 99, 107, 45, 97, 99, 107]⟩, .string ⟨#[112, 111, 108, 108]⟩, .string ⟨#[100, 97, 116, 97]⟩, .string ⟨#[110, 117, 108, 108]⟩] T)).heap[w.heap.size]? = some (.cells #[.string ⟨#[98, 101, 97, 99, 111, 110]⟩, .string ⟨#[112, 114, 111, 98, 101, 45, 114, 101, 113, 117, 101, 115, 116]⟩, .string ⟨#[112, 114, 111, 98, 101, 45, 114, 101, 115, 112, 111, 110, 115, 101]⟩, .string ⟨#[97, 117, 116, 104]⟩, .string ⟨#[97, 115, 115, 111, 99, 45, 114, 101, 113, 117, 101, 115, 116]⟩, .string ⟨#[97, 115, 115, 111, 99, 45, 114, 101, 115, 112, 111, 110, 115, 101]⟩, .string ⟨#[114, 101, 97, 115, 115, 111, 99, 45, 114, 101, 113, 117, 101, 115, 116]⟩, .string ⟨#[114, 101, 97, 115, 115, 111, 99, 45, 114, 101, 115, 112, 111, 110, 115, 101]⟩, .string ⟨#[100, 105, 115, 97, 115, 115, 111, 99]⟩, .string ⟨#[100, 101, 97, 117, 116, 104]⟩, .string ⟨#[97, 99, 116, 105, 111, 110]⟩, .string ⟨#[114, 116, 115]⟩, .string ⟨#[99, 116, 115]⟩, .string ⟨#[97, 99, 107]⟩, .string ⟨#[98, 108, 111, 99, 107, 45, 114, 101, 113, 117, 101, 115, 116]⟩, .string ⟨#[98, 108, 111, 99, 107, 45, 97, 99, 107]⟩, .string ⟨#[112, 111, 108, 108]⟩, .string ⟨#[100, 97, 116, 97]⟩, .string ⟨#[110, 117, 108, 108]⟩] T (0, 0)) := by show (w.heap.push _)[w.heap.size]? = _; rw [Array.getElem?_push, if_pos rfl]
  rw [World.cell?, hb]
  rw [nms_len] at hi
  match i, hi with
  | 0, _ => rfl
  | 1, _ => rfl
  | 2, _ => rfl
  | 3, _ => rfl
  | 4, _ => rfl
  | 5, _ => rfl
  | 6, _ => rfl
  | 7, _ => rfl
  | 8, _ => rfl
  | 9, _ => rfl
  | 10, _ => rfl
  | 11, _ => rfl
  | 12, _ => rfl
  | 13, _ => rfl
  | 14, _ => rfl
  | 15, _ => rfl
  | 16, _ => rfl
  | 17, _ => rfl
  | 18, _ => rfl
  | _ + 19, h => exact absurd h (by omega)

set_option maxRecDepth 100000 in
set_option maxHeartbeats 2000000 in
theorem refNames_any (w : World) :
    Calls Tryd.prog 74 #[] w fun e w' => e = .returned (.slice (some ⟨w.heap.size, 0, none⟩) 19 19) ∧ Nms w' w.heap.size ∧ Below w.heap.size w w' := by
  have HN := Lib.hid (nms_new w 9)
  go_enter Tryd.func74, Tryd.ntmps74
  go_wp2
  go_returns
  exact ⟨rfl, HN.out, (Below.refl _ _).alloc (Nat.le_refl _) _⟩

set_option maxRecDepth 100000 in
set_option maxHeartbeats 2000000 in
theorem refName_any (k : Int) (w : World) :
    Calls Tryd.prog 33 #[.int .i64 k] w fun e w' => e = .returned (.string (nm k)) ∧ Below w.heap.size w w' := by
  have HI := Lib.hid (refIs_any k)
  have HN := Lib.hid (refNames_any w)
  by_cases h : isK k
  · rw [decide_eq_true h] at HI
    obtain ⟨i, hi, rfl⟩ : ∃ i : Nat, i < nms.length ∧ k = (i : Int) + 1 := ⟨(k - 1).toNat, by unfold isK at h; rw [nms_len]; omega, by unfold isK at h; omega⟩
    have hn : nm ((i : Int) + 1) = nms[i] := by
      unfold nm
      rw [if_pos h, show ((i : Int) + 1 - 1).toNat = i by omega, List.getD_eq_getElem?_getD, List.getElem?_eq_getElem hi]; rfl
    have hi' : i < 19 := by rw [nms_len] at hi; exact hi
    have hc : Hid (∀ W g, Nms W g → W.cell? ⟨g, i, none⟩ = some (.string nms[i])) := fun W g h => h.2 i hi
    rw [hn]
    generalize nms[i] = s at *
    clear hn h hi
    go_enter Tryd.func33, Tryd.ntmps33
    go_wp2_with (first
      | (go_at_call 57; refine (HI.out _).mono ?_; rintro e w' ⟨rfl, rfl⟩)
      | (go_at_call 74; refine HN.out.mono ?_; rintro e w1 ⟨rfl, hs, hb⟩; have c0 := hc.out _ _ hs; have HB := Lib.hid hb; clear hs hb))
    go_returns
    exact ⟨rfl, HB.out⟩
  · rw [decide_eq_false h] at HI
    rw [nm_no h]
    clear h
    go_enter Tryd.func33, Tryd.ntmps33
    go_wp2_with (go_at_call 57; refine (HI.out _).mono ?_; rintro e w' ⟨rfl, rfl⟩)
    go_returns
    exact ⟨rfl, Below.refl _ _⟩

end Go.Proofs.YtkhnhlahfedkhaaDoor
