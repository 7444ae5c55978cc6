/-
  WALKS of the reference of layer 5: Valid, Group, Node, Number, Of, digit.
-/
import Derived.Test.YtcpfkikifhcdmaaRows
import Derived.Test.YtcpfkikifhcdmaaAdMath
import Derived.WalkKit
import Derived.WalkSpells
import Derived.WalkLawsBesides
import Derived.Deep.QuietTactic
import Derived.BigQuiet
import Derived.Lib.Hide
import Derived.Handy
namespace Go.Proofs.Ytcpfkikifhcdmaa
open Go.RowKit Go.Wr Go.Ad

set_option maxRecDepth 100000 in
set_option maxHeartbeats 400000 in
theorem refValid5_any (a : Nat) (w : World) :
    Calls Try.prog 68 #[.int .u64 a] w fun e w' => e = .returned (.bool (vald a)) ∧ w = w' := by
  have hy := vald_yes (a := a)
  have hn := vald_no (a := a)
  have hz : (0 < a ∧ a < 281474976710656) ↔ ((0 : Int) < (a : Int) ∧ (a : Int) < 281474976710656) := by omega
  rw [hz] at hy hn
  generalize vald a = v at *
  clear hz
  generalize ((a : Nat) : Int) = z at *
  by_cases h1 : (0 : Int) < z
  · by_cases h2 : z < 281474976710656
    · obtain rfl := hy ⟨h1, h2⟩
      clear hy hn
      go_enter Try.func68, Try.ntmps68
      go_wp2
      go_returns
      exact ⟨rfl, rfl⟩
    · obtain rfl := hn (fun h => h2 h.2)
      clear hy hn
      go_enter Try.func68, Try.ntmps68
      go_wp2
      go_returns
      exact ⟨rfl, rfl⟩
  · obtain rfl := hn (fun h => h1 h.1)
    clear hy hn
    go_enter Try.func68, Try.ntmps68
    go_wp2
    go_returns
    exact ⟨rfl, rfl⟩

set_option maxHeartbeats 400000 in
theorem refGroup5_any (a : Nat) (w : World) (ha : a < 18446744073709551616) :
    Calls Try.prog 69 #[.int .u64 a] w fun e w' => e = .returned (.bool (grp a)) ∧ w = w' := by
  have C := Lib.hid (fun w => refValid5_any a w)
  unfold grp
  generalize vald a = v at *
  have hd : ((a : Int) / 1099511627776 % 2 == 1) = decide (a / 1099511627776 % 2 = 1) := by
    by_cases h : a / 1099511627776 % 2 = 1
    · rw [decide_eq_true h]; exact beq_iff_eq.mpr (by omega)
    · rw [decide_eq_false h]; exact beq_eq_false_iff_ne.mpr (by omega)
  cases v
  · rw [Bool.false_and]
    clear hd
    go_enter Try.func69, Try.ntmps69
    go_wp2_with (go_at_call 68; refine (C.out _).mono ?_; rintro e w' ⟨rfl, rfl⟩)
    go_returns
    exact ⟨rfl, rfl⟩
  · rw [Bool.true_and]
    generalize decide (a / 1099511627776 % 2 = 1) = d at *
    go_enter Try.func69, Try.ntmps69
    go_wp2_with (go_at_call 68; refine (C.out _).mono ?_; rintro e w' ⟨rfl, rfl⟩)
    go_returns
    exact ⟨rfl, rfl⟩

set_option maxHeartbeats 1000000 in
theorem refOf_any (s : ByteArray) (w : World) (hs : s.size ≤ 6) :
    Calls Try.prog 62 #[.string s] w fun e w' => e = .returned (.int .u64 ((bev s.data.toList : Nat) : Int)) ∧ w = w' := by
  have hl : s.data.toList.length = s.size := Array.length_toList
  have HL := Lib.hid hl
  clear hl
  go_enter Try.func62, Try.ntmps62
  go_wp2
  go_loop [3, 4] (fun x i => ∃ m : Nat, m ≤ s.size ∧ i = .int .i64 m ∧ x = .int .u64 ((bev (s.data.toList.take m) : Nat) : Int)) (fun _ i => s.size - (intOf i).toNat)
  case atStart => exact ⟨0, Nat.zero_le _, rfl, by rw [List.take_zero]; rfl⟩
  case round =>
    obtain ⟨m, hm, rfl, rfl⟩ := hrel
    by_cases hlt : m < s.size
    · have hT := bev_take s.data.toList m (by rw [HL.out]; exact hlt)
      have hb : bev (s.data.toList.take m) < 1099511627776 := by
        have := bev_lt (s.data.toList.take m)
        have hl : (s.data.toList.take m).length ≤ 5 := by rw [List.length_take]; omega
        exact Nat.lt_of_lt_of_le this (Nat.le_trans (Nat.pow_le_pow_right (by decide) hl) (by decide))
      have hx := (s[m]'hlt).toNat_lt
      have he : (s.data.toList[m]'(by rw [HL.out]; exact hlt)).toNat = (s[m]'hlt).toNat := by rw [Array.getElem_toList]; rfl
      rw [he] at hT
      have HTT := Lib.hid hT
      generalize bev (s.data.toList.take m) = y at hb HTT ⊢
      clear hT he
      go_wp2
      go_round
      case rel => exact ⟨m + 1, by omega, by go_num, by rw [HTT.out]; exact congrArg _ (by omega)⟩
      case measure => simp [intOf]; omega
    · obtain rfl : m = s.size := by omega
      have hl : s.data.toList.take s.size = s.data.toList := List.take_of_length_le (by rw [HL.out]; exact Nat.le_refl _)
      rw [hl]
      go_wp2
      go_returns
      exact ⟨rfl, rfl⟩

theorem dstr_get : ∀ i : Fin 16, ((⟨#[48, 49, 50, 51, 52, 53, 54, 55, 56, 57, 97, 98, 99, 100, 101, 102]⟩ : ByteArray)[i.val]'(i.isLt)).toNat = (hexd i.val).toNat := by decide +kernel

end Go.Proofs.Ytcpfkikifhcdmaa
