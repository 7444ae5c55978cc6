/-
  THE WALK of the law SequenceMembers.
-/
import Derived.Test.YtjpmjffamecddaaSqLaws2
namespace Go.Proofs.Ytjpmjffamecddaa
open Go.RowKit Go.Shelf Go.Sq

theorem nat_of_u8 {a : Int} (h : (Lit.int .u8 a).wf = true) : ∃ n : Nat, a = n ∧ n < 256 := by
  simp [Lit.wf, IntKind.min, IntKind.max, IntKind.signed, IntKind.bits] at h
  exact ⟨a.toNat, by omega, by omega⟩

/-- Whether n is among the first k numbers. -/
def fnd (l : List Int) (n : Int) (k : Nat) : Bool := decide (n ∈ l.take k)
theorem fnd_succ {l : List Int} {n : Int} {k : Nat} (h : k < l.length) : fnd l n (k + 1) = (fnd l n k || (l.getD k 0 == n)) := by
  unfold fnd
  have e : l.getD k 0 = l[k] := by simp [List.getD, h]
  rw [List.take_succ_eq_append_getElem h, e]
  by_cases h1 : n ∈ l.take k
  · rw [decide_eq_true h1, decide_eq_true (List.mem_append_left _ h1)]; rfl
  · by_cases h2 : l[k] = n
    · rw [decide_eq_true (List.mem_append_right _ (by rw [h2]; exact List.mem_singleton.2 rfl)), beq_iff_eq.mpr h2]; simp
    · have h3 : ¬ n ∈ l.take k ++ [l[k]] := fun hm => by
        rcases List.mem_append.1 hm with hm | hm
        · exact h1 hm
        · exact h2 (List.mem_singleton.1 hm).symm
      rw [decide_eq_false h3, decide_eq_false h1, beq_eq_false_iff_ne.mpr h2]; rfl

set_option maxRecDepth 100000 in
set_option maxHeartbeats 2000000 in
theorem sequenceMembers_walk1 (D : Does) (a0 : Int) (ha : (Lit.int .u16 a0).wf = true) (s0 : Int) (hs : (Lit.int .u8 s0).wf = true) (n : Int) (hn : (Lit.int .i64 n).wf = true) (W : World) :
    Calls Try.prog 7 #[.int .u16 a0, .int .u8 s0, .int .i64 n] W fun e w' => e = .returned (.bool true) ∧ Below W.heap.size W w' := by
  obtain ⟨a, rfl, hal⟩ := nat_of_u16 ha
  obtain ⟨m, rfl, hml⟩ := nat_of_u8 hs
  have LV := Lib.hid (awake_any D)
  have wa : (Lit.int .i64 (a : Int)).wf = true := wf_i64 (by omega)
  have wm : (Lit.int .i64 (m : Int)).wf = true := wf_i64 (by omega)
  have hwa : Go.RowKit.wrap64 (a : Int) = a := IntWalk.wrap64_in _ (by omega)
  have hwm : Go.RowKit.wrap64 (m : Int) = m := IntWalk.wrap64_in _ (by omega)
  have hcm : cnt (m : Int) = m := by unfold cnt; omega
  have hwl : (win a m).length = m := by rw [win_len, hcm]
  have e300 : (win a m).take 300 = win a m := List.take_of_length_le (by omega)
  have C1 : Hid (∀ w, Calls Try.prog 17 #[.int .i64 a, .int .i64 m, .int .i64 300] w fun e w' => ∃ v cap, e = .returned (.tuple #[.slice v m cap, .bool true]) ∧ SlV w' (.slice v m cap) (win a m) ∧ Below w.heap.size w w') := fun w =>
    (collect_any D a m 300 (by decide) wa wm w).mono fun e w' h => by
      obtain ⟨v, cap, h1, h2, h3⟩ := h
      rw [e300, hwl] at h1 h2
      exact ⟨v, cap, h1, h2, h3⟩
  have hin : inn a m n = fnd (win a m) n m := by
    unfold fnd
    rw [List.take_of_length_le (by omega)]
    have := inn_wink a n m (by omega)
    rw [this]
    unfold win
    rw [hcm]
  have c1 : Hid (∀ w, Calls Try.prog 18 #[.int .i64 a, .int .i64 m, .int .i64 n] w fun e w' => e = .returned (.bool (fnd (win a m) n m)) ∧ w = w') := fun w => by
    have h := D.in_any a m n w wa wm hn
    rw [hin] at h; exact h
  have HL := Lib.hid hwl
  have HF : Hid (∀ k, k < m → fnd (win a m) n (k + 1) = (fnd (win a m) n k || ((win a m).getD k 0 == n))) := fun k hk => fnd_succ (by omega)
  have HF0 : Hid (fnd (win a m) n 0 = false) := by show fnd _ n 0 = false; unfold fnd; rw [List.take_zero]; simp
  generalize win (a : Int) (m : Int) = l at *
  clear ha hs wa wm hin hwl e300 hcm hn
  go_enter Try.func7, Try.ntmps7
  go_wp2_with fail
  refine (C1.out _).mono ?_
  rintro e w1 ⟨v0, cap, rfl, hsl, hb1⟩
  have HB := Lib.hid hb1
  have HSL : Hid (∀ k, k < m → ∃ g, v0 = some ⟨g, 0, none⟩ ∧ w1.cell? ⟨g, k, none⟩ = some (.int .i64 (l.getD k 0))) := fun k hk => by
    rcases hsl with ⟨h1, h2⟩ | ⟨g, cap', h1, h2⟩
    · have := HL.out; rw [h2] at this; simp at this; omega
    · injection h1 with e1 e2 e3
      exact ⟨g, e1, h2 k (by rw [HL.out]; exact hk)⟩
  clear hsl hb1 C1
  go_wp2
  go_loop [9, 10] (fun f i => ∃ k : Nat, k ≤ m ∧ i = .int .i64 k ∧ f = .bool (fnd l n k)) (fun _ i => m - (intOf i).toNat)
  case atStart => exact ⟨0, Nat.zero_le _, rfl, by rw [HF0.out]⟩
  case round =>
    obtain ⟨k, hk, rfl, rfl⟩ := hrel
    by_cases hlt : k < m
    · obtain ⟨g, rfl, hc⟩ := HSL.out k hlt
      have HFK := Lib.hid (HF.out k hlt)
      have hlt' := Lib.hid hlt
      have i0 : (0 : Int) ≤ (k : Int) := by omega
      have i1 : (k : Int) < (m : Int) := by omega
      generalize l.getD k 0 = z at hc HFK
      generalize fnd l n k = f at *
      cases f
      all_goals
        go_wp2
        go_round
        case rel => exact ⟨k + 1, hlt'.out, by go_num, by rw [HFK.out]; rfl⟩
        case measure => have := hlt'.out; simp [intOf]; omega
    · obtain rfl : k = m := by omega
      generalize fnd l n k = f at *
      clear HSL HF HF0
      cases f
      all_goals
        go_wp2_with (first
          | (go_at_call 18; refine (c1.out _).mono ?_; rintro e w' ⟨rfl, rfl⟩)
          | (go_at_call 16; refine (LV.out _).mono ?_; rintro e w3 ⟨rfl, hb3⟩))
        go_returns
        exact ⟨rfl, HB.out.trans (hb3.mono HB.out.size)⟩
end Go.Proofs.Ytjpmjffamecddaa
