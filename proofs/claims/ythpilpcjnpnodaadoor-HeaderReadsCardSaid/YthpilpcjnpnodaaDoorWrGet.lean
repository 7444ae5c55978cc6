/-
  WALKS of Reader.Num: the number that the next octets denote.
-/
import Derived.Test.YthpilpcjnpnodaaDoorWrReader
namespace Go.Proofs.YthpilpcjnpnodaaDoor
open Go.RowKit Go.Wr

set_option maxHeartbeats 400000 in
theorem num_nil (k : Int) (w : World) : Calls Tryd.prog 75 #[.pointer none, .int .i64 k] w fun e w' => e = .returned (.int .i64 0) ∧ w = w' := by
  go_enter Tryd.func75, Tryd.ntmps75
  go_wp2
  go_returns
  exact ⟨rfl, rfl⟩

set_option maxHeartbeats 400000 in
theorem num_bad (b : Nat) (e0 : Int) (k : Int) (w : World) (h0 : w.cell? ⟨b, 0, none⟩ = some (.int .i64 e0)) (he : (e0 == 0) = false) :
    Calls Tryd.prog 75 #[.pointer (some ⟨b, 0, none⟩), .int .i64 k] w fun e w' => e = .returned (.int .i64 0) ∧ w = w' := by
  go_enter Tryd.func75, Tryd.ntmps75
  go_wp2_with (go_at_call 50; refine (sound_any _ _ _ h0).mono ?_; rintro e w' ⟨rfl, rfl⟩)
  go_returns
  exact ⟨rfl, rfl⟩

set_option maxHeartbeats 400000 in
theorem num_range (b : Nat) (s : ByteArray) (k : Int) (w : World) (h : Rd w b 0 s) (hk : ¬ (1 ≤ k ∧ k ≤ 6)) :
    Calls Tryd.prog 75 #[.pointer (some ⟨b, 0, none⟩), .int .i64 k] w fun e w' => e = .returned (.int .i64 0) ∧ w.setCell ⟨b, 0, none⟩ (.int .i64 4) = w' := by
  have h0 := h.c0
  have hf := h.f 0
  have Hk := Lib.hid hk
  clear h hk
  go_enter Tryd.func75, Tryd.ntmps75
  go_wp2_with (first | (go_at_call 50; refine (sound_any _ _ _ h0).mono ?_; rintro e w' ⟨rfl, rfl⟩) | (go_at_call 71; refine (allows_no _ _ _ Hk.out h0 hf).mono ?_; rintro e w' ⟨rfl, rfl⟩))
  go_returns
  exact ⟨rfl, rfl⟩

set_option maxHeartbeats 400000 in
theorem num_short (b : Nat) (s : ByteArray) (k : Int) (w : World) (h : Rd w b 0 s) (hk : 1 ≤ k ∧ k ≤ 6) (hs : (s.size : Int) < k) :
    Calls Tryd.prog 75 #[.pointer (some ⟨b, 0, none⟩), .int .i64 k] w fun e w' => e = .returned (.int .i64 0) ∧ w.setCell ⟨b, 0, none⟩ (.int .i64 1) = w' := by
  have h0 := h.c0
  have H := Lib.hid h
  have Hk := Lib.hid hk
  have Hs := Lib.hid hs
  clear h hk hs
  go_enter Tryd.func75, Tryd.ntmps75
  go_wp2_with (first | (go_at_call 50; refine (sound_any _ _ _ h0).mono ?_; rintro e w' ⟨rfl, rfl⟩) | (go_at_call 71; refine (allows_yes _ _ _ Hk.out.1 Hk.out.2).mono ?_; rintro e w' ⟨rfl, rfl⟩) | (go_at_call 78; refine (next_short _ _ _ _ H.out Hs.out).mono ?_; rintro e w' ⟨rfl, rfl⟩))
  refine wp_loop_rounds 1 ?_
  rw [rounds_succ]
  go_wp2
  go_returns
  exact ⟨rfl, rfl⟩

set_option maxHeartbeats 1000000 in
theorem num_ok (b : Nat) (s : ByteArray) (k : Nat) (w : World) (h : Rd w b 0 s) (hk1 : 1 ≤ k) (hk6 : k ≤ 6) (hk : k ≤ s.size) :
    Calls Tryd.prog 75 #[.pointer (some ⟨b, 0, none⟩), .int .i64 k] w fun e w' => e = .returned (.int .i64 (val (s.extract 0 k).data.toList)) ∧ w.setCell ⟨b, 1, none⟩ (.string (s.extract k s.size)) = w' := by
  have h0 := h.c0
  have H := Lib.hid h
  have Hk := Lib.hid hk
  have hz : (s.extract 0 k).size = k := by simp; omega
  obtain ⟨l, hl⟩ : ∃ l, l = s.extract 0 k := ⟨_, rfl⟩
  have Hl := Lib.hid hl
  rw [← hl] at hz ⊢
  clear h hk hl
  go_enter Tryd.func75, Tryd.ntmps75
  go_wp2_with (first | (go_at_call 50; refine (sound_any _ _ _ h0).mono ?_; rintro e w' ⟨rfl, rfl⟩) | (go_at_call 71; refine (allows_yes _ _ _ (by omega) (by omega)).mono ?_; rintro e w' ⟨rfl, rfl⟩) | (go_at_call 78; refine (next_ok _ _ _ _ H.out Hk.out).mono ?_; rw [← Hl.out]; rintro e w' ⟨rfl, rfl⟩))
  go_loop [6, 30] (fun x i => ∃ m : Nat, m ≤ k ∧ i = .int .i64 m ∧ x = .int .i64 (val (l.data.toList.take m) : Int)) (fun _ i => k - (intOf i).toNat)
  case atStart => exact ⟨0, Nat.zero_le _, rfl, rfl⟩
  case round =>
    obtain ⟨m, hm, rfl, rfl⟩ := hrel
    by_cases hlt : m < k
    · go_wp2
      go_round
      case rel => exact ⟨m + 1, by omega, by go_num, by rw [or_step l m (by omega) (by omega)]⟩
      case measure => simp [intOf]; omega
    · obtain rfl : m = k := by omega
      go_wp2
      go_returns
      exact ⟨congrArg (fun x : List UInt8 => Ending.returned (.int .i64 (val x : Int))) (List.take_of_length_le (by rw [Array.length_toList]; exact Nat.le_of_eq hz)), rfl⟩
end Go.Proofs.YthpilpcjnpnodaaDoor
