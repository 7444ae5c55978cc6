/-
  WALKS of layer 10: the reference's Number and Addr.
-/
import Derived.Test.YtkhnhlahfedkhaaDoorHdRefOct
namespace Go.Proofs.YtkhnhlahfedkhaaDoor
open Go.RowKit Go.Hd Go.Wr Go.Ad

theorem ba_len (s : ByteArray) : s.data.toList.length = s.size := Array.length_toList

theorem step_num {x q y : Nat} (h : y = q + 256 * x) : (x : Int) * 256 + (q : Int) = (y : Int) := by omega
theorem step_small {x q : Nat} (h : x < 256 ^ 6) (hq : q < 256) : RowKit.wrap64 ((x : Int) * 256) = (x : Int) * 256 ∧ RowKit.wrap64 ((x : Int) * 256 + (q : Int)) = (x : Int) * 256 + (q : Int) ∧ RowKit.wrap64 (q : Int) = q :=
  ⟨IntWalk.wrap64_in _ (by omega), IntWalk.wrap64_in _ (by omega), IntWalk.wrap64_in _ (by omega)⟩

set_option maxRecDepth 100000 in
set_option maxHeartbeats 2000000 in
theorem refNumb_any (s : ByteArray) (w : World) (hs : s.size ≤ 7) :
    Calls Tryd.prog 80 #[.string s] w fun e w' => e = .returned (.int .i64 (val s.data.toList : Nat)) ∧ w = w' := by
  go_enter Tryd.func80, Tryd.ntmps80
  have e1 : RowKit.wrap64 ((s.size : Int) - 1) = (s.size : Int) - 1 := IntWalk.wrap64_in _ (by omega)
  go_wp2
  go_loopw [3, 4] (fun z i wr => ∃ m : Nat, m ≤ s.size ∧ i = .int .i64 ((m : Int) - 1) ∧ z = .int .i64 (val (s.data.toList.drop m) : Nat) ∧ w = wr) (fun z i _ => (intOf i + 1).toNat)
  case atStart => exact ⟨s.size, Nat.le_refl _, rfl, by rw [List.drop_of_length_le (Nat.le_of_eq (ba_len s))]; rfl, rfl⟩
  case round =>
    obtain ⟨m, hm, rfl, rfl, rfl⟩ := hrel
    match m, hm with
    | 0, _ =>
      go_wp2
      go_returns
      exact ⟨rfl, rfl⟩
    | m + 1, hm =>
      have hlt : m < s.size := hm
      clear hm e1
      have hlen := ba_len s
      have hv := val_drop s.data.toList m (by omega)
      have hb : val (s.data.toList.drop (m + 1)) < 256 ^ 6 := Nat.lt_of_lt_of_le (val_lt _) (pow_le (j := 6) (by rw [List.length_drop]; omega))
      have hg : (s[m]'(by omega)).toNat = (s.data.toList[m]'(by omega)).toNat := rfl
      have hq := (s.data.toList[m]'(by omega)).toNat_lt
      generalize val (s.data.toList.drop (m + 1)) = x at *
      obtain ⟨y, hy⟩ : ∃ y, val (s.data.toList.drop m) = y := ⟨_, rfl⟩
      rw [hy] at hv
      generalize (s.data.toList[m]'(by omega)).toNat = q at *
      have c1 : ((m + 1 : Nat) : Int) - 1 = (m : Int) := by omega
      rw [c1]
      obtain ⟨e2, e3, e0⟩ := step_small hb hq
      have e4 : RowKit.wrap64 ((m : Int) - 1) = (m : Int) - 1 := IntWalk.wrap64_in _ (by omega)
      have HY := Lib.hid hy
      have e3 := e3.trans (step_num hv)
      have HE := Lib.hid e3
      clear hy hv c1 hb hq e3
      go_wp2
      go_roundw
      case rel => exact ⟨m, by omega, rfl, by rw [HY.out, HE.out], trivial⟩
      case measure => simp [intOf]

set_option maxRecDepth 100000 in
set_option maxHeartbeats 2000000 in
theorem refAdr_any (s : ByteArray) (w : World) (hs : s.size ≤ 6) :
    Calls Tryd.prog 97 #[.string s] w fun e w' => e = .returned (.int .u64 (bev s.data.toList : Nat)) ∧ w = w' := by
  go_enter Tryd.func97, Tryd.ntmps97
  go_wp2
  go_loopw [3, 4] (fun z i wr => ∃ m : Nat, m ≤ s.size ∧ i = .int .i64 (m : Int) ∧ z = .int .u64 (bev (s.data.toList.take m) : Nat) ∧ w = wr) (fun z i _ => (s.size - intOf i).toNat)
  case atStart => exact ⟨0, Nat.zero_le _, rfl, rfl, rfl⟩
  case round =>
    obtain ⟨m, hm, rfl, rfl, rfl⟩ := hrel
    by_cases hlt : m < s.size
    · have hlen := ba_len s
      have hv := bev_take s.data.toList m (by omega)
      have hb : bev (s.data.toList.take m) < 256 ^ 5 := Nat.lt_of_lt_of_le (bev_lt _) (Nat.pow_le_pow_right (by decide) (by rw [List.length_take]; omega))
      have hg : (s[m]'(by omega)).toNat = (s.data.toList[m]'(by omega)).toNat := rfl
      have hq := (s.data.toList[m]'(by omega)).toNat_lt
      generalize bev (s.data.toList.take m) = x at *
      obtain ⟨y, hy⟩ : ∃ y, bev (s.data.toList.take (m + 1)) = y := ⟨_, rfl⟩
      rw [hy] at hv
      generalize (s.data.toList[m]'(by omega)).toNat = q at *
      have e0 : IntKind.u64.wrap (q : Int) = q := IntWalk.u64_in _ (by omega)
      have e2 : IntKind.u64.wrap ((x : Int) * 256) = (x : Int) * 256 := IntWalk.u64_in _ (by omega)
      have e3 : IntKind.u64.wrap ((x : Int) * 256 + (q : Int)) = (y : Int) := by rw [IntWalk.u64_in _ (by omega)]; omega
      have HY := Lib.hid hy
      clear hy hv hb
      go_wp2
      go_roundw
      case rel => exact ⟨m + 1, by omega, by go_num, by rw [HY.out], trivial⟩
      case measure => simp [intOf]; omega
    · obtain rfl : m = s.size := by omega
      have hw : s.data.toList.take s.size = s.data.toList := List.take_of_length_le (Nat.le_of_eq (ba_len s))
      rw [hw]
      go_wp2
      go_returns
      exact ⟨rfl, rfl⟩
end Go.Proofs.YtkhnhlahfedkhaaDoor
