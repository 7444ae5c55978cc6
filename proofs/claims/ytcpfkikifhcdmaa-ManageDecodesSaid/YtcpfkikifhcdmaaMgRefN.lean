/-
  WALKS of the reference of layer 15: number, need.
-/
import Derived.Test.YtcpfkikifhcdmaaMgRt2
namespace Go.Mg
open Go.Wr Go.Ad
/-- The number in some octets of a string. -/
def nu (s : ByteArray) (i k : Nat) : Int := ((val ((s.data.toList.drop i).take k) : Nat) : Int)
/-- The octets of the fields of a kind. -/
def nd (c : Int) (n : Int) : Int := if c = 1 ∨ c = 6 then 4 else if c = 2 then n + 3 else if c = 3 then n + 9 else if c = 5 then 1 else if c = 7 then 3 else if c = 10 then 12 else if c = 11 then 13 else if c = 12 then 7 else 2
end Go.Mg
namespace Go.Proofs.Ytcpfkikifhcdmaa
open Go.RowKit Go.Mg Go.Wr Go.Ad

theorem ba_len15 (s : ByteArray) : s.data.toList.length = s.size := Array.length_toList
theorem step_small15 {x q : Nat} (h : x < 256 ^ 6) (hq : q < 256) : RowKit.wrap64 (256 * (x : Int)) = 256 * (x : Int) ∧ RowKit.wrap64 (256 * (x : Int) + (q : Int)) = 256 * (x : Int) + (q : Int) ∧ RowKit.wrap64 (q : Int) = q :=
  ⟨IntWalk.wrap64_in _ (by omega), IntWalk.wrap64_in _ (by omega), IntWalk.wrap64_in _ (by omega)⟩
theorem val_part (l : List UInt8) (i m k : Nat) (h : i + m < l.length) (hm : m < k) :
    val (((l.drop i).take k).drop m) = (l[i + m]'h).toNat + 256 * val (((l.drop i).take k).drop (m + 1)) := by
  have hl : m < ((l.drop i).take k).length := by rw [List.length_take, List.length_drop]; omega
  rw [val_drop _ m hl]
  congr 2
  simp [List.getElem_take, List.getElem_drop]

set_option maxRecDepth 100000 in
set_option maxHeartbeats 4000000 in
theorem refNumber15_any (s : ByteArray) (i k : Nat) (w : World) (hk : k ≤ 6) (h : i + k ≤ s.size) (hs : s.size ≤ 100000) :
    Calls Try.prog 61 #[.string s, .int .i64 (i : Int), .int .i64 (k : Int)] w fun e w' => e = .returned (.int .i64 (nu s i k)) ∧ w = w' := by
  have e1 : RowKit.wrap64 ((k : Int) - 1) = (k : Int) - 1 := IntWalk.wrap64_in _ (by omega)
  have HN : Hid (nu s i k = ((val (((s.data.toList.drop i).take k).drop 0) : Nat) : Int)) := by unfold Hid nu; rw [List.drop_zero]
  go_enter Try.func61, Try.ntmps61
  go_wp2
  go_loopw [7, 8] (fun z j wr => ∃ m : Nat, m ≤ k ∧ j = .int .i64 ((m : Int) - 1) ∧ z = .int .i64 (val (((s.data.toList.drop i).take k).drop m) : Nat) ∧ w = wr) (fun z j _ => (intOf j + 1).toNat)
  case atStart => exact ⟨k, Nat.le_refl _, rfl, by rw [List.drop_of_length_le (by rw [List.length_take]; omega)]; rfl, rfl⟩
  case round =>
    obtain ⟨m, hm, rfl, rfl, rfl⟩ := hrel
    match m, hm with
    | 0, _ =>
      go_wp2
      go_returns
      exact ⟨by rw [HN.out]; rfl, rfl⟩
    | m + 1, hm =>
      have hlen := ba_len15 s
      have hlt : i + m < s.size := by omega
      have hv := val_part s.data.toList i m k (by omega) (by omega)
      have hb : val (((s.data.toList.drop i).take k).drop (m + 1)) < 256 ^ 6 := Nat.lt_of_lt_of_le (val_lt _) (pow_le (j := 6) (by rw [List.length_drop, List.length_take]; omega))
      have hg : (s[i + m]'(by omega)).toNat = (s.data.toList[i + m]'(by omega)).toNat := rfl
      have hq := (s.data.toList[i + m]'(by omega)).toNat_lt
      generalize val (((s.data.toList.drop i).take k).drop (m + 1)) = x at *
      obtain ⟨y, hy⟩ : ∃ y, val (((s.data.toList.drop i).take k).drop m) = y := ⟨_, rfl⟩
      rw [hy] at hv
      generalize (s.data.toList[i + m]'(by omega)).toNat = q at *
      have c1 : ((m + 1 : Nat) : Int) - 1 = (m : Int) := by omega
      rw [c1]
      obtain ⟨e2, e3, e0⟩ := step_small15 hb hq
      have e4 : RowKit.wrap64 ((m : Int) - 1) = (m : Int) - 1 := IntWalk.wrap64_in _ (by omega)
      have e5 : RowKit.wrap64 ((i : Int) + (m : Int)) = ((i + m : Nat) : Int) := (IntWalk.wrap64_in _ (by omega)).trans (by omega)
      have HY := Lib.hid hy
      have e3 := e3.trans (show 256 * (x : Int) + (q : Int) = (y : Int) by omega)
      have HE := Lib.hid e3
      have HM : Hid (m ≤ k) := by unfold Hid; omega
      clear hy hv c1 hb hq e3 hm h hk hs hlen
      generalize i + m = t at *
      go_wp2
      go_roundw
      case rel => exact ⟨m, HM.out, by rw [e4], by rw [HY.out, HE.out], trivial⟩
      case measure => rw [e4]; simp only [intOf]; omega

set_option maxHeartbeats 2000000 in
theorem refNeed15_any (c n : Int) (w : World) (hc : isK c) (hn : 0 ≤ n ∧ n ≤ 255) :
    Calls Try.prog 32 #[.int .i64 c, .int .i64 n] w fun e w' => e = .returned (.int .i64 (nd c n)) ∧ w = w' := by
  have e3 : RowKit.wrap64 (n + 3) = n + 3 := IntWalk.wrap64_in _ (by omega)
  have e9 : RowKit.wrap64 (n + 9) = n + 9 := IntWalk.wrap64_in _ (by omega)
  rcases kinds hc with rfl | rfl | rfl | rfl | rfl | rfl | rfl | rfl | rfl | rfl | rfl | rfl
  all_goals
    clear hc hn
    go_enter Try.func32, Try.ntmps32
    go_wp2
    go_ret
    first
      | exact ⟨rfl, rfl⟩
      | exact ⟨(show Ending.returned (.int .i64 (RowKit.wrap64 (n + 3))) = Ending.returned (.int .i64 (n + 3)) from by rw [e3]), rfl⟩
      | exact ⟨(show Ending.returned (.int .i64 (RowKit.wrap64 (n + 9))) = Ending.returned (.int .i64 (n + 9)) from by rw [e9]), rfl⟩
end Go.Proofs.Ytcpfkikifhcdmaa
