/-
  WALKS of the reference of layer 5: Octets, Text, Parse.
-/
import Derived.Test.YtcpfkikifhcdmaaAdRef
import Derived.Test.YtcpfkikifhcdmaaWrRefW
import Derived.Deep.RegionWith
import Derived.Below
namespace Go.Proofs.Ytcpfkikifhcdmaa
open Go.RowKit Go.Wr Go.Ad

theorem be_take (a k : Nat) (h : k < 6) : (be a).take (k + 1) = (be a).take k ++ [UInt8.ofNat (a / 2 ^ (8 * (5 - k)) % 256)] := by
  have hl : k < (be a).length := by rw [be_len]; exact h
  rw [List.take_succ_eq_append_getElem hl, ← be_get a k h]
  simp [List.getD, hl]

set_option maxRecDepth 100000 in
set_option maxHeartbeats 1000000 in
theorem refOctets5_any (a : Nat) (w : World) (ha : a < 18446744073709551616) :
    Calls Try.prog 67 #[.int .u64 a] w fun e w' => e = .returned (.string ⟨(be a).toArray⟩) ∧ Below w.heap.size w w' := by
  have HI := Lib.hid (info_parts infoByte')
  have HL := Lib.hid (be_len a)
  go_enter Try.func67, Try.ntmps67
  go_wp2
  go_loopw [3, 4] (fun v i wr => ∃ (k : Nat) (z : Int), k ≤ 6 ∧ z = 5 - (k : Int) ∧ i = .int .i64 z ∧ wr.ownsRow w.heap.size 5 1 v ((be a).take k).length (bv ((be a).take k)) ∧ Below w.heap.size w wr)
    (fun _ i _ => (intOf i + 1).toNat)
  case atStart => exact ⟨0, 5, by omega, by omega, rfl, World.ownsRow_nil _ _ _ _, Below.refl _ _⟩
  case round =>
    obtain ⟨k, z, hk, hz, rfl, hown, hb⟩ := hrel
    have htl : ((be a).take k).length = k := by rw [List.length_take, HL.out]; omega
    by_cases hlt : k < 6
    · have HT := Lib.hid (be_take a k hlt)
      have hz0 : (0 : Int) ≤ 5 - (k : Int) := by omega
      obtain ⟨q, hqe⟩ : ∃ q, q = a / 2 ^ (8 * (5 - k)) % 256 := ⟨_, rfl⟩
      have hql : q < 256 := by rw [hqe]; exact Nat.mod_lt _ (by decide)
      have hq : ((a : Int) / 2 ^ (8 * (5 - k))).tmod 256 % 256 = (q : Int) := by
        rw [Int.tmod_eq_emod_of_nonneg (Int.ediv_nonneg (by omega) (Int.le_of_lt (Int.pow_pos (by decide)))), Int.emod_emod_of_dvd _ (Int.dvd_refl 256), hqe]
        push_cast; rfl
      rw [← hqe] at HT
      clear hqe
      go_wp2_with (at_builtin; obtain ⟨i0, hi, hz0, hz1, hz2⟩ := HI.out; refine wpList_append_own _ rfl _ _ 66 rfl w.heap.size 5 i0 (.int .u8 0) 1 1 Try.underlying66 hi hz0 hz1 hz2 rfl (by decide) _ _ _ rfl (hown.alloc _) ⟨wr.heap.size, 0, none⟩ 1 1 [.int .u8 (q : Int)] rfl rfl ?c1 ?c2 ?c3 ?c4 ?c5 ?_)
      case c1 =>
        intro j u hj
        match j, hj with
        | 0, hj => simp at hj; subst hj; simp [Addr.add]
      case c2 => intro u hu; simp at hu; subst hu; rfl
      case c3 => rw [htl]; unfold maxLen; omega
      case c4 => rw [htl]; omega
      case c5 => have := hb.size; simp; omega
      intro v' w1 hown' hgrow hn'
      clear hi hz0 hz1 hz2
      have R : w1.ownsRow w.heap.size 5 1 v' ((be a).take (k + 1)).length (bv ((be a).take (k + 1))) ∧ Below w.heap.size w w1 := by
        refine ⟨?_, ?_⟩
        · have e2 : bv ((be a).take (k + 1)) = bv ((be a).take k) ++ [.int .u8 (q : Int)] := by
            rw [HT.out, bv, List.map_append]; simp [bv, UInt8.toNat_ofNat', Nat.mod_eq_of_lt hql]
          have e3 : ((be a).take (k + 1)).length = ((be a).take k).length + 1 := by rw [HT.out, List.length_append]; rfl
          rw [e2, e3, htl]; simpa using hown'
        · refine Below.grown (hb.alloc hb.size _) hgrow (by simp; have := hb.size; omega) (fun j hj => ?_)
          exact (hown.lt j hj).1
      clear hown' hgrow hown hn'
      go_wp2
      go_roundw
      case rel => exact ⟨k + 1, (5 : Int) - k - 1, by omega, by omega, rfl, R.1, R.2⟩
      case measure => simp [intOf]; omega
    · obtain rfl : k = 6 := by omega
      have hf : (be a).take 6 = be a := List.take_of_length_le (by rw [HL.out]; exact Nat.le_refl _)
      rw [hf] at hown
      have hc := owns_conv hown (by intro h0; have := congrArg List.length h0; rw [HL.out] at this; simp at this)
      have HB := Lib.hid hb
      have hz1 : ¬ (0 : Int) ≤ z := by omega
      clear hown hb htl hf hz
      go_wp2
      go_returns
      exact ⟨rfl, HB.out⟩

/-! Text -/
theorem dslice : ∀ i : Fin 16, (⟨#[48, 49, 50, 51, 52, 53, 54, 55, 56, 57, 97, 98, 99, 100, 101, 102]⟩ : ByteArray).extract i.val (i.val + 1) = ⟨#[hexd i.val]⟩ := by decide +kernel
theorem dsl (m : Nat) (h : m < 16) (W : World) : (Instr.slice 9 (.string ⟨#[48, 49, 50, 51, 52, 53, 54, 55, 56, 57, 97, 98, 99, 100, 101, 102]⟩) (some (.int .i64 (m : Int))) (some (.int .i64 ((m : Int) + 1))) none).run Try.prog W = .ok (.string ⟨#[hexd m]⟩) W := by
  rw [run_slice_string_if W 9 _ .i64 .i64 (m : Int) ((m : Int) + 1) Try.underlying9, if_pos ⟨by omega, by show (m : Int) + 1 ≤ 16; omega⟩, if_pos (show 0 ≤ (m : Int) ∧ (m : Int) ≤ (m : Int) + 1 by omega)]
  have := dslice ⟨m, h⟩
  simp only at this
  rw [show ((m : Int)).toNat = m from rfl, show ((m : Int) + 1).toNat = m + 1 from rfl, this]

theorem hex_nums (x : Nat) (hx : x < 256) : ∃ h l : Nat, h = x / 16 ∧ l = x % 16 ∧ h < 16 ∧ l < 16 ∧ (x : Int) / 16 = (h : Int) ∧ (x : Int) % 16 = (l : Int) ∧ (x : Int).tmod 16 = (l : Int) ∧ Go.RowKit.wrap64 (x : Int) = x ∧ (x : Int).tdiv 16 = (h : Int) ∧ IntKind.i64.wrap (h : Int) = h ∧ IntKind.i64.wrap ((h : Int) + 1) = h + 1 ∧ IntKind.i64.wrap ((l : Int) + 1) = l + 1 := by
  refine ⟨x / 16, x % 16, rfl, rfl, by omega, by omega, rfl, rfl, ?_, IntWalk.wrap64_in _ (by omega), ?_, IntWalk.i64_in _ (by omega), IntWalk.i64_in _ (by omega), IntWalk.i64_in _ (by omega)⟩
  · rw [Int.tmod_eq_emod_of_nonneg (by omega)]; rfl
  · rw [Int.tdiv_eq_ediv_of_nonneg (by omega)]; rfl

theorem text_step (o : List UInt8) (m : Nat) (hm : m < 6) (c d : UInt8) : ∃ S1 S2 S3 : ByteArray, S1 = ⟨(tx o m ++ (if m = 0 then [] else [58])).toArray⟩ ∧ S3 = ⟨(tx o m ++ (if m = 0 then [] else [58]) ++ [c, d]).toArray⟩ ∧
    (∀ W, (Op.stringOp .add S1 ⟨#[c]⟩).run Try.prog W = .ok (.string S2) W) ∧ (∀ W, (Op.stringOp .add S2 ⟨#[d]⟩).run Try.prog W = .ok (.string S3) W) ∧
    (¬ m = 0 → ∀ W, (Op.stringOp .add ⟨(tx o m).toArray⟩ ⟨#[58]⟩).run Try.prog W = .ok (.string S1) W) := by
  have hln := tx_len o m
  have z1 : (⟨(tx o m ++ (if m = 0 then [] else [58])).toArray⟩ : ByteArray).size ≤ 18 := by
    show (tx o m ++ (if m = 0 then [] else [58])).toArray.size ≤ 18
    rw [List.size_toArray, List.length_append, hln]; split <;> simp <;> omega
  have z0 : (⟨(tx o m).toArray⟩ : ByteArray).size ≤ 17 := by
    show (tx o m).toArray.size ≤ 17
    rw [List.size_toArray, hln]; omega
  refine ⟨_, ⟨(tx o m ++ (if m = 0 then [] else [58])).toArray⟩ ++ ⟨#[c]⟩, _, rfl, rfl, fun W => run_string_add_sum (P := Try.prog) W _ _ ?_, fun W => ?_, fun h W => ?_⟩
  · show (⟨(tx o m ++ (if m = 0 then [] else [58])).toArray⟩ : ByteArray).size + 1 ≤ _; omega
  · have e : (⟨(tx o m ++ (if m = 0 then [] else [58]) ++ [c, d]).toArray⟩ : ByteArray) = ⟨(tx o m ++ (if m = 0 then [] else [58])).toArray⟩ ++ ⟨#[c]⟩ ++ ⟨#[d]⟩ := by apply ByteArray.ext; simp
    rw [e]
    refine run_string_add_sum (P := Try.prog) W _ _ ?_
    rw [ByteArray.size_append]
    show (⟨(tx o m ++ (if m = 0 then [] else [58])).toArray⟩ : ByteArray).size + 1 + 1 ≤ _
    omega
  · have e : (⟨(tx o m ++ (if m = 0 then [] else [58])).toArray⟩ : ByteArray) = ⟨(tx o m).toArray⟩ ++ ⟨#[58]⟩ := by rw [if_neg h]; apply ByteArray.ext; simp
    rw [e]
    refine run_string_add_sum (P := Try.prog) W _ _ ?_
    show (⟨(tx o m).toArray⟩ : ByteArray).size + 1 ≤ _
    omega

end Go.Proofs.Ytcpfkikifhcdmaa
