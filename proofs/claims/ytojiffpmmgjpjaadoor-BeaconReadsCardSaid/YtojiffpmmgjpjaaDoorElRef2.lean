/-
  WALKS of layer 9: the reference's Same (of equal lists), Encode.
-/
import Derived.Test.YtojiffpmmgjpjaaDoorElRef
import Derived.Deep.RegionWith
import Derived.BigRegion
import Derived.Laws.IdiomStrings
namespace Go.Proofs.YtojiffpmmgjpjaaDoor
open Go.RowKit Go.Em El_

theorem app3 (L : List UInt8) (a b : UInt8) (t : ByteArray) : (⟨L.toArray⟩ ++ ⟨#[a, b]⟩ ++ t : ByteArray) = ⟨(L ++ a :: b :: t.data.toList).toArray⟩ := by
  apply ba_ext
  simp
theorem conv2 (W : World) (g x y : Nat) (hx : x < 256) (hy : y < 256) (h0 : W.cell? ⟨g, 0, none⟩ = some (.int .u8 x)) (h1 : W.cell? ⟨g, 1, none⟩ = some (.int .u8 y)) :
    (convert 66 9 (.slice (some ⟨g, 0, none⟩) 2 2)).run Tryd.prog W = .ok (.string ⟨#[UInt8.ofNat x, UInt8.ofNat y]⟩) W :=
  run_convert_bytes_back (P := Tryd.prog) W 66 9 5 ⟨g, 0, none⟩ 2 [UInt8.ofNat x, UInt8.ofNat y] Tryd.underlying66 Tryd.underlying5 Tryd.underlying9 (fun j hj => by
    match j, hj with
    | 0, _ => rw [show (⟨g, 0, none⟩ : Addr).add 0 = ⟨g, 0, none⟩ from rfl, h0]; simp; omega
    | 1, _ => rw [show (⟨g, 0, none⟩ : Addr).add 1 = ⟨g, 1, none⟩ from rfl, h1]; simp; omega)

set_option maxRecDepth 100000 in
set_option maxHeartbeats 4000000 in
theorem refEncode_any (l : List El) (sa : Option Addr) (c : Nat) (w : World) (h : At w sa l) (hl : l.length ≤ 1000000) :
    Calls Tryd.prog 30 #[.slice sa l.length c] w fun e w' => e = .returned (.tuple #[.string (enc l), .int .i64 (chk l)]) ∧ Below w.heap.size w w' := by
  have CC := Lib.hid (refCheck_any l sa c w h hl)
  have HA := Lib.hid h
  clear h
  by_cases h0 : chk l = 0
  case neg =>
    have HE : Hid (enc l = ⟨#[]⟩) := if_neg h0
    generalize chk l = r at *
    go_enter Tryd.func30, Tryd.ntmps30
    go_wp2_with (go_at_call 53; refine CC.out.mono ?_; rintro e w' ⟨rfl, rfl⟩)
    go_returns
    exact ⟨by rw [HE.out]; rfl, Below.refl _ _⟩
  have HE : Hid (enc l = ⟨(encL l).toArray⟩) := if_pos h0
  rw [h0] at CC
  have h0' : chkL l = 0 ∧ l.length ≤ 32 := by
    unfold chk at h0
    split at h0
    · exact absurd h0 (by decide)
    · exact ⟨h0, by omega⟩
  have HC := Lib.hid (chkL_ok.1 h0'.1)
  have HLE : Hid (∀ k, (encL (l.take k)).length ≤ 257 * l.length) := fun k => by
    refine Nat.le_trans (encL_len (chkL_ok.2 fun e he => HC.out e (List.mem_of_mem_take he))) ?_
    rw [List.length_take]; exact Nat.mul_le_mul_left _ (Nat.min_le_right _ _)
  obtain ⟨-, h32⟩ := h0'
  rw [h0]
  clear h0
  go_enter Tryd.func30, Tryd.ntmps30
  go_wp2_with (go_at_call 53; refine CC.out.mono ?_; rintro e w' ⟨rfl, rfl⟩)
  go_loopw [5, 6] (fun s i wr => ∃ k : Nat, k ≤ l.length ∧ i = .int .i64 k ∧ s = .string ⟨(encL (l.take k)).toArray⟩ ∧ Below w.heap.size w wr) (fun _ i _ => l.length - (intOf i).toNat)
  case atStart => exact ⟨0, Nat.zero_le _, rfl, by simp [encL], Below.refl _ _⟩
  case round =>
    obtain ⟨k, hk, rfl, rfl, hb⟩ := hrel
    have HB := Lib.hid hb
    by_cases hlt : k < l.length
    · obtain ⟨b, off, rfl, hbl, c0, c1⟩ := HA.out.below hb k hlt
      have HS := Lib.hid (encL_take_succ hlt)
      obtain ⟨⟨hi0, hi1⟩, hs⟩ := chkE_ok.1 (HC.out l[k] (List.getElem_mem hlt))
      have HLT := Lib.hid hlt
      have HEE : Hid (encE l[k] = UInt8.ofNat l[k].id.toNat :: UInt8.ofNat l[k].s.size :: l[k].s.data.toList) := rfl
      generalize l[k].id = x at *
      obtain ⟨n, rfl⟩ : ∃ n : Nat, x = n := ⟨x.toNat, by omega⟩
      rw [Int.toNat_natCast] at HEE
      generalize l[k].s = t at *
      have hL := HLE.out k
      generalize encL (l.take k) = L at *
      have hL1 : ¬ 9223372036854775807 < L.length + 2 := by omega
      have hL2 : ¬ 9223372036854775807 < L.length + 2 + t.size := by omega
      have q1 : IntKind.u8.wrap (n : Int) = n := (IntKind.wrap_u8 _).trans (by omega)
      have q2 : IntKind.u8.wrap (t.size : Int) = t.size := (IntKind.wrap_u8 _).trans (by omega)
      have i0 : (0 : Int) ≤ (k : Int) := by omega
      have i1 : (k : Int) < (l.length : Int) := by omega
      have cv := conv2 (wr.alloc (.cells #[.int .u8 (n : Int), .int .u8 (t.size : Int)] 5)).drew wr.heap.size n t.size (by omega) (by omega) (by simp) (by simp)
      clear hb hi0 hi1
      go_wp2
      go_region
      go_wp2
      go_roundw
      case rel => exact ⟨k + 1, HLT.out, by go_num, by rw [HS.out, app3]; exact congrArg (fun z => Value.string ⟨(L ++ z).toArray⟩) HEE.out.symm, (HB.out.alloc HB.out.size _).drew⟩
      case measure => have := HLT.out; simp [intOf]; omega
    · obtain rfl : k = l.length := by omega
      have HF : Hid (encL (l.take l.length) = encL l) := by rw [List.take_length]; exact rfl
      clear hb
      go_wp2
      go_returns
      exact ⟨by rw [HE.out, ← HF.out]; rfl, HB.out⟩
end Go.Proofs.YtojiffpmmgjpjaaDoor
