/-
  WALKS of the landed functions of layer 9: Encode.
-/
import Derived.Test.YtojiffpmmgjpjaaDoorElDoneA
import Derived.Test.YtojiffpmmgjpjaaDoorObv
import Derived.Lib.AppendStr
namespace Go.Proofs.YtojiffpmmgjpjaaDoor
open Go.RowKit Go.Em El_

theorem strCells_obv (s : ByteArray) : Lib.strCells s = obv s.data.toList := by simp [Lib.strCells, obv]
theorem obv_enc (x n : Nat) (hx : x < 256) (hn : n < 256) (t : ByteArray) : obv (UInt8.ofNat x :: UInt8.ofNat n :: t.data.toList) = [.int .u8 (x : Int), .int .u8 (n : Int)] ++ Lib.strCells t := by
  rw [strCells_obv]
  have h1 : x % 256 = x := by omega
  have h2 : n % 256 = n := by omega
  simp [obv, h1, h2]
set_option maxRecDepth 100000 in
set_option maxHeartbeats 4000000 in
theorem encode_any (l : List El) (sa : Option Addr) (c : Nat) (w : World) (h : At w sa l) (hl : l.length ≤ 1000000) :
    Calls Tryd.prog 20 #[.slice sa l.length c] w fun e w' => e = .returned (.tuple #[.string (enc l), .int .i64 (chk l)]) ∧ Below w.heap.size w w' := by
  have HI := Lib.hid (info_parts infoOctet)
  have CC := Lib.hid (check_any l sa c w h hl)
  have HA := Lib.hid h
  clear h
  by_cases h0 : chk l = 0
  case neg =>
    have HE : Hid (enc l = ⟨#[]⟩) := if_neg h0
    have h0' : ((chk l) != 0) = true := by simp; exact h0
    generalize chk l = r at *
    go_enter Tryd.func20, Tryd.ntmps20
    go_wp2_with (go_at_call 35; refine CC.out.mono ?_; rintro e w' ⟨rfl, hb⟩; have HB := Lib.hid hb; clear hb)
    go_returns
    exact ⟨by rw [HE.out]; rfl, HB.out⟩
  have HE : Hid (enc l = ⟨(encL l).toArray⟩) := if_pos h0
  rw [h0] at CC
  have h0' : chkL l = 0 ∧ l.length ≤ 32 := by
    unfold chk at h0
    split at h0
    · exact absurd h0 (by decide)
    · exact ⟨h0, by omega⟩
  have HC := Lib.hid (chkL_ok.1 h0'.1)
  have HLE : Hid (∀ k, (encL (l.take k)).length ≤ 257 * l.length) := fun k => by
    refine Nat.le_trans (encL_len (chkL_ok.2 fun e he => HC.out e (List.mem_of_mem_take he))) ?_
    rw [List.length_take]; exact Nat.mul_le_mul_left _ (Nat.min_le_right _ _)
  obtain ⟨-, h32⟩ := h0'
  rw [h0]
  clear h0
  go_enter Tryd.func20, Tryd.ntmps20
  go_wp2_with (go_at_call 35; refine CC.out.mono ?_; rintro e w' ⟨rfl, hb⟩; have HB0 := Lib.hid hb; clear hb)
  go_loopw [5, 15] (fun v i wr => ∃ (k : Nat) (L : List UInt8), k ≤ l.length ∧ i = .int .i64 k ∧ L = encL (l.take k) ∧ wr.ownsRow w.heap.size 5 1 v L.length (obv L) ∧ Below w.heap.size w wr) (fun _ i _ => l.length - (intOf i).toNat)
  case atStart => exact ⟨0, [], Nat.zero_le _, rfl, by simp [encL], World.ownsRow_nil _ _ _ _, HB0.out⟩
  case round =>
    rename_i wr
    obtain ⟨k, L, hk, rfl, hLe, hown, hb⟩ := hrel
    have HB := Lib.hid hb
    clear HB0 CC
    by_cases hlt : k < l.length
    · obtain ⟨b, off, rfl, hbl, c0, c1⟩ := HA.out.below hb k hlt
      have HS : Hid (encL (l.take (k + 1)) = L ++ encE l[k]) := by rw [hLe]; exact encL_take_succ hlt
      obtain ⟨⟨hi0, hi1⟩, hs⟩ := chkE_ok.1 (HC.out l[k] (List.getElem_mem hlt))
      have HLT := Lib.hid hlt
      have HEE : Hid (encE l[k] = UInt8.ofNat l[k].id.toNat :: UInt8.ofNat l[k].s.size :: l[k].s.data.toList) := rfl
      have hL : L.length ≤ 257 * l.length := by rw [hLe]; exact HLE.out k
      generalize l[k].id = x at *
      obtain ⟨n, rfl⟩ : ∃ n : Nat, x = n := ⟨x.toNat, by omega⟩
      rw [Int.toNat_natCast] at HEE
      generalize l[k].s = t at *
      generalize l[k] = y at *
      have q1 : IntKind.u8.wrap (n : Int) = n := (IntKind.wrap_u8 _).trans (by omega)
      have q2 : IntKind.u8.wrap (t.size : Int) = t.size := (IntKind.wrap_u8 _).trans (by omega)
      have HOB := Lib.hid (obv_enc n t.size (by omega) (by omega) t)
      clear hb hi0 hi1 hLe
      go_wp2_with (at_builtin; obtain ⟨i0, hi, hz0, hz1, hz2⟩ := HI.out; refine wpList_append_own _ rfl _ _ 66 rfl w.heap.size 5 i0 (.int .u8 0) 1 1 Tryd.underlying66 hi hz0 hz1 hz2 rfl (by decide) _ _ _ rfl ((hown.alloc _).alloc _) ⟨wr.heap.size + 1, 0, none⟩ 2 2 [.int .u8 (n : Int), .int .u8 (t.size : Int)] rfl rfl ?c1 ?c2 ?c3 ?c4 ?c5 ?_)
      case c1 =>
        intro j u hj
        match j, hj with
        | 0, hj => simp at hj; subst hj; simp [Addr.add]
        | 1, hj => simp at hj; subst hj; simp [Addr.add]
      case c2 => intro u hu; simp at hu; rcases hu with rfl | rfl <;> rfl
      case c3 => unfold maxLen; omega
      case c4 => omega
      case c5 => have := HB.out.size; simp; omega
      intro v5 w5 hown5 hgrow5 hn5
      clear hi hz0 hz1 hz2 hn5
      have d1 : w5.cell? ⟨wr.heap.size, 1, none⟩ = some (.string t) := by
        refine (World.cell?_of_block (hgrow5.block wr.heap.size (by simp; omega) fun e => ?_)).trans (by simp)
        have := (hown.lt _ e.symm).2
        omega
      have B5 := Lib.hid (Below.grown ((HB.out.alloc HB.out.size _).alloc (by have := HB.out.size; simp; omega) _) hgrow5 (by have := HB.out.size; simp; omega) (fun j hj => (hown.lt j hj).1))
      clear hgrow5 hown
      go_wp2_with (at_builtin; obtain ⟨i0, hi, hz0, hz1, hz2⟩ := HI.out; refine Lib.wpList_append_own_string _ rfl _ _ 66 9 rfl w.heap.size 5 i0 Tryd.underlying66 Tryd.underlying9 hi hz0 hz1 hz2 _ _ _ rfl hown5 t rfl ?e1 ?e2 ?e3 ?_)
      case e1 => unfold maxLen; omega
      case e2 => omega
      case e3 => exact B5.out.size
      intro v6 w6 hown6 hgrow6 hn6
      clear hi hz0 hz1 hz2 hn6
      have B6 := Lib.hid (Below.grown B5.out hgrow6 B5.out.size (fun j hj => (hown5.lt j hj).1))
      have HO6 : Hid (w6.ownsRow w.heap.size 5 1 v6 (L ++ encE y).length (obv (L ++ encE y))) := by
        have e1 : (L ++ encE y).length = L.length + 2 + t.size := by
          have := Array.length_toList (xs := t.data)
          rw [HEE.out, List.length_append, List.length_cons, List.length_cons]
          show _ = L.length + 2 + t.data.size
          omega
        have e2 : obv (L ++ encE y) = obv L ++ [.int .u8 (n : Int), .int .u8 (t.size : Int)] ++ Lib.strCells t := by rw [obv_app, HEE.out, HOB.out, List.append_assoc]
        show w6.ownsRow w.heap.size 5 1 v6 (L ++ encE y).length (obv (L ++ encE y))
        rw [e1, e2, List.append_assoc]; exact hown6
      clear hgrow6 hown5 hown6 d1
      go_wp2
      go_roundw
      case rel => exact ⟨k + 1, L ++ encE y, HLT.out, by go_num, HS.out.symm, HO6.out, B6.out⟩
      case measure => have := HLT.out; simp [intOf]; omega
    · obtain rfl : k = l.length := by omega
      have HF : Hid (encL (l.take l.length) = encL l) := by rw [List.take_length]; exact rfl
      obtain ⟨v0, cap, rfl⟩ := slice_form hown
      have hc := conv_any hown
      have HLe := Lib.hid hLe
      clear hb hLe
      go_wp2
      go_returns
      exact ⟨by rw [HE.out, ← HF.out, ← HLe.out]; rfl, HB.out⟩
end Go.Proofs.YtojiffpmmgjpjaaDoor
