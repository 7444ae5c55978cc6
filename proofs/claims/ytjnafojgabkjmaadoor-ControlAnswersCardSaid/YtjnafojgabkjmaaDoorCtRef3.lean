/-
  WALKS of the reference of layer 11: Map, Block, ReadBlock.
-/
import Derived.Test.YtjnafojgabkjmaaDoorCtRef2
import Derived.Deep.RegionHeld3
namespace Go.Proofs.YtjnafojgabkjmaaDoor
open Go.RowKit Go.Hd Go.Wr Go.Ct
attribute [local go_sem ↓ high] Fr_.loadF Fr_.storeF Fr_.v_cells Fr_.v_match
attribute [local go_sem] Fr_.C0 Fr_.C1 Fr_.C2 Fr_.C3 Fr_.C4 Fr_.C5 Fr_.C6 Fr_.C7 Fr_.C8 Fr_.C9 Fr_.C10 Fr_.C11 Fr_.C12 Fr_.C13 Fr_.C14 Fr_.C15 Fr_.C16 Fr_.C17 Fr_.storeF_zero

set_option maxHeartbeats 1000000 in
theorem refMap_any (n : Nat) (w : World) (hn : n < 18446744073709551616) :
    Calls Tryd.prog 53 #[.int .u64 (n : Int)] w fun e w' => e = .returned (.string (bw (le n 8))) ∧ Below w.heap.size w w' := by
  have HI := Lib.hid (info_parts infoByte')
  go_enter Tryd.func53, Tryd.ntmps53
  go_wp2
  go_loopw [3, 4] (fun v i wr => ∃ m : Nat, m ≤ 8 ∧ i = .int .i64 m ∧ wr.ownsRow w.heap.size 5 1 v (le n m).length (bv (le n m)) ∧ Below w.heap.size w wr)
    (fun _ i _ => 8 - (intOf i).toNat)
  case atStart =>
    refine ⟨0, by omega, rfl, ?_, Below.refl _ _⟩
    exact World.ownsRow_nil _ _ _ _
  case round =>
    obtain ⟨m, hm, rfl, hown, hb⟩ := hrel
    by_cases hlt : m < 8
    · obtain ⟨q, hq⟩ : ∃ q, n / pow m % 256 = q := ⟨_, rfl⟩
      have hq6 : q < 256 := by omega
      have c0 : ((n : Int) / 2 ^ (8 * m)).tmod 256 = (q : Int) := by rw [Int.tmod_eq_emod_of_nonneg (Int.ediv_nonneg (by omega) (Int.le_of_lt (Int.pow_pos (by decide)))), shr_val, hq]
      have c9 : (q : Int) % 256 = q := by omega
      have HQ := Lib.hid hq
      clear hq
      go_wp2_with (at_builtin; obtain ⟨i0, hi, hz0, hz1, hz2⟩ := HI.out; refine wpList_append_own _ rfl _ _ 87 rfl w.heap.size 5 i0 (.int .u8 0) 1 1 Tryd.underlying87 hi hz0 hz1 hz2 rfl (by decide) _ _ _ rfl (hown.alloc _) ⟨wr.heap.size, 0, none⟩ 1 1 [.int .u8 (q : Int)] rfl rfl ?c1 ?c2 ?c3 ?c4 ?c5 ?_)
      case c1 =>
        intro j u hj
        match j, hj with
        | 0, hj => simp at hj; subst hj; simp [Addr.add]
      case c2 => intro u hu; simp at hu; subst hu; rfl
      case c3 => rw [le_len]; unfold maxLen; omega
      case c4 => rw [le_len]; omega
      case c5 => have := hb.size; simp; omega
      intro v' w1 hown' hgrow hn'
      clear hi hz0 hz1 hz2
      have R : w1.ownsRow w.heap.size 5 1 v' (le n (m + 1)).length (bv (le n (m + 1))) ∧ Below w.heap.size w w1 := by
        refine ⟨?_, ?_⟩
        · have e2 : bv (le n (m + 1)) = bv (le n m) ++ [.int .u8 (q : Int)] := by
            rw [le, HQ.out, bv, List.map_append]; simp [bv]; omega
          rw [e2, le_len]; rw [le_len] at hown'; simpa using hown'
        · refine Below.grown (hb.alloc hb.size _) hgrow (by simp; have := hb.size; omega) (fun j hj => ?_)
          exact (hown.lt j hj).1
      clear hown' hgrow hown hn'
      go_wp2
      go_roundw
      case rel => exact ⟨m + 1, by omega, by go_num, R.1, R.2⟩
      case measure => simp [intOf]; omega
    · obtain rfl : m = 8 := by omega
      have hc := owns_conv hown (by intro h0; have := congrArg List.length h0; rw [le_len] at this; simp at this)
      have HB := Lib.hid hb
      clear hown hb
      go_wp2
      go_returns
      exact ⟨rfl, HB.out⟩

/-! ### ReadBlock -/
theorem get_step8 (l : ByteArray) (j : Nat) (h : j < l.size) (h6 : l.size ≤ j + 8) :
    IntKind.u64.wrap (IntKind.u64.wrap (((val (l.data.toList.drop (j + 1)) : Nat) : Int) * 256) + IntKind.u64.wrap (((l[j]'h).toNat : Nat) : Int)) = ((val (l.data.toList.drop j) : Nat) : Int) := by
  have hx := (l[j]'h).toNat_lt
  have hl : j < l.data.toList.length := h
  have hv := val_lt (l.data.toList.drop (j + 1))
  have hle : (l.data.toList.drop (j + 1)).length ≤ 7 := by rw [List.length_drop]; have : l.data.toList.length = l.size := Array.length_toList; omega
  have hp := pow_le hle
  have h7 : pow 7 = 72057594037927936 := by decide
  have e4 : l.data.toList[j] = l[j]'h := rfl
  rw [val_drop _ _ hl, e4]
  generalize (l[j]'h).toNat = x at hx
  generalize val (l.data.toList.drop (j + 1)) = v at hv
  rw [IntWalk.u64_in (x : Int) (by omega), IntWalk.u64_in ((v : Int) * 256) (by omega), IntWalk.u64_in _ (by omega)]
  omega

set_option maxRecDepth 100000 in
set_option maxHeartbeats 2000000 in
theorem refReadBlock_any (f : Fr) (w : World) :
    Calls Tryd.prog 29 #[Fr_.v f] w fun e w' => e = .returned (.tuple #[.int .i64 (rdC f 16 11), .int .i64 (rdS f 16 11), .int .u64 (rdM f : Int), .int .i64 (rdE f 16 11)]) ∧ Below w.heap.size w w' := by
  have S1 := Lib.hid (Stf.new w f)
  have l1 := S1.out.box.loadF
  have C : Hid (∀ w, Calls Tryd.prog 54 #[Fr_.v f, .int .i64 16, .int .i64 11] w fun e w' => e = .returned (.tuple #[.int .i64 (rdC f 16 11), .int .i64 (rdS f 16 11), .int .i64 (rdE f 16 11)]) ∧ Below w.heap.size w w') := fun w => refRead11_any f 16 11 ⟨by decide, by decide⟩ w
  by_cases hE : rdE f 16 11 = 0
  · have hz : f.bo.size = 11 := by
      unfold rdE at hE
      split at hE
      · omega
      · split at hE
        · omega
        · split at hE <;> omega
    have HM : Hid (rdM f = val (f.bo.data.toList.drop 3)) := by unfold Hid rdM; rw [if_pos hE]
    rw [hE] at C ⊢
    generalize rdC f 16 11 = xc at *
    generalize rdS f 16 11 = xs at *
    clear hE
    go_enter Tryd.func29, Tryd.ntmps29
    go_wp2_with (go_at_call 54; refine (C.out _).mono ?_; rintro e w2 ⟨rfl, hb⟩; have S2 := Lib.hid (Stf.keep _ _ S1.out hb); clear hb l1; have e2 := S2.out.box.all)
    go_loop [9, 10] (fun x i => ∃ j : Nat, 3 ≤ j ∧ j ≤ 11 ∧ i = .int .i64 ((j : Int) - 1) ∧ x = .int .u64 (val (f.bo.data.toList.drop j) : Int)) (fun _ i => (intOf i + 1).toNat)
    case atStart => exact ⟨11, by omega, by omega, rfl, by rw [List.drop_of_length_le (by rw [Array.length_toList]; exact Nat.le_of_eq hz)]; rfl⟩
    case round =>
      obtain ⟨j, hj3, hj, rfl, rfl⟩ := hrel
      by_cases hlt : 3 < j
      · obtain ⟨j, rfl⟩ : ∃ i, j = i + 1 := ⟨j - 1, by omega⟩
        have HG := Lib.hid (get_step8 f.bo j (by omega) (by omega))
        go_wp2
        go_round
        case rel => exact ⟨j, by omega, by omega, rfl, by rw [HG.out]⟩
        case measure => simp [intOf]
      · obtain rfl : j = 3 := by omega
        go_wp2
        go_returns
        exact ⟨by rw [HM.out], S2.out.bel⟩
  · rw [(rd_bad hE).1, (rd_bad hE).2] at C ⊢
    rw [show rdM f = 0 from if_neg hE]
    have hxn : (rdE f 16 11 != 0) = true := by rw [bne_iff_ne]; exact hE
    generalize rdE f 16 11 = xe at *
    clear hE
    go_enter Tryd.func29, Tryd.ntmps29
    go_wp2_with (go_at_call 54; refine (C.out _).mono ?_; rintro e w2 ⟨rfl, hb⟩; have S2 := Lib.hid (Stf.keep _ _ S1.out hb); clear hb l1; have e2 := S2.out.box.all)
    go_returns
    exact ⟨rfl, S2.out.bel⟩
end Go.Proofs.YtjnafojgabkjmaaDoor
