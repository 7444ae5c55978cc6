/-
  WALKS of the reference of layer 22: Due, Reset, Resize.
-/
import Derived.Test.YtldeflpaghbmmaaWnRef3
import Derived.Test.YtldeflpaghbmmaaWnPut2
import Derived.Test.YtldeflpaghbmmaaWnApp
namespace Go.Proofs.Ytldeflpaghbmmaa
open Go.RowKit Go.Wn Go.Sq Go.Wr
attribute [local go_sem ↓ high] Wv_.loadF Wv_.storeF Wv_.v_cells Wv_.v_match
attribute [local go_sem] Wv_.C0 Wv_.C1 Wv_.C2 Wv_.C3 Wv_.loadF_new Wv_.storeF_zero Oper.semAt_some

/-- What is due of the first packets. -/
def dueTo (l : List Sn) (m : Int) (i : Nat) : List Sn := ((l.take i).filter isOp).take m.toNat
theorem dueTo_no {l : List Sn} {m : Int} {i : Nat} (h : i < l.length) (hn : isOp l[i] = false ∨ ¬ ((dueTo l m i).length : Int) < m) : dueTo l m (i + 1) = dueTo l m i := by
  unfold dueTo at *
  rw [filter_take h]
  rcases hn with hn | hn
  · rw [hn]; simp
  · rw [List.length_take] at hn
    by_cases hp : isOp l[i] = true
    · rw [if_pos hp, List.take_append_of_le_length (by omega)]
    · rw [if_neg hp, List.append_nil]
theorem dueTo_yes {l : List Sn} {m : Int} {i : Nat} (h : i < l.length) (hp : isOp l[i] = true) (hn : ((dueTo l m i).length : Int) < m) : dueTo l m (i + 1) = dueTo l m i ++ [l[i]] := by
  unfold dueTo at *
  rw [filter_take h, if_pos hp]
  generalize (l.take i).filter isOp = F at *
  rw [List.length_take] at hn
  rw [List.take_of_length_le (by rw [List.length_append, List.length_singleton]; omega), List.take_of_length_le (by omega)]
theorem dueTo_zero (l : List Sn) (m : Int) : dueTo l m 0 = [] := by simp [dueTo]
theorem dueTo_all (l : List Sn) (m : Int) : dueTo l m l.length = (l.filter isOp).take m.toNat := by unfold dueTo; rw [List.take_length]
theorem dueTo_len (l : List Sn) (m : Int) (i : Nat) : (dueTo l m i).length ≤ l.length := by
  unfold dueTo
  have h1 := List.length_filter_le isOp (l.take i)
  rw [List.length_take] at *
  omega

set_option maxRecDepth 100000 in
set_option maxHeartbeats 4000000 in
theorem r22_due_any (x : Wn) (s : St) (m : Int) (w : World) (hL : Lies w x s) (hl : s.l.length ≤ 1000) :
    Calls Try.prog 26 #[Wv_.v x, .int .i64 m] w fun e w' => ∃ sa c, e = .returned (.slice sa (dueL s m).length c) ∧ Sn_.Sl w' sa (dueL s m) c ∧ Below w.heap.size w w' := by
  obtain ⟨w1, hw1⟩ : ∃ w1, w.alloc (.cells (Wv_.C x) 24) = w1 := ⟨_, rfl⟩
  have z1 : w1.heap.size = w.heap.size + 1 := by rw [← hw1]; simp
  obtain ⟨w2, hw2⟩ : ∃ w2, w1.alloc (.cells #[] 76) = w2 := ⟨_, rfl⟩
  have X1 : Wv_.Box w1 w.heap.size x := hw1 ▸ Wv_.Box.new w x
  have b1 : Below w.heap.size w w1 := hw1 ▸ (Below.refl _ _).alloc (Nat.le_refl _) _
  have b2 : Below w1.heap.size w1 w2 := hw2 ▸ (Below.refl _ _).alloc (Nat.le_refl _) _
  have V2 := Lib.hid (show Vst w w.heap.size x w2 from (show Vst w w.heap.size x w1 from ⟨X1, b1⟩).keep _ _ b2)
  have O2 : Hid (w2.ownsRow (w.heap.size + 1) 76 5 (.slice (some ⟨w1.heap.size, 0, none⟩) 0 0) 0 (Sn_.flat [])) := by
    rw [← z1, ← hw2]
    exact Sn_.owns_lit w1 [] (Nat.le_refl _) (Nat.zero_le _)
  have e1 := X1.all
  have HI := Lib.hid (info_parts Sn_.info)
  have HL := Lib.hid hL
  have HLN := Lib.hid hl
  obtain ⟨n, hn1⟩ : ∃ n, s.l.length = n := ⟨_, rfl⟩
  have hxn : x.n = n := hL.n.trans hn1
  have HN := Lib.hid hn1
  have HD : Hid (dueL s m = dueTo s.l m n) := by show _ = _; rw [← hn1, dueTo_all]; rfl
  clear X1 b1 b2 hL hl hn1
  go_enter Try.func26, Try.ntmps26
  go_wp2
  clear e1
  go_loopw [5, 6] (fun v z wr => ∃ i : Nat, z = .int .i64 i ∧ i ≤ n ∧ Hid (∃ sa c, v = .slice sa (dueTo s.l m i).length c) ∧ Hid (wr.ownsRow (w.heap.size + 1) 76 5 v (dueTo s.l m i).length (Sn_.flat (dueTo s.l m i))) ∧ Hid (Vst w w.heap.size x wr)) (fun _ z _ => n - (intOf z).toNat)
  case atStart => exact ⟨0, rfl, Nat.zero_le _, by rw [dueTo_zero]; exact ⟨_, _, rfl⟩, by rw [dueTo_zero]; rw [z1] at O2; exact O2, V2⟩
  case round =>
    rename World => wr
    obtain ⟨i, rfl, hi, HV, HO, HB⟩ := hrel
    obtain ⟨sv, cv, rfl⟩ := HV.out
    have e1 := HB.out.bx.all
    have hi1 : i ≤ 1000 := by have := HLN.out; have := HN.out; omega
    by_cases hlt : i < n
    · have hil : i < s.l.length := by have := HN.out; omega
      obtain ⟨b, off, hsa, hbl, k0, k1, k2, k3, k4⟩ := HL.out.sl.lies i hil
      have c0 := (HB.out.bel.cell hbl).trans k0
      have c1 := (HB.out.bel.cell hbl).trans k1
      have c2 := (HB.out.bel.cell hbl).trans k2
      have c3 := (HB.out.bel.cell hbl).trans k3
      have c4 := (HB.out.bel.cell hbl).trans k4
      have hle : n ≤ x.c := by have := HL.out.sl.le; have := HN.out; omega
      have HY := Lib.hid (dueTo_yes (m := m) hil)
      have HNO := Lib.hid (dueTo_no (m := m) hil)
      have hop : isOp s.l[i] = !s.l[i].dn := rfl
      have HP : Hid ((dueTo s.l m i).length ≤ 1000) := Nat.le_trans (dueTo_len _ _ _) HLN.out
      rw [hop] at HY HNO
      have HLT := Lib.hid hlt
      have hi0 : (0 : Int) ≤ (i : Int) := by omega
      have hi2 : (i : Int) < (n : Int) := by omega
      generalize s.l[i] = h at *
      generalize dueTo s.l m i = D at *
      clear k0 k1 k2 k3 k4 hbl hil hop
      by_cases hd : h.dn = true
      · have HE := Lib.hid (HNO.out (.inl (by rw [hd]; rfl)))
        rw [hd] at c3
        clear HY HNO hd
        go_wp2
        go_roundw
        case rel => exact ⟨i + 1, by go_num, HLT.out, by rw [HE.out]; exact ⟨sv, cv, rfl⟩, by rw [HE.out]; exact HO, HB⟩
        case measure => have := HLT.out; simp [intOf]; omega
      · have hd0 : h.dn = false := by simpa using hd
        rw [hd0] at c3
        by_cases hm : (D.length : Int) < m
        · have HE := Lib.hid (HY.out (by rw [hd0]; rfl) hm)
          have HM : Hid (D.length + 1 ≤ maxLen ∧ (D.length + 1) * 48 ≤ 140737488355328) := by
            have := HP.out
            refine ⟨?_, by omega⟩
            unfold maxLen; omega
          have hcs : Hid (Sn_.cs h = [.int .i64 h.id, .int .i64 h.q, .int .i64 h.tr, .bool false, .string h.da]) := by unfold Sn_.cs; rw [hd0]; exact rfl
          have hwz := HB.out.bx.lt
          clear HY HNO hd hd0
          go_wp2_with (at_builtin; obtain ⟨i0, hi0', hz0, hz1, hz2⟩ := HI.out; refine wpList_append_own _ rfl _ _ 22 rfl (w.heap.size + 1) 76 i0 (.agg #[.int .i64 0, .int .i64 0, .int .i64 0, .bool false, .string ⟨#[]⟩]) 5 48 Try.underlying22 hi0' hz0 hz1 hz2 rfl (by decide) _ _ _ rfl (HO.out.alloc _) ⟨wr.heap.size, 0, none⟩ 1 1 (Sn_.cs h) rfl rfl ?c1 (Sn_.flat_one h) HM.out.1 HM.out.2 ?c5 ?_)
          case c1 =>
            rw [hcs.out]
            intro j x hj
            match j, hj with
            | 0, hj => simp at hj; subst hj; simp [Addr.add]
            | 1, hj => simp at hj; subst hj; simp [Addr.add]
            | 2, hj => simp at hj; subst hj; simp [Addr.add]
            | 3, hj => simp at hj; subst hj; simp [Addr.add]
            | 4, hj => simp at hj; subst hj; simp [Addr.add]
          case c5 => simp; omega
          intro v4 w4 hown4 hgrow hn'
          clear hi0' hz0 hz1 hz2
          have B4 : Below (w.heap.size + 1) wr w4 := ((Below.refl (w.heap.size + 1) wr).alloc hwz _).grown hgrow (by simp; omega) (fun j hj => (HO.out.lt j hj).1)
          have HB4 : Hid (Vst w w.heap.size x w4) := ⟨(B4.block _ (Nat.lt_succ_self _)).trans HB.out.bx, HB.out.bel.trans (B4.mono (Nat.le_succ _))⟩
          obtain ⟨sv4, cv4, rfl⟩ := Sn_.slice_form hown4
          have HO4 : Hid (w4.ownsRow (w.heap.size + 1) 76 5 (.slice sv4 (D.length + 1) cv4) (D ++ [h]).length (Sn_.flat (D ++ [h]))) := by
            show World.ownsRow _ _ _ _ _ _ _
            rw [Sn_.flat_snoc, List.length_append]
            exact hown4
          clear hown4 hgrow hn' B4
          go_wp2
          go_roundw
          case rel => exact ⟨i + 1, by go_num, HLT.out, by rw [HE.out, List.length_append]; exact ⟨sv4, cv4, rfl⟩, by rw [HE.out]; exact HO4, HB4⟩
          case measure => have := HLT.out; simp [intOf]; omega
        · have HE := Lib.hid (HNO.out (.inr hm))
          clear HY HNO hd hd0
          go_wp2
          go_roundw
          case rel => exact ⟨i + 1, by go_num, HLT.out, by rw [HE.out]; exact ⟨sv, cv, rfl⟩, by rw [HE.out]; exact HO, HB⟩
          case measure => have := HLT.out; simp [intOf]; omega
    · obtain rfl : i = n := by omega
      have HS := Lib.hid (Sn_.sl_owns HO.out)
      go_wp2
      go_returns
      rw [HD.out]
      exact ⟨_, _, rfl, HS.out, HB.out.bel⟩
end Go.Proofs.Ytldeflpaghbmmaa
