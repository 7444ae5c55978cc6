/-
  WALKS of the reference of layer 22: Reset, Resize, Put.
-/
import Derived.Test.YtldeflpaghbmmaaWnRef4
namespace Go.Proofs.Ytldeflpaghbmmaa
open Go.RowKit Go.Wn Go.Sq Go.Wr
attribute [local go_sem ↓ high] Wv_.loadF Wv_.storeF Wv_.v_cells Wv_.v_match
attribute [local go_sem] Wv_.C0 Wv_.C1 Wv_.C2 Wv_.C3 Wv_.loadF_new Wv_.storeF_zero Oper.semAt_some

theorem TwoV.up {w wi wj : World} {x y : Wn} (h : TwoV w x y wi) (hb : Below (w.heap.size + 2) wi wj) : TwoV w x y wj :=
  ⟨(hb.block _ (by omega)).trans h.bx, (hb.block _ (by omega)).trans h.rs, h.bel.trans (hb.mono (by omega))⟩
/-- A state and identifiers handed back by the reference. -/
def StIdsV (p : St × List Int) (w : World) (e : Ending) (w' : World) : Prop :=
  ∃ x' sa c, e = .returned (.tuple #[Wv_.v x', .slice sa p.2.length c]) ∧ Out p.1 w x' w' ∧ Is_.Sl w' sa p.2 c ∧ Fr w.heap.size sa
def idsTo (l : List Sn) (i : Nat) : List Int := ids ((l.take i).filter isOp)
theorem idsTo_no {l : List Sn} {i : Nat} (h : i < l.length) (hp : isOp l[i] = false) : idsTo l (i + 1) = idsTo l i := by
  unfold idsTo; rw [filter_take h, hp]; simp
theorem idsTo_yes {l : List Sn} {i : Nat} (h : i < l.length) (hp : isOp l[i] = true) : idsTo l (i + 1) = idsTo l i ++ [l[i].id] := by
  unfold idsTo ids; rw [filter_take h, hp, List.map_append]; rfl
theorem idsTo_len (l : List Sn) (i : Nat) : (idsTo l i).length ≤ l.length := by
  unfold idsTo ids
  have h1 := List.length_filter_le isOp (l.take i)
  rw [List.length_map]
  rw [List.length_take] at h1
  omega

set_option maxRecDepth 100000 in
set_option maxHeartbeats 4000000 in
theorem r22_reset_any (x : Wn) (s : St) (w : World) (hL : Lies w x s) (hl : s.l.length ≤ 1000) :
    Calls Try.prog 35 #[Wv_.v x] w fun e w' => StIdsV (reset s) w e w' := by
  obtain ⟨w1, hw1⟩ : ∃ w1, w.alloc (.cells (Wv_.C x) 24) = w1 := ⟨_, rfl⟩
  obtain ⟨w2, hw2⟩ : ∃ w2, w1.alloc (.cells (Wv_.C zw) 24) = w2 := ⟨_, rfl⟩
  have hw2' : w1.alloc (.cells #[.int .i64 0, .int .i64 0, .slice none 0 0, .bool false] 24) = w2 := hw2
  have z1 : w1.heap.size = w.heap.size + 1 := by rw [← hw1]; simp
  have z2 : w2.heap.size = w.heap.size + 2 := by rw [← hw2]; simp [z1]
  obtain ⟨w3, hw3⟩ : ∃ w3, w2.alloc (.cells #[] 3) = w3 := ⟨_, rfl⟩
  have T2 := TwoV.new hw1 hw2
  have b3 : Below w2.heap.size w2 w3 := hw3 ▸ (Below.refl _ _).alloc (Nat.le_refl _) _
  have T3 := Lib.hid (T2.below b3)
  have O3 : Hid (w3.ownsRow (w.heap.size + 2) 3 1 (.slice (some ⟨w2.heap.size, 0, none⟩) 0 0) 0 (Is_.vs [])) := by
    rw [← z2, ← hw3]
    exact Is_.owns_lit w2 [] (Nat.le_refl _) (Nat.zero_le _)
  have e1 := T2.bx.all
  have HI := Lib.hid (info_parts Is_.info)
  have HL := Lib.hid hL
  have HLN := Lib.hid hl
  obtain ⟨n, hn1⟩ : ∃ n, s.l.length = n := ⟨_, rfl⟩
  have hxn : x.n = n := hL.n.trans hn1
  have HN := Lib.hid hn1
  have HD : Hid (reset s = (⟨s.nx, 0, [], false⟩, idsTo s.l n)) := by show _ = _; rw [← hn1]; unfold idsTo reset; rw [List.take_length]
  rw [HD.out]
  clear T2 b3 hL hl hn1 hw2 HD
  go_enter Try.func35, Try.ntmps35
  go_wp2
  clear e1
  go_loopw [4, 5] (fun v z wr => ∃ i : Nat, z = .int .i64 i ∧ i ≤ n ∧ Hid (∃ sa c, v = .slice sa (idsTo s.l i).length c) ∧ Hid (wr.ownsRow (w.heap.size + 2) 3 1 v (idsTo s.l i).length (Is_.vs (idsTo s.l i))) ∧ Hid (TwoV w x zw wr)) (fun _ z _ => n - (intOf z).toNat)
  case atStart => exact ⟨0, rfl, Nat.zero_le _, ⟨_, _, rfl⟩, by rw [z2] at O3; exact O3, T3⟩
  case round =>
    rename World => wr
    obtain ⟨i, rfl, hi, HV, HO, HB⟩ := hrel
    obtain ⟨sv, cv, rfl⟩ := HV.out
    have e1 := HB.out.bx.all
    have hi1 : i ≤ 1000 := by have := HLN.out; have := HN.out; omega
    by_cases hlt : i < n
    · have hil : i < s.l.length := by have := HN.out; omega
      obtain ⟨b, off, hsa, hbl, k0, k1, k2, k3, k4⟩ := HL.out.sl.lies i hil
      have c0 := (HB.out.bel.cell hbl).trans k0
      have c3 := (HB.out.bel.cell hbl).trans k3
      have hle : n ≤ x.c := by have := HL.out.sl.le; have := HN.out; omega
      have HY := Lib.hid (idsTo_yes hil)
      have HNO := Lib.hid (idsTo_no hil)
      have hop : isOp s.l[i] = !s.l[i].dn := rfl
      have HP : Hid ((idsTo s.l i).length ≤ 1000) := Nat.le_trans (idsTo_len _ _) HLN.out
      rw [hop] at HY HNO
      have HLT := Lib.hid hlt
      have hi0 : (0 : Int) ≤ (i : Int) := by omega
      have hi2 : (i : Int) < (n : Int) := by omega
      generalize s.l[i] = h at *
      generalize idsTo s.l i = D at *
      clear k0 k1 k2 k3 k4 hbl hil hop
      by_cases hd : h.dn = true
      · have HE := Lib.hid (HNO.out (by rw [hd]; rfl))
        rw [hd] at c3
        clear HY HNO hd
        go_wp2
        go_roundw
        case rel => exact ⟨i + 1, by go_num, HLT.out, by rw [HE.out]; exact ⟨sv, cv, rfl⟩, by rw [HE.out]; exact HO, HB⟩
        case measure => have := HLT.out; simp [intOf]; omega
      · have hd0 : h.dn = false := by simpa using hd
        rw [hd0] at c3
        have HE := Lib.hid (HY.out (by rw [hd0]; rfl))
        have HM : Hid (D.length + 1 ≤ maxLen ∧ (D.length + 1) * 8 ≤ 140737488355328) := by
          have := HP.out
          refine ⟨?_, by omega⟩
          unfold maxLen; omega
        have hwz := HB.out.size
        clear HY HNO hd hd0
        go_wp2_with (at_builtin; obtain ⟨i0, hi0', hz0, hz1, hz2⟩ := HI.out; refine wpList_append_own _ rfl _ _ 48 rfl (w.heap.size + 2) 3 i0 (.int .i64 0) 1 8 Try.underlying48 hi0' hz0 hz1 hz2 rfl (by decide) _ _ _ rfl (HO.out.alloc _) ⟨wr.heap.size, 0, none⟩ 1 1 [.int .i64 h.id] rfl rfl ?c1 ?c2 HM.out.1 HM.out.2 ?c5 ?_)
        case c1 =>
          intro j x hj
          match j, hj with
          | 0, hj => simp at hj; subst hj; simp [Addr.add]
        case c2 => intro x hx; simp at hx; subst hx; rfl
        case c5 => simp; omega
        intro v4 w4 hown4 hgrow hn'
        clear hi0' hz0 hz1 hz2
        have B4 : Below (w.heap.size + 2) wr w4 := ((Below.refl (w.heap.size + 2) wr).alloc hwz _).grown hgrow (by simp; omega) (fun j hj => (HO.out.lt j hj).1)
        have HB4 := Lib.hid (HB.out.up B4)
        obtain ⟨sv4, cv4, rfl⟩ := Is_.slice_form hown4
        have HO4 : Hid (w4.ownsRow (w.heap.size + 2) 3 1 (.slice sv4 (D.length + 1) cv4) (D ++ [h.id]).length (Is_.vs (D ++ [h.id]))) := by
          show World.ownsRow _ _ _ _ _ _ _
          rw [Is_.vs_snoc, List.length_append]
          exact hown4
        clear hown4 hgrow hn' B4
        go_wp2
        go_roundw
        case rel => exact ⟨i + 1, by go_num, HLT.out, by rw [HE.out, List.length_append]; exact ⟨sv4, cv4, rfl⟩, by rw [HE.out]; exact HO4, HB4⟩
        case measure => have := HLT.out; simp [intOf]; omega
    · obtain rfl : i = n := by omega
      have HS := Lib.hid (Is_.sl_owns HO.out)
      have HF := Lib.hid (Fr.own HO.out)
      have st5 : (Wv_.StoreF ⟨w.heap.size + 1, 0, none⟩ (.agg #[.int .i64 x.nx, .int .i64 0, .slice none 0 0, .bool false])).run Try.prog wr = .ok () (wr.setRow (w.heap.size + 1) (Wv_.C ⟨x.nx, 0, none, 0, 0, false⟩)) := HB.out.rs.storeF ⟨x.nx, 0, none, 0, 0, false⟩
      have T5 := Lib.hid (HB.out.setY ⟨x.nx, 0, none, 0, 0, false⟩)
      have HS5 := Lib.hid (is_row22 (r := w.heap.size + 1) (cs := Wv_.C ⟨x.nx, 0, none, 0, 0, false⟩) HS.out HF.out (by omega))
      go_wp2
      exact ret_wv2 Try.results35 rfl rfl T5.out.rs rfl ⟨_, sv, cv, rfl, ⟨⟨HL.out.nx, rfl, rfl, rfl, Sn_.Sl.none _⟩, T5.out.bel, Fr.none _⟩, HS5.out, HF.out.up (by omega)⟩

/-- A state and an error handed back by the reference. -/
def StErrV (p : St × Int) (w : World) (e : Ending) (w' : World) : Prop := ∃ x', e = .returned (.tuple #[Wv_.v x', .int .i64 p.2]) ∧ Lies w' x' p.1 ∧ Below w.heap.size w w'

set_option maxRecDepth 100000 in
set_option maxHeartbeats 2000000 in
theorem r22_resize_any (x : Wn) (s : St) (z : Int) (w : World) (hL : Lies w x s) :
    Calls Try.prog 33 #[Wv_.v x, .int .i64 z] w fun e w' => StErrV (resize s z) w e w' := by
  obtain ⟨w1, hw1⟩ : ∃ w1, w.alloc (.cells (Wv_.C x) 24) = w1 := ⟨_, rfl⟩
  obtain ⟨w2, hw2⟩ : ∃ w2, w1.alloc (.cells (Wv_.C zw) 24) = w2 := ⟨_, rfl⟩
  have hw2' : w1.alloc (.cells #[.int .i64 0, .int .i64 0, .slice none 0 0, .bool false] 24) = w2 := hw2
  have z1 : w1.heap.size = w.heap.size + 1 := by rw [← hw1]; simp
  have T2 := Lib.hid (TwoV.new hw1 hw2)
  have e1 := T2.out.bx.all
  have t0 : (Wv_.StoreF ⟨w.heap.size + 1, 0, none⟩ (.agg #[.int .i64 0, .int .i64 0, .slice none 0 0, .bool false])).run Try.prog w2 = .ok () (w2.setRow (w.heap.size + 1) (Wv_.C zw)) := T2.out.rs.storeF zw
  have T0 := Lib.hid (T2.out.setY zw)
  clear hw2
  have bad : ∀ (k : Int), resize s z = (zst, k) → ∀ wi, TwoV w x zw wi → StErrV (resize s z) w (.returned (.tuple #[Wv_.v zw, .int .i64 k])) wi := fun k hk wi hT => by
    rw [hk]
    exact ⟨zw, rfl, (out_zst hT.bel).lies, hT.bel⟩
  by_cases h1 : z < 0
  · have HR := Lib.hid (bad 4 (resize_bad (.inl h1)) _ T0.out)
    clear bad hL
    generalize resize s z = R at *
    go_enter Try.func33, Try.ntmps33
    go_wp2
    exact ret_wv2 Try.results33 rfl rfl T0.out.rs rfl HR.out
  by_cases h2 : 64 < z
  · have HR := Lib.hid (bad 4 (resize_bad (.inr h2)) _ T0.out)
    clear bad hL
    generalize resize s z = R at *
    go_enter Try.func33, Try.ntmps33
    go_wp2
    exact ret_wv2 Try.results33 rfl rfl T0.out.rs rfl HR.out
  have hz : ¬ (z < 0 ∨ 64 < z) := by omega
  by_cases h3 : 0 < s.l.length
  · have HR := Lib.hid (bad 9 (resize_busy hz (.inl h3)) _ T0.out)
    have hn : (0 : Int) < (x.n : Int) := by rw [hL.n]; omega
    clear bad hL hz h3
    generalize resize s z = R at *
    go_enter Try.func33, Try.ntmps33
    go_wp2
    exact ret_wv2 Try.results33 rfl rfl T0.out.rs rfl HR.out
  have hn : x.n = 0 := by rw [hL.n]; omega
  have hrx := hL.rq
  cases hq : s.rq
  · have HE := Lib.hid (resize_ok (s := s) hz (fun h => by rcases h with h | h; exact h3 h; rw [hq] at h; cases h))
    rw [HE.out]
    rw [hq] at hrx
    have f1 := T2.out.bx.frozen
    have hy : ({ x with sz := z } : Wn) = ⟨x.nx, z, x.sa, 0, x.c, false⟩ := by rw [← hn, ← hrx]
    have T3 := Lib.hid (T2.out.set1 z)
    rw [hy] at T3
    have l3 := T3.out.bx.loadF
    have t3 := T3.out.rs.storeF ⟨x.nx, z, x.sa, 0, x.c, false⟩
    have T4 := Lib.hid (T3.out.setY ⟨x.nx, z, x.sa, 0, x.c, false⟩)
    have HL4 : Hid (Lies ((w2.setCell ⟨w.heap.size, 1, none⟩ (.int .i64 z)).setRow (w.heap.size + 1) (Wv_.C ⟨x.nx, z, x.sa, 0, x.c, false⟩)) ⟨x.nx, z, x.sa, 0, x.c, false⟩ ⟨s.nx, z, [], false⟩) :=
      ⟨hL.nx, rfl, rfl, rfl, Sn_.At.nil _ _, Nat.zero_le _, hL.sl.nil⟩
    clear bad hL hz h3 T0 t0 hy
    go_enter Try.func33, Try.ntmps33
    go_wp2
    exact ret_wv2 Try.results33 rfl rfl T4.out.rs rfl ⟨_, rfl, HL4.out, T4.out.bel⟩
  · have HR := Lib.hid (bad 9 (resize_busy hz (.inr hq)) _ T0.out)
    rw [hq] at hrx
    clear bad hL hz h3
    generalize resize s z = R at *
    go_enter Try.func33, Try.ntmps33
    go_wp2
    exact ret_wv2 Try.results33 rfl rfl T0.out.rs rfl HR.out
end Go.Proofs.Ytldeflpaghbmmaa
