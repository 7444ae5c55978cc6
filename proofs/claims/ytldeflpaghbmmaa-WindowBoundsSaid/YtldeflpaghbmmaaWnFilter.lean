/-
  WALKS of package window: filter and change, for any functions; identifiers, trim.
-/
import Derived.Test.YtldeflpaghbmmaaWnProg
import Derived.Shelf.Abstract
namespace Go.Proofs.Ytldeflpaghbmmaa
open Go.RowKit Go.Wn Go.Sq Go.Wr
attribute [local go_sem ↓ high] Ww_.loadF Ww_.storeF Ww_.v_cells Ww_.v_match
attribute [local go_sem] Ww_.C0 Ww_.C1 Ww_.C2 Ww_.C3 Ww_.loadF_new Ww_.storeF_zero Oper.semAt_some

/-- A function that tells of a packet, with what it captures. -/
structure Tells (S : World → Prop) (F : FuncId) (caps : Array Value) (P : Sn → Bool) : Prop where
  go : ∀ (args : Array Value) (w : World), (callFunc F args).run Try.prog w = .ok (.enter F args) w
  call : ∀ p W, S W → Calls Try.prog F (#[Sn_.v p] ++ caps) W fun e w' => e = .returned (.bool (P p)) ∧ Below W.heap.size W w'

theorem filter_take {P : Sn → Bool} {l : List Sn} {i : Nat} (h : i < l.length) : (l.take (i + 1)).filter P = (l.take i).filter P ++ (if P l[i] then [l[i]] else []) := by
  rw [List.take_succ_eq_append_getElem h, List.filter_append]
  congr 1
  by_cases hp : P l[i] = true
  · simp [hp]
  · simp [hp]

set_option maxRecDepth 100000 in
set_option maxHeartbeats 4000000 in
theorem wn_filter_any (S : World → Prop) (F : FuncId) (caps : Array Value) (P : Sn → Bool) (T : Tells S F caps P) (sa : Option Addr) (l : List Sn) (c : Nat) (w : World) (hk : ∀ W, Below w.heap.size w W → S W) (hS : Sn_.Sl w sa l c) (hl : l.length ≤ 1000) :
    Calls Try.prog 48 #[.slice sa l.length c, .func (.func F) #[] caps] w fun e w' => ∃ v', e = .returned v' ∧ OwnSn w w' v' (l.filter P) := by
  have HI := Lib.hid (info_parts Sn_.info)
  have HS := Lib.hid hS
  have HL := Lib.hid hl
  have CK := Lib.hid T.call
  have eg := T.go
  have HK := Lib.hid hk
  clear hS hl T hk
  generalize hn : l.length = n at *
  have HN := Lib.hid hn
  clear hn
  go_enter Try.func48, Try.ntmps48
  go_wp2
  go_loopw [5, 10] (fun v z wr => ∃ i : Nat, z = .int .i64 i ∧ i ≤ n ∧ OwnSn w wr v ((l.take i).filter P)) (fun _ z _ => n - (intOf z).toNat)
  case atStart => exact ⟨0, rfl, Nat.zero_le _, World.ownsRow_nil _ _ _ _, Below.refl _ _⟩
  case round =>
    rename World => wr
    obtain ⟨i, rfl, hi, ho⟩ := hrel
    have HO := Lib.hid ho
    clear ho
    by_cases hlt : i < n
    · have hil : i < l.length := by have := HN.out; omega
      obtain ⟨b, off, hsa, hbl, k0, k1, k2, k3, k4⟩ := HS.out.lies i hil
      subst hsa
      have c0 := (HO.out.2.cell hbl).trans k0
      have c1 := (HO.out.2.cell hbl).trans k1
      have c2 := (HO.out.2.cell hbl).trans k2
      have c3 := (HO.out.2.cell hbl).trans k3
      have c4 := (HO.out.2.cell hbl).trans k4
      have HT := Lib.hid (filter_take (P := P) hil)
      have HLN : Hid (((l.take i).filter P).length ≤ 1000) := by
        show ((l.take i).filter P).length ≤ 1000
        have := List.length_filter_le P (l.take i)
        have := HN.out; have := HL.out
        rw [List.length_take] at *; omega
      generalize l[i] = h at *
      generalize (l.take i).filter P = L at *
      obtain ⟨w1, hw1⟩ : ∃ w1, wr.alloc (.cells #[.int .i64 h.id, .int .i64 h.q, .int .i64 h.tr, .bool h.dn, .string h.da] 76) = w1 := ⟨_, rfl⟩
      have X1 := (show Sn_.Box w1 wr.heap.size h from hw1 ▸ Sn_.Box.new wr h rfl)
      have HX1 := Lib.hid X1
      have lx := X1.load
      have e1 := X1.cells
      have b1 : Below wr.heap.size wr w1 := hw1 ▸ (Below.refl _ _).alloc (Nat.le_refl _) _
      have HB1 := Lib.hid (HO.out.2.trans (b1.mono HO.out.2.size))
      have HO1 := Lib.hid (owns_below22 HO.out.1 b1)
      have CH := Lib.hid (CK.out h w1 (HK.out w1 HB1.out))
      have HM : Hid (L.length + 1 ≤ maxLen ∧ (L.length + 1) * 48 ≤ 140737488355328) := by
        have := HLN.out
        refine ⟨?_, by omega⟩
        unfold maxLen; omega
      have hi1 : i ≤ 1000 := by have := HL.out; omega
      clear k0 k1 k2 k3 k4 hbl hil b1
      generalize hP : P h = p at *
      cases p
      · go_wp2_with (first
          | (go_at_fn F; refine CH.out.mono ?_; rintro e w2 ⟨rfl, hw2⟩; have HB2 := Lib.hid (HB1.out.trans (hw2.mono HB1.out.size)); have HO2 := Lib.hid (owns_below22 HO1.out hw2); clear hw2))
        have HLT := Lib.hid hlt
        go_roundw
        case rel => exact ⟨i + 1, by go_num, HLT.out, by rw [HT.out]; simpa [OwnSn] using And.intro HO2.out HB2.out⟩
        case measure => have := HLT.out; simp [intOf]; omega
      · go_wp2_with (first
          | (go_at_fn F; refine CH.out.mono ?_; rintro e w2 ⟨rfl, hw2⟩; have HB2 := Lib.hid (HB1.out.trans (hw2.mono HB1.out.size)); have HO2 := Lib.hid (owns_below22 HO1.out hw2); have l2 := (HX1.out.below hw2 HX1.out.lt).load; have e2 := (HX1.out.below hw2 HX1.out.lt).cells; clear hw2)
          | (at_builtin; obtain ⟨i0, hi0, hz0, hz1, hz2⟩ := HI.out; refine wpList_append_own _ rfl _ _ 22 rfl w.heap.size 76 i0 (.agg #[.int .i64 0, .int .i64 0, .int .i64 0, .bool false, .string ⟨#[]⟩]) 5 48 Try.underlying22 hi0 hz0 hz1 hz2 rfl (by decide) _ _ _ rfl (HO2.out.alloc _) ⟨w2.heap.size, 0, none⟩ 1 1 (Sn_.cs h) rfl rfl ?c1 ?c2 HM.out.1 HM.out.2 ?c5 ?_))
        case c1 =>
          intro j x hj
          match j, hj with
          | 0, hj => simp [Sn_.cs] at hj; subst hj; simp [Addr.add]
          | 1, hj => simp [Sn_.cs] at hj; subst hj; simp [Addr.add]
          | 2, hj => simp [Sn_.cs] at hj; subst hj; simp [Addr.add]
          | 3, hj => simp [Sn_.cs] at hj; subst hj; simp [Addr.add]
          | 4, hj => simp [Sn_.cs] at hj; subst hj; simp [Addr.add]
        case c2 => exact Sn_.flat_one h
        case c5 => have := HB2.out.size; simp; omega
        intro v4 w4 hown4 hgrow hn'
        clear hi0 hz0 hz1 hz2
        have R : Hid (OwnSn w w4 v4 (L ++ [h])) := by
          refine ⟨?_, ?_⟩
          · rw [Sn_.flat_snoc, List.length_append]
            exact hown4
          · refine Below.grown (HB2.out.alloc HB2.out.size _) hgrow (by simp; have := HB2.out.size; omega) (fun j hj => ?_)
            exact (HO2.out.lt j hj).1
        have HLT := Lib.hid hlt
        clear hown4 hgrow hn'
        go_wp2
        go_roundw
        case rel => exact ⟨i + 1, by go_num, HLT.out, by rw [HT.out]; exact R.out⟩
        case measure => have := HLT.out; simp [intOf]; omega
    · obtain rfl : i = n := by omega
      rw [show l.take i = l by rw [← HN.out, List.take_length]] at HO
      go_wp2
      go_returns
      exact ⟨_, rfl, HO.out⟩
end Go.Proofs.Ytldeflpaghbmmaa
