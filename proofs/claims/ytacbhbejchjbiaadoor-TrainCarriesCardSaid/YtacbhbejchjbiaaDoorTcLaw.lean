/-
  THE THEOREM TrainCarries, walked.
-/
import Derived.Test.YtacbhbejchjbiaaDoorTcCars
namespace Go.Proofs.YtacbhbejchjbiaaDoor
open Go.RowKit Go.Hd Go.Wr Go.Ck Go.Tc Go.Fm Go.Tn
attribute [local go_sem ↓ high] Fr_.loadF Fr_.storeF Fr_.v_cells Fr_.v_match fr_guard fr_eql fr_neq
attribute [local go_sem] Fr_.C0 Fr_.C1 Fr_.C2 Fr_.C3 Fr_.C4 Fr_.C5 Fr_.C6 Fr_.C7 Fr_.C8 Fr_.C9 Fr_.C10 Fr_.C11 Fr_.C12 Fr_.C13 Fr_.C14 Fr_.C15 Fr_.C16 Fr_.C17 Fr_.loadF_new Fr_.storeF_zero

theorem tc_decs {P s a : Nat} (h : P + s ≤ a) (ha : a ≤ 8192) : decide ((P : Int) < 0) = false ∧ IntKind.i64.wrap ((a : Int) - (s : Int)) = (a : Int) - s ∧ decide ((a : Int) - (s : Int) < (P : Int)) = false :=
  ⟨decide_eq_false (by omega), IntWalk.i64_in _ (by omega), decide_eq_false (by omega)⟩
theorem tc_ix {P j a : Nat} (h : P + j < a) (ha : a ≤ 8192) : IntKind.i64.wrap ((P : Int) + (j : Int)) = ((P + j : Nat) : Int) ∧ ((P + j : Nat) : Int) < (a : Int) ∧ (0 : Int) ≤ ((P + j : Nat) : Int) ∧ wrap64 ((P : Int) + (j : Int)) = ((P + j : Nat) : Int) :=
  ⟨by rw [IntWalk.i64_in _ (by omega)]; omega, by omega, by omega, by rw [IntWalk.wrap64_in _ (by omega)]; omega⟩
theorem belowNT {B : Nat} {w w' : World} (h : Below B w w') (n : Nat) : Below B w (w'.drewN n) := ⟨h.os, h.tape, h.output, h.size, h.block⟩
theorem ba_sizeT (l : List UInt8) : (⟨l.toArray⟩ : ByteArray).size = l.length := List.size_toArray ..

set_option maxRecDepth 100000 in
set_option maxHeartbeats 8000000 in
theorem trainCarries_walk0 (l : List Sm) (sa : Option Addr) (c : Nat) {W : World} (h : Sm_.Sl W sa l c) (hl : l.length ≤ maxLen) (hx : ∀ x ∈ l, (Lit.int .u8 x.kd).wf = true ∧ (Lit.int .u16 x.sq).wf = true ∧ (Lit.int .u8 x.ct).wf = true) (a : Int) (ha : (Lit.int .u16 a).wf = true) (v0 : Int) (hv0 : (Lit.int .u8 v0).wf = true) (_W : World) (hL : LaidFacts W) :
    Calls Tryd.prog 3 #[.slice sa l.length c, .int .u16 a, .int .u8 v0] W fun e w' => e = .returned (.bool true) ∧ Below W.heap.size W w' := by
  obtain ⟨n, rfl, hn⟩ := tc_u16 ha
  obtain ⟨v, rfl, hv⟩ := tc_u8 hv0
  have AW := Lib.hid awake17_any
  have HT := Lib.hid hL
  have HX := Lib.hid fun j (hj : j < l.length) => smw_of (hx l[j] (List.getElem_mem hj))
  unfold maxLen at hl
  clear ha hv0 hx
  by_cases h1 : (l.length : Int) < 1
  · clear hL h
    go_enter Tryd.func3, Tryd.ntmps3
    go_wp2_with (go_at_call 4; refine (AW.out _ HT.out).mono ?_; rintro e w1 ⟨rfl, hb1⟩)
    go_returns
    exact ⟨rfl, hb1⟩
  by_cases h8 : (8 : Int) < (l.length : Int)
  · clear hL h
    go_enter Tryd.func3, Tryd.ntmps3
    go_wp2_with (go_at_call 4; refine (AW.out _ HT.out).mono ?_; rintro e w1 ⟨rfl, hb1⟩)
    go_returns
    exact ⟨rfl, hb1⟩
  have HI := Lib.hid (info_parts Ss_.info)
  have H := Lib.hid h
  have hn0 : 0 < l.length := by omega
  have hn8 : l.length ≤ 8 := by omega
  have H0 := Lib.hid hn0
  have H8 := Lib.hid hn8
  clear hL h hl
  go_enter Tryd.func3, Tryd.ntmps3
  go_wp2
  go_loopw [7, 8] (fun u i wr => ∃ k : Nat, k ≤ l.length ∧ i = .int .i64 k ∧ wr.ownsRow W.heap.size 9 1 u (es (l.take k)).length (Ss_.vs (es (l.take k))) ∧ Below W.heap.size W wr ∧ ∀ j (hj : j < l.length), j < k → l[j].bo.size ≤ 200) (fun _ i _ => l.length - (intOf i).toNat)
  case atStart => exact ⟨0, Nat.zero_le _, rfl, World.ownsRow_nil _ _ _ _, Below.refl _ _, fun j _ hj => absurd hj (Nat.not_lt_zero j)⟩
  case round =>
    rename World => wr
    obtain ⟨k, hk, rfl, hown, hb, hj⟩ := hrel
    have HB := Lib.hid hb
    have HJ := Lib.hid hj
    clear hj
    by_cases hlt : k < l.length
    · obtain ⟨b, off, rfl, hbl, c0, c1, c2, c3⟩ := H.out.lies.below hb k hlt
      have HLT := Lib.hid hlt
      by_cases h200 : l[k].bo.size ≤ 200
      · have h200' : ¬ (200 : Int) < (l[k].bo.size : Int) := by omega
        have HG : Hid (∀ j (hj : j < l.length), j < k + 1 → l[j].bo.size ≤ 200) := fun j hj hjk => by
          by_cases e : j = k
          · subst e; exact h200
          · exact HJ.out j hj (by omega)
        have HN := Lib.hid (es_take hlt)
        have CF : Hid (∀ w, Calls Tryd.prog 6 #[.agg #[.int .u8 l[k].kd, .int .u16 l[k].sq, .int .u8 l[k].ct, .string l[k].bo]] w fun e w' => e = .returned (Fr_.v (frS l[k])) ∧ Below w.heap.size w w') := fun w => tcFrame_any l[k] w (HX.out k hlt)
        have CE := Lib.hid fun w h => tcEnc_any l[k] w h h200
        have hlen : (es (l.take k)).length ≤ 8 := by rw [es_len, List.length_take]; omega
        generalize frS l[k] = F at *
        generalize l[k] = x at *
        generalize enc F = E at *
        generalize es (l.take k) = L at *
        clear hbl h200 HJ hk hb
        go_wp2_with (first
          | (go_at_call 6; refine (CF.out _).mono ?_; rintro e w2 ⟨rfl, h⟩; have HB2 := Lib.hid (HB.out.trans (h.mono HB.out.size)); have hown2 := owns_below17 hown h; clear h hown)
          | (go_at_call 5; refine (CE.out _ (HT.out.bel HB2.out)).mono ?_; rintro e w3 ⟨rfl, h⟩; have HB3 := Lib.hid (HB2.out.trans (h.mono HB2.out.size)); have hown3 := owns_below17 hown2 h; clear h hown2)
          | (at_builtin; obtain ⟨i0, hi, hz0, hz1, hz2⟩ := HI.out; refine wpList_append_own _ rfl _ _ 25 rfl W.heap.size 9 i0 (.string ⟨#[]⟩) 1 16 Tryd.underlying25 hi hz0 hz1 hz2 rfl (by decide) _ _ _ rfl (hown3.alloc _) ⟨w3.heap.size, 0, none⟩ 1 1 [.string E] rfl rfl ?c1 ?c2 ?c3 ?c4 ?c5 ?_))
        case c1 =>
          intro j u hj
          match j, hj with
          | 0, hj => simp at hj; subst hj; simp [Addr.add]
        case c2 => intro u hu; simp at hu; subst hu; rfl
        case c3 => unfold maxLen; omega
        case c4 => omega
        case c5 => have := HB3.out.size; simp; omega
        intro v4 w4 hown4 hgrow hn'
        clear hi hz0 hz1 hz2
        have R : w4.ownsRow W.heap.size 9 1 v4 (L ++ [E]).length (Ss_.vs (L ++ [E])) ∧ Below W.heap.size W w4 := by
          refine ⟨?_, ?_⟩
          · rw [Ss_.vs_snoc, List.length_append]
            exact hown4
          · refine Below.grown (HB3.out.alloc HB3.out.size _) hgrow (by simp; have := HB3.out.size; omega) (fun j hj => ?_)
            exact (hown3.lt j hj).1
        have HO4 := Lib.hid R.1
        have HB4 := Lib.hid R.2
        clear hown3 hown4 hgrow hn' R
        go_wp2
        go_roundw
        case rel => exact ⟨k + 1, HLT.out, by go_num, by rw [HN.out]; exact HO4.out, HB4.out, HG.out⟩
        case measure => have := HLT.out; simp [intOf]; omega
      · have h200' : (200 : Int) < (l[k].bo.size : Int) := by omega
        generalize l[k] = x at *
        clear hb hown hbl
        go_wp2_with (go_at_call 4; refine (AW.out _ (HT.out.bel HB.out)).mono ?_; rintro e w4 ⟨rfl, h⟩; have B4 := Lib.hid (HB.out.trans (h.mono HB.out.size)); clear h)
        go_returns
        exact ⟨rfl, B4.out⟩
    · obtain rfl : k = l.length := Nat.le_antisymm hk (Nat.le_of_not_lt hlt)
      have hball : ∀ j (hj : j < l.length), l[j].bo.size ≤ 200 := fun j hj => HJ.out j hj hj
      have HBA := Lib.hid hball
      rw [List.take_length] at hown
      obtain ⟨u0, cc, rfl⟩ := Ss_.slice_form hown
      have HO := Lib.hid (Ss_.sl_owns hown)
      have he := es_ok H0.out H8.out hball
      have C1 := Lib.hid (tnEncode_any (es l) u0 cc wr HO.out.lies (by rw [es_len]; exact Nat.le_trans H8.out (by decide)) (HT.out.bel hb).tn)
      unfold EncPost at C1
      rw [he, es_len] at C1
      have hTd : (eS (es l)).data.toList = ag 0 (fs (es l)) := by rw [eS_ok he]
      have hTs := eS_le (es l)
      have hTn : (eS (es l)).size = (ag 0 (fs (es l))).length := by rw [eS_ok he, ba_sizeT]
      obtain ⟨hpx, h64⟩ := fs_pos he
      have C2 := Lib.hid fun w h => tnDecode_any (eS (es l)) w (Nat.le_trans hTs (by decide)) h
      unfold DecPost at C2
      have hcl : (cars 0 (fs (es l))).length = l.length := by rw [cars_len, fs_len, es_len]
      rw [hTd, dec_ag hpx h64, hcl] at C2
      have HPX := Lib.hid hpx
      have H64 := Lib.hid h64
      have HTS := Lib.hid hTs
      have HTN := Lib.hid hTn
      have HCL := Lib.hid hcl
      generalize eS (es l) = T at *
      have CB : Hid (∀ w : World, ∃ cap w', (convert 9 39 (.string T)).run Tryd.prog w = .ok (.slice (some ⟨w.heap.size, 0, none⟩) T.size cap) w' ∧ Oct w' w.heap.size (ag 0 (fs (es l))) ∧ Below w.heap.size w w' ∧ w.heap.size < w'.heap.size) := fun w => by
        have hcv := run_bytes_of_string (P := Tryd.prog) w 9 39 5 T Tryd.underlying9 Tryd.underlying39 Tryd.underlying5
        have ho := Oct.new w.drew T (grownCap w T.size 0 5) 5
        rw [hTd] at ho
        exact ⟨_, _, hcv, ho, (Below.refl _ _).drew.alloc (Nat.le_refl _) _, by simp⟩
      obtain ⟨bd, hbd⟩ : ∃ bd, bd = n % l.length := ⟨_, rfl⟩
      have hbl : bd < l.length := by rw [hbd]; exact Nat.mod_lt _ H0.out
      obtain ⟨r1, r2, r3, r4⟩ := tc_rem (n := l.length) hn
      rw [← hbd] at r1 r4
      have HBD := Lib.hid hbl
      rw [es_len]
      clear hball he hTd hTs hTn hpx h64 hcl hown HJ hb hbd hlt hk h1 h8 hn0 hn8
      go_wp2_with (first
        | (go_at_call 7; refine C1.out.mono ?_; rintro e w1 ⟨rfl, h⟩; have HO1 := Lib.hid (HO.out.below h); have B1 := Lib.hid (HB.out.trans (h.mono HB.out.size)); clear h)
        | (go_at_call 8; refine (C2.out _ (HT.out.bel B1.out).tn).mono ?_; rintro e w2 ⟨v2, n2, rfl, hs, h⟩; have S2 := Lib.hid hs; have HO2 := Lib.hid (HO1.out.below h); have B2 := Lib.hid (B1.out.trans (h.mono B1.out.size)); obtain ⟨cap, w3, hcv, ho, hb3, hlt3⟩ := CB.out w2; have HO3 := Lib.hid ho; have HB3 := Lib.hid hb3; have HL3 := Lib.hid hlt3; clear h hs ho hb3 hlt3))
      have hbe : bd < (es l).length := by rw [es_len]; exact HBD.out
      have hbf : bd < (fs (es l)).length := by rw [fs_len]; exact hbe
      have hbc : bd < (cars 0 (fs (es l))).length := by rw [HCL.out]; exact HBD.out
      obtain ⟨b3, off3, rfl, hb3l, e0⟩ := (HO2.out.below HB3.out).lies bd hbe
      obtain ⟨b2, off2, rfl, hb2l, d0, -⟩ := (S2.out.below HB3.out).lies bd hbc
      have hget : (cars 0 (fs (es l)))[bd] = ⟨((ps 0 (fs (es l)) bd : Nat) : Int), ⟨(fs (es l))[bd].toArray⟩⟩ := by
        have := car_at (Mx.refl (fs (es l)) 0) hbf
        rw [List.getElem?_eq_getElem hbc] at this; exact Option.some.inj this
      rw [hget] at d0
      change w3.cell? _ = some (.int .i64 ((ps 0 (fs (es l)) bd : Nat) : Int)) at d0
      have hsd : (fs (es l))[bd].length = (es l)[bd].size := by rw [fs_at hbf hbe]; exact Array.length_toList
      have hP := ps_le (fs (es l)) hbf
      rw [hsd, ← HTN.out] at hP
      have hs14 : 14 ≤ (es l)[bd].size := by rw [es_at hbe HBD.out]; exact (enc_bounds (HBA.out bd HBD.out)).1
      obtain ⟨s, hs⟩ : ∃ s, s = (es l)[bd] := ⟨_, rfl⟩
      obtain ⟨P, hPe⟩ : ∃ P, P = ps 0 (fs (es l)) bd := ⟨_, rfl⟩
      rw [← hs] at e0 hP hs14 hsd
      rw [← hPe] at d0 hP
      obtain ⟨q1, q2, q3⟩ := tc_decs hP HTS.out
      have HPS := Lib.hid hP
      have HSE := Lib.hid hs
      have HPE := Lib.hid hPe
      have HSD := Lib.hid hsd
      have HS14 := Lib.hid hs14
      have HE0 := Lib.hid e0
      have HD0 := Lib.hid d0
      have i0 : (0 : Int) ≤ (bd : Int) := Int.natCast_nonneg _
      have i1 : (bd : Int) < (l.length : Int) := Int.ofNat_lt.2 HBD.out
      clear hget hP hs14 hs hPe hsd hb2l hb3l
      go_quiet (fail)
      by_cases hv0 : v = 0
      · subst hv0
        have hv0' : ¬ (0 : Int) < ((0 : Nat) : Int) := by decide
        have HOX : Hid (Oct (w3.drewN nq) w2.heap.size (ag 0 (fs (es l)))) := HO3.out
        have BX2 : Hid (Below w2.heap.size w2 (w3.drewN nq)) := belowNT HB3.out nq
        have BX : Hid (Below W.heap.size W (w3.drewN nq)) := B2.out.trans (BX2.out.mono B2.out.size)
        generalize w3.drewN nq = wx at *
        have hm := Mx.refl (fs (es l)) 0
        have hlm : (ag 0 (fs (es l))).length = T.size := by
          have a1 := ag_len (fs (es l)) 0
          have a2 := ag_len (fs (es l)) 0
          rw [hm.len] at a1
          rw [HTN.out] <;> omega
        have hcl := HOX.out.conv (cap := cap)
        rw [hlm] at hcl
        have hT2 : (⟨(ag 0 (fs (es l))).toArray⟩ : ByteArray).size ≤ 100000 := by rw [ba_sizeT, hlm]; exact Nat.le_trans HTS.out (by decide)
        have C3 := Lib.hid (tnDecode_any ⟨(ag 0 (fs (es l))).toArray⟩ wx hT2 (HT.out.bel BX.out).tn)
        have hmn : (fs (es l)).length = l.length := by rw [hm.n, fs_len, es_len]
        unfold DecPost at C3
        rw [show Tn.dec (⟨(ag 0 (fs (es l))).toArray⟩ : ByteArray).data.toList = cars 0 (fs (es l)) from dec_ag (hm.pos HPX.out) (by rw [hm.n]; exact H64.out), cars_len, hmn] at C3
        have HMN := Lib.hid hmn
        have HMX := Lib.hid hm
        generalize (⟨(ag 0 (fs (es l))).toArray⟩ : ByteArray) = T2 at *
        clear hlm hT2 hmn hm HOX
        go_wp2_with (go_at_call 8; refine C3.out.mono ?_; rintro e w5 ⟨v5, n5, rfl, hs, h⟩; have S5 := Lib.hid hs; have B25 := Lib.hid (BX2.out.trans (h.mono BX2.out.size)); have B5 := Lib.hid (BX.out.trans (h.mono BX.out.size)); clear h hs C3)
        go_loopw [17] (fun i wr => ∃ k : Nat, k ≤ l.length ∧ i = .int .i64 k ∧ Below w5.heap.size w5 wr) (fun i _ => l.length - (intOf i).toNat)
        case atStart => exact ⟨0, Nat.zero_le _, rfl, Below.refl _ _⟩
        case round =>
          rename World => wq
          obtain ⟨i, hi, rfl, hb⟩ := hrel
          have HB := Lib.hid hb
          by_cases hlt : i < l.length
          · have HLT := Lib.hid hlt
            have him : i < (fs (es l)).length := by rw [HMN.out]; exact hlt
            have hic : i < (cars 0 (fs (es l))).length := by rw [cars_len]; exact him
            have hif : i < (fs (es l)).length := by rw [fs_len, es_len]; exact hlt
            have hie : i < (es l).length := by rw [es_len]; exact hlt
            have hil : i < (cars 0 (fs (es l))).length := by rw [HCL.out]; exact hlt
            obtain ⟨b5, off5, rfl, hb5, g0, g1⟩ := S5.out.lies i hic
            obtain ⟨b, off, rfl, hbl, c0, c1, c2, c3⟩ := (H.out.below B5.out).lies i hlt
            obtain ⟨bq, offq, heq, hbq, f0, -⟩ := (S2.out.below B25.out).lies i hil
            injection heq with heq; injection heq with heq1 heq2
            subst heq1; subst heq2
            have hg : (cars 0 (fs (es l)))[i] = ⟨((ps 0 (fs (es l)) i : Nat) : Int), ⟨(fs (es l))[i].toArray⟩⟩ := by
              have := car_at HMX.out him
              rw [List.getElem?_eq_getElem hic] at this; exact Option.some.inj this
            have hg2 : (cars 0 (fs (es l)))[i] = ⟨((ps 0 (fs (es l)) i : Nat) : Int), ⟨(fs (es l))[i].toArray⟩⟩ := by
              have := car_at (Mx.refl (fs (es l)) 0) hif
              rw [List.getElem?_eq_getElem hil] at this; exact Option.some.inj this
            rw [hg] at g0 g1
            rw [hg2] at f0
            change w5.cell? _ = some (.int .i64 ((ps 0 (fs (es l)) i : Nat) : Int)) at g0
            change w5.cell? _ = some (.string ⟨(fs (es l))[i].toArray⟩) at g1
            change w5.cell? _ = some (.int .i64 ((ps 0 (fs (es l)) i : Nat) : Int)) at f0
            have hEi : (fs (es l))[i] = (enc (frS l[i])).data.toList := (fs_at hif hie).trans (congrArg (fun s : ByteArray => s.data.toList) (es_at hie hlt))
            generalize ps 0 (fs (es l)) i = z at *
            have hpp : ((z : Int) != (z : Int)) = false := by simp
            have j0 : (0 : Int) ≤ (i : Int) := Int.natCast_nonneg _
            have j1 : (i : Int) < (l.length : Int) := Int.ofNat_lt.2 hlt
            have gq := (hb.cell (p := ⟨b5, off5 + i * 2 + 1, none⟩) hb5).trans g1
            have hEq : (⟨(fs (es l))[i].toArray⟩ : ByteArray) = enc (frS l[i]) := by rw [hEi] <;> exact Go.Fm.st_of _
            generalize (⟨(fs (es l))[i].toArray⟩ : ByteArray) = t at *
            clear hg hg2 hEi
            have CD := Lib.hid fun w h => tcDec_any l[i] w h (HBA.out i hlt)
            rw [← hEq] at CD
            have CF : Hid (∀ w, Calls Tryd.prog 6 #[.agg #[.int .u8 l[i].kd, .int .u16 l[i].sq, .int .u8 l[i].ct, .string l[i].bo]] w fun e w' => e = .returned (Fr_.v (frS l[i])) ∧ Below w.heap.size w w') := fun w => tcFrame_any l[i] w (HX.out i hlt)
            obtain ⟨bb, hbb⟩ : ∃ bb, ((i : Int) != (bd : Int)) = bb := ⟨_, rfl⟩
            generalize frS l[i] = F at *
            generalize l[i] = x at *
            have HFX := Lib.hid (And.intro hb5 (And.intro hbq (And.intro hbl (And.intro g0 (And.intro f0 (And.intro c0 (And.intro c1 (And.intro c2 c3))))))))
            have HPP := Lib.hid hpp
            have HBB := Lib.hid hbb
            clear g0 g1 f0 c0 c1 c2 c3 hb5 hbq hbl hb hpp hbb hEq
            go_wp2_with (go_at_call 9; refine (CD.out _ (HT.out.bel (B5.out.trans (HB.out.mono B5.out.size)))).mono ?_; rintro e w6 ⟨rfl, h⟩; have B56 := Lib.hid (HB.out.trans (h.mono HB.out.size)); clear h; obtain ⟨w7, hw7⟩ : ∃ w7, w6.alloc (.cells (Fr_.C F) 34) = w7 := ⟨_, rfl⟩; have J7 := Lib.hid (show Fr_.Box w7 w6.heap.size F from hw7 ▸ Fr_.Box.newC w6 F); have B57 := Lib.hid (show Below w5.heap.size w5 w7 from hw7 ▸ B56.out.alloc B56.out.size _))
            obtain ⟨hb5, hbq, hbl, g0, f0, c0, c1, c2, c3⟩ := HFX.out
            have hpp := HPP.out
            have hbb := HBB.out
            have hl : ∀ (q : Of (fun w' => Below w7.heap.size w7 w')), (Fr_.LoadF ⟨w6.heap.size, 0, none⟩).run Tryd.prog q.w = .ok (Fr_.v F) q.w := fun q => (J7.out.below q.ok J7.out.lt).loadF
            have hc : ∀ (q : Of (fun w' => Below w7.heap.size w7 w')) (ad : Addr), ad.block < w5.heap.size → q.w.cell? ad = w5.cell? ad := fun q ad had => (q.ok.cell (Nat.lt_of_lt_of_le had B57.out.size)).trans (B57.out.cell had)
            have k0 : ∀ (q : Of (fun w' => Below w7.heap.size w7 w')), q.w.cell? ⟨b5, off5 + i * 2, none⟩ = some (.int .i64 (z : Int)) := fun q => (hc q _ hb5).trans g0
            have k1 : ∀ (q : Of (fun w' => Below w7.heap.size w7 w')), q.w.cell? ⟨b2, off2 + i * 2, none⟩ = some (.int .i64 (z : Int)) := fun q => (hc q _ hbq).trans f0
            have k2 : ∀ (q : Of (fun w' => Below w7.heap.size w7 w')), q.w.cell? ⟨b, off + i * 4, none⟩ = some (.int .u8 x.kd) := fun q => (hc q _ hbl).trans c0
            have k3 : ∀ (q : Of (fun w' => Below w7.heap.size w7 w')), q.w.cell? ⟨b, off + i * 4 + 1, none⟩ = some (.int .u16 x.sq) := fun q => (hc q _ hbl).trans c1
            have k4 : ∀ (q : Of (fun w' => Below w7.heap.size w7 w')), q.w.cell? ⟨b, off + i * 4 + 2, none⟩ = some (.int .u8 x.ct) := fun q => (hc q _ hbl).trans c2
            have k5 : ∀ (q : Of (fun w' => Below w7.heap.size w7 w')), q.w.cell? ⟨b, off + i * 4 + 3, none⟩ = some (.string x.bo) := fun q => (hc q _ hbl).trans c3
            have _ne : Nonempty (Of (fun w' => Below w7.heap.size w7 w')) := ⟨⟨_, Below.refl _ _⟩⟩
            clear hc g0 f0 c0 c1 c2 c3 gq hb5 hbl hbq
            cases bb
            all_goals
              refine wp_region_of (fun w' => Below w7.heap.size w7 w') (by kernel_rfl) (Region.lexB_of_fast (by kernel_rfl)) (Below.refl w7.heap.size w7).drew ?_
              repeat (first
                | (go_big_quiet_step (first | (go_at_call 6; exact Calls.of_below (fun _ _ h hb => h.trans (hb.mono h.size)) (CF.out _))))
                | (quiet_step (first | (go_at_call 6; exact Calls.of_below (fun _ _ h hb => h.trans (hb.mono h.size)) (CF.out _)))))
              refine wpQuiet_nil ?_
              rintro _ ⟨q, rfl⟩
              have HQ := Lib.hid q.ok
              generalize q.w = w8 at *
              have hl8 := H8.out
              clear hl k0 k1 k2 k3 k4 k5
              go_wp2
              go_roundw
              case rel => exact ⟨i + 1, HLT.out, by go_num, B57.out.trans (HQ.out.mono B57.out.size)⟩
              case measure => have := HLT.out; simp [intOf]; omega
          · obtain rfl : i = l.length := Nat.le_antisymm hi (Nat.le_of_not_lt hlt)
            have B6 := Lib.hid (B5.out.trans (HB.out.mono B5.out.size))
            clear hb hlt hi
            go_wp2_with (go_at_call 4; refine (AW.out _ (HT.out.bel B6.out)).mono ?_; rintro e w7 ⟨rfl, h⟩; have B7 := Lib.hid (B6.out.trans (h.mono B6.out.size)); clear h)
            go_returns
            exact ⟨rfl, B7.out⟩
      · have hv0' : (0 : Int) < (v : Int) := Int.ofNat_lt.2 (Nat.pos_of_ne_zero hv0)
        obtain ⟨j0, hj0⟩ : ∃ j0, j0 = n % s.size := ⟨_, rfl⟩
        have hs14 := HS14.out
        have hjs : j0 < s.size := by rw [hj0]; exact Nat.mod_lt _ (Nat.lt_of_lt_of_le (by decide) hs14)
        obtain ⟨r5, r6, r7, r8⟩ := tc_rem (n := s.size) hn
        rw [← hj0] at r5 r8
        have hP := HPS.out
        have hT8 := HTS.out
        have hix : P + j0 < T.size := Nat.lt_of_lt_of_le (Nat.add_lt_add_left hjs P) hP
        obtain ⟨y1, y2, y3, y4⟩ := tc_ix hix hT8
        have hlt : P + j0 < (ag 0 (fs (es l))).length := by rw [← HTN.out]; exact hix
        obtain ⟨o1, o2⟩ := HO3.out (P + j0) hlt
        obtain ⟨z, hz⟩ : ∃ z : Nat, z = ((ag 0 (fs (es l))).getD (P + j0) 0).toNat := ⟨_, rfl⟩
        have hz8 : z < 256 := by rw [hz]; exact UInt8.toNat_lt _
        rw [← hz] at o1
        have hxor := xor_u8 hz8 hv
        have hs0 : ((s.size : Int) == 0) = false := by rw [beq_eq_false_iff_ne]; exact fun e => absurd (Int.ofNat.inj e) (Nat.ne_of_gt (Nat.lt_of_lt_of_le (by decide) hs14))
        have hse : ¬ s = ByteArray.empty := fun e => by rw [e] at hs14; exact absurd hs14 (by decide)
        have e0 := HE0.out
        have d0 := HD0.out
        have HJ0 := Lib.hid hjs
        have HZ := Lib.hid hz
        have HZ8 := Lib.hid hz8
        have HVN := Lib.hid hv0
        generalize hIX : P + j0 = ix at *
        have HIX := Lib.hid hIX
        clear hlt hz hz8 hP hT8 hs14 hjs hj0 hix hn hIX
        go_wp2
        go_region
        have HOX : Hid (Oct ((w3.drewN (nq + 1)).setCell ⟨w2.heap.size, ix, none⟩ (.int .u8 ((z ^^^ v : Nat) : Int))) w2.heap.size (ag 0 ((fs (es l)).set bd ((fs (es l))[bd].set j0 (UInt8.ofNat (z ^^^ v)))))) := by
          have o := Oct.set (show Oct (w3.drewN (nq + 1)) w2.heap.size (ag 0 (fs (es l))) from HO3.out) ix (z ^^^ v) (Nat.xor_lt_two_pow (n := 8) HZ8.out hv)
          have e := ag_set (UInt8.ofNat (z ^^^ v)) (fs (es l)) 0 bd j0 hbf (by rw [HSD.out]; exact HJ0.out)
          rw [Nat.sub_zero, ← HPE.out, HIX.out] at e
          rw [← e]; exact o
        have BX2 : Hid (Below w2.heap.size w2 ((w3.drewN (nq + 1)).setCell ⟨w2.heap.size, ix, none⟩ (.int .u8 ((z ^^^ v : Nat) : Int)))) := (belowNT HB3.out (nq + 1)).setCell (Nat.le_refl _) _
        have BX : Hid (Below W.heap.size W ((w3.drewN (nq + 1)).setCell ⟨w2.heap.size, ix, none⟩ (.int .u8 ((z ^^^ v : Nat) : Int)))) := B2.out.trans (BX2.out.mono B2.out.size)
        have hm : Mx (fs (es l)) (2 ^ bd) ((fs (es l)).set bd ((fs (es l))[bd].set j0 (UInt8.ofNat (z ^^^ v)))) := (Mx.refl (fs (es l)) (2 ^ bd)).set hbf Nat.testBit_two_pow_self j0 _
        have HMV : Hid (∀ (i : Nat) (h1 : i < ((fs (es l)).set bd ((fs (es l))[bd].set j0 (UInt8.ofNat (z ^^^ v)))).length) (h2 : i < (fs (es l)).length), ((fs (es l)).set bd ((fs (es l))[bd].set j0 (UInt8.ofNat (z ^^^ v))))[i] = if bd = i then (fs (es l))[bd].set j0 (UInt8.ofNat (z ^^^ v)) else (fs (es l))[i]) := fun i h1 h2 => List.getElem_set h1
        have hjq : j0 < (fs (es l))[bd].length := by rw [HSD.out]; exact HJ0.out
        have hbe2 : bd < (es l).length := by rw [es_len]; exact HBD.out
        have hQ : (fs (es l))[bd] = (enc (frS l[bd])).data.toList := (fs_at hbf hbe2).trans (congrArg (fun s : ByteArray => s.data.toList) (es_at hbe2 HBD.out))
        have HCD : Hid (∀ w, TcTabs w → Calls Tryd.prog 9 #[.string ⟨((fs (es l))[bd].set j0 (UInt8.ofNat (z ^^^ v))).toArray⟩] w fun e w' => e = .returned (.tuple #[Fr_.v Fr_.zf, .int .i64 5]) ∧ Below w.heap.size w w') := fun w h => by
          have g := ag_get (fs (es l)) 0 bd j0 hbf hjq
          rw [Nat.sub_zero, ← HPE.out, HIX.out] at g
          have hzz : z = ((fs (es l))[bd][j0]).toNat := by rw [HZ.out, List.getD_eq_getElem?_getD, g]; rfl
          have d := dec_changed (HBA.out bd HBD.out) hv HVN.out hQ hjq
          rw [← hzz] at d
          have c := decode_any ⟨((fs (es l))[bd].set j0 (UInt8.ofNat (z ^^^ v))).toArray⟩ w h.hd h.ck (by rw [ba_sizeT, List.length_set, hQ, Array.length_toList]; exact Nat.le_trans (enc_bounds (HBA.out bd HBD.out)).2 (by decide))
          rw [d] at c
          exact c
        clear hjq hbe2 hQ
        generalize (w3.drewN (nq + 1)).setCell ⟨w2.heap.size, ix, none⟩ (.int .u8 ((z ^^^ v : Nat) : Int)) = wx at *
        generalize (fs (es l)).set bd ((fs (es l))[bd].set j0 (UInt8.ofNat (z ^^^ v))) = M at *
        generalize (fs (es l))[bd].set j0 (UInt8.ofNat (z ^^^ v)) = Q at *
        clear hv0' r1 r2 r3 r4 r5 r6 r7 r8 q1 q2 q3 y1 y2 y3 y4 o1 o2 e0 d0 hxor hs0 hse
        have hlm : (ag 0 M).length = T.size := by
          have a1 := ag_len M 0
          have a2 := ag_len (fs (es l)) 0
          rw [hm.len] at a1
          rw [HTN.out] <;> omega
        have hcl := HOX.out.conv (cap := cap)
        rw [hlm] at hcl
        have hT2 : (⟨(ag 0 M).toArray⟩ : ByteArray).size ≤ 100000 := by rw [ba_sizeT, hlm]; exact Nat.le_trans HTS.out (by decide)
        have C3 := Lib.hid (tnDecode_any ⟨(ag 0 M).toArray⟩ wx hT2 (HT.out.bel BX.out).tn)
        have hmn : M.length = l.length := by rw [hm.n, fs_len, es_len]
        unfold DecPost at C3
        rw [show Tn.dec (⟨(ag 0 M).toArray⟩ : ByteArray).data.toList = cars 0 M from dec_ag (hm.pos HPX.out) (by rw [hm.n]; exact H64.out), cars_len, hmn] at C3
        have HMN := Lib.hid hmn
        have HMX := Lib.hid hm
        generalize (⟨(ag 0 M).toArray⟩ : ByteArray) = T2 at *
        clear hlm hT2 hmn hm HOX
        go_wp2_with (go_at_call 8; refine C3.out.mono ?_; rintro e w5 ⟨v5, n5, rfl, hs, h⟩; have S5 := Lib.hid hs; have B25 := Lib.hid (BX2.out.trans (h.mono BX2.out.size)); have B5 := Lib.hid (BX.out.trans (h.mono BX.out.size)); clear h hs C3)
        go_loopw [17] (fun i wr => ∃ k : Nat, k ≤ l.length ∧ i = .int .i64 k ∧ Below w5.heap.size w5 wr) (fun i _ => l.length - (intOf i).toNat)
        case atStart => exact ⟨0, Nat.zero_le _, rfl, Below.refl _ _⟩
        case round =>
          rename World => wq
          obtain ⟨i, hi, rfl, hb⟩ := hrel
          have HB := Lib.hid hb
          by_cases hlt : i < l.length
          · have HLT := Lib.hid hlt
            have him : i < M.length := by rw [HMN.out]; exact hlt
            have hic : i < (cars 0 M).length := by rw [cars_len]; exact him
            have hif : i < (fs (es l)).length := by rw [fs_len, es_len]; exact hlt
            have hie : i < (es l).length := by rw [es_len]; exact hlt
            have hil : i < (cars 0 (fs (es l))).length := by rw [HCL.out]; exact hlt
            obtain ⟨b5, off5, rfl, hb5, g0, g1⟩ := S5.out.lies i hic
            obtain ⟨b, off, rfl, hbl, c0, c1, c2, c3⟩ := (H.out.below B5.out).lies i hlt
            obtain ⟨bq, offq, heq, hbq, f0, -⟩ := (S2.out.below B25.out).lies i hil
            injection heq with heq; injection heq with heq1 heq2
            subst heq1; subst heq2
            have hg : (cars 0 M)[i] = ⟨((ps 0 (fs (es l)) i : Nat) : Int), ⟨M[i].toArray⟩⟩ := by
              have := car_at HMX.out him
              rw [List.getElem?_eq_getElem hic] at this; exact Option.some.inj this
            have hg2 : (cars 0 (fs (es l)))[i] = ⟨((ps 0 (fs (es l)) i : Nat) : Int), ⟨(fs (es l))[i].toArray⟩⟩ := by
              have := car_at (Mx.refl (fs (es l)) 0) hif
              rw [List.getElem?_eq_getElem hil] at this; exact Option.some.inj this
            rw [hg] at g0 g1
            rw [hg2] at f0
            change w5.cell? _ = some (.int .i64 ((ps 0 (fs (es l)) i : Nat) : Int)) at g0
            change w5.cell? _ = some (.string ⟨M[i].toArray⟩) at g1
            change w5.cell? _ = some (.int .i64 ((ps 0 (fs (es l)) i : Nat) : Int)) at f0
            have hEi : (fs (es l))[i] = (enc (frS l[i])).data.toList := (fs_at hif hie).trans (congrArg (fun s : ByteArray => s.data.toList) (es_at hie hlt))
            generalize ps 0 (fs (es l)) i = z at *
            have hpp : ((z : Int) != (z : Int)) = false := by simp
            have j0 : (0 : Int) ≤ (i : Int) := Int.natCast_nonneg _
            have j1 : (i : Int) < (l.length : Int) := Int.ofNat_lt.2 hlt
            have gq := (hb.cell (p := ⟨b5, off5 + i * 2 + 1, none⟩) hb5).trans g1
            by_cases hib : i = bd
            · have hbX := hbl
              subst hib
              have hMi : M[i] = Q := by rw [HMV.out i him hif, if_pos rfl]
              rw [hMi] at g1 gq
              clear hg hg2 hEi hMi
              generalize (⟨Q.toArray⟩ : ByteArray) = t at *
              have CD := HCD
              have hbb : ((i : Int) != (i : Int)) = false := by rw [bne_eq_false_iff_eq]
              generalize Fr_.zf = F at *
              generalize l[i] = x at *
              have HFX := Lib.hid (And.intro hb5 (And.intro hbq (And.intro hbX (And.intro g0 (And.intro f0 (And.intro c0 (And.intro c1 (And.intro c2 c3))))))))
              have HPP := Lib.hid hpp
              have HBB := Lib.hid hbb
              clear g0 g1 f0 c0 c1 c2 c3 hb5 hbq hbl hb hpp hbb
              go_wp2_with (go_at_call 9; refine (CD.out _ (HT.out.bel (B5.out.trans (HB.out.mono B5.out.size)))).mono ?_; rintro e w6 ⟨rfl, h⟩; have B56 := Lib.hid (HB.out.trans (h.mono HB.out.size)); clear h; obtain ⟨w7, hw7⟩ : ∃ w7, w6.alloc (.cells (Fr_.C F) 34) = w7 := ⟨_, rfl⟩; have J7 := Lib.hid (show Fr_.Box w7 w6.heap.size F from hw7 ▸ Fr_.Box.newC w6 F); have B57 := Lib.hid (show Below w5.heap.size w5 w7 from hw7 ▸ B56.out.alloc B56.out.size _))
              obtain ⟨hb5, hbq, hbl, g0, f0, c0, c1, c2, c3⟩ := HFX.out
              have hpp := HPP.out
              have hbb := HBB.out
              have hvb : ((v : Int) == 0) = false := by rw [beq_eq_false_iff_ne]; exact fun e => absurd (Int.ofNat.inj e) HVN.out
              have h50 : ((5 : Int) == 0) = false := by decide
              have hl : ∀ (q : Of (fun w' => Below w7.heap.size w7 w')), (Fr_.LoadF ⟨w6.heap.size, 0, none⟩).run Tryd.prog q.w = .ok (Fr_.v F) q.w := fun q => (J7.out.below q.ok J7.out.lt).loadF
              have hc : ∀ (q : Of (fun w' => Below w7.heap.size w7 w')) (ad : Addr), ad.block < w5.heap.size → q.w.cell? ad = w5.cell? ad := fun q ad had => (q.ok.cell (Nat.lt_of_lt_of_le had B57.out.size)).trans (B57.out.cell had)
              have k0 : ∀ (q : Of (fun w' => Below w7.heap.size w7 w')), q.w.cell? ⟨b5, off5 + i * 2, none⟩ = some (.int .i64 (z : Int)) := fun q => (hc q _ hb5).trans g0
              have k1 : ∀ (q : Of (fun w' => Below w7.heap.size w7 w')), q.w.cell? ⟨b2, off2 + i * 2, none⟩ = some (.int .i64 (z : Int)) := fun q => (hc q _ hbq).trans f0
              have k2 : ∀ (q : Of (fun w' => Below w7.heap.size w7 w')), q.w.cell? ⟨b, off + i * 4, none⟩ = some (.int .u8 x.kd) := fun q => (hc q _ hbl).trans c0
              have k3 : ∀ (q : Of (fun w' => Below w7.heap.size w7 w')), q.w.cell? ⟨b, off + i * 4 + 1, none⟩ = some (.int .u16 x.sq) := fun q => (hc q _ hbl).trans c1
              have k4 : ∀ (q : Of (fun w' => Below w7.heap.size w7 w')), q.w.cell? ⟨b, off + i * 4 + 2, none⟩ = some (.int .u8 x.ct) := fun q => (hc q _ hbl).trans c2
              have k5 : ∀ (q : Of (fun w' => Below w7.heap.size w7 w')), q.w.cell? ⟨b, off + i * 4 + 3, none⟩ = some (.string x.bo) := fun q => (hc q _ hbl).trans c3
              have _ne : Nonempty (Of (fun w' => Below w7.heap.size w7 w')) := ⟨⟨_, Below.refl _ _⟩⟩
              clear hc g0 f0 c0 c1 c2 c3 gq hb5 hbl hbq
              focus
                refine wp_region_of (fun w' => Below w7.heap.size w7 w') (by kernel_rfl) (Region.lexB_of_fast (by kernel_rfl)) (Below.refl w7.heap.size w7).drew ?_
                repeat (first | (go_big_quiet_step (fail)) | (quiet_step (fail)))
                refine wpQuiet_nil ?_
                rintro _ ⟨q, rfl⟩
                have HQ := Lib.hid q.ok
                generalize q.w = w8 at *
                have hl8 := H8.out
                clear hl k0 k1 k2 k3 k4 k5
                go_wp2
                go_roundw
                case rel => exact ⟨i + 1, HLT.out, by go_num, B57.out.trans (HQ.out.mono B57.out.size)⟩
                case measure => have := HLT.out; simp [intOf]; omega
            · have hMi : M[i] = (fs (es l))[i] := by rw [HMV.out i him hif, if_neg fun e => hib e.symm]
              have hEq : (⟨M[i].toArray⟩ : ByteArray) = enc (frS l[i]) := by rw [hMi, hEi] <;> exact Go.Fm.st_of _
              generalize (⟨M[i].toArray⟩ : ByteArray) = t at *
              clear hg hg2 hEi hMi
              have CD := Lib.hid fun w h => tcDec_any l[i] w h (HBA.out i hlt)
              rw [← hEq] at CD
              have CF : Hid (∀ w, Calls Tryd.prog 6 #[.agg #[.int .u8 l[i].kd, .int .u16 l[i].sq, .int .u8 l[i].ct, .string l[i].bo]] w fun e w' => e = .returned (Fr_.v (frS l[i])) ∧ Below w.heap.size w w') := fun w => tcFrame_any l[i] w (HX.out i hlt)
              have hbb : ((i : Int) != (bd : Int)) = true := by rw [bne_iff_ne]; exact fun e => hib (Int.ofNat.inj e)
              generalize frS l[i] = F at *
              generalize l[i] = x at *
              have HFX := Lib.hid (And.intro hb5 (And.intro hbq (And.intro hbl (And.intro g0 (And.intro f0 (And.intro c0 (And.intro c1 (And.intro c2 c3))))))))
              have HPP := Lib.hid hpp
              have HBB := Lib.hid hbb
              clear g0 g1 f0 c0 c1 c2 c3 hb5 hbq hbl hb hpp hbb hEq
              go_wp2_with (go_at_call 9; refine (CD.out _ (HT.out.bel (B5.out.trans (HB.out.mono B5.out.size)))).mono ?_; rintro e w6 ⟨rfl, h⟩; have B56 := Lib.hid (HB.out.trans (h.mono HB.out.size)); clear h; obtain ⟨w7, hw7⟩ : ∃ w7, w6.alloc (.cells (Fr_.C F) 34) = w7 := ⟨_, rfl⟩; have J7 := Lib.hid (show Fr_.Box w7 w6.heap.size F from hw7 ▸ Fr_.Box.newC w6 F); have B57 := Lib.hid (show Below w5.heap.size w5 w7 from hw7 ▸ B56.out.alloc B56.out.size _))
              obtain ⟨hb5, hbq, hbl, g0, f0, c0, c1, c2, c3⟩ := HFX.out
              have hpp := HPP.out
              have hbb := HBB.out
              have hl : ∀ (q : Of (fun w' => Below w7.heap.size w7 w')), (Fr_.LoadF ⟨w6.heap.size, 0, none⟩).run Tryd.prog q.w = .ok (Fr_.v F) q.w := fun q => (J7.out.below q.ok J7.out.lt).loadF
              have hc : ∀ (q : Of (fun w' => Below w7.heap.size w7 w')) (ad : Addr), ad.block < w5.heap.size → q.w.cell? ad = w5.cell? ad := fun q ad had => (q.ok.cell (Nat.lt_of_lt_of_le had B57.out.size)).trans (B57.out.cell had)
              have k0 : ∀ (q : Of (fun w' => Below w7.heap.size w7 w')), q.w.cell? ⟨b5, off5 + i * 2, none⟩ = some (.int .i64 (z : Int)) := fun q => (hc q _ hb5).trans g0
              have k1 : ∀ (q : Of (fun w' => Below w7.heap.size w7 w')), q.w.cell? ⟨b2, off2 + i * 2, none⟩ = some (.int .i64 (z : Int)) := fun q => (hc q _ hbq).trans f0
              have k2 : ∀ (q : Of (fun w' => Below w7.heap.size w7 w')), q.w.cell? ⟨b, off + i * 4, none⟩ = some (.int .u8 x.kd) := fun q => (hc q _ hbl).trans c0
              have k3 : ∀ (q : Of (fun w' => Below w7.heap.size w7 w')), q.w.cell? ⟨b, off + i * 4 + 1, none⟩ = some (.int .u16 x.sq) := fun q => (hc q _ hbl).trans c1
              have k4 : ∀ (q : Of (fun w' => Below w7.heap.size w7 w')), q.w.cell? ⟨b, off + i * 4 + 2, none⟩ = some (.int .u8 x.ct) := fun q => (hc q _ hbl).trans c2
              have k5 : ∀ (q : Of (fun w' => Below w7.heap.size w7 w')), q.w.cell? ⟨b, off + i * 4 + 3, none⟩ = some (.string x.bo) := fun q => (hc q _ hbl).trans c3
              have _ne : Nonempty (Of (fun w' => Below w7.heap.size w7 w')) := ⟨⟨_, Below.refl _ _⟩⟩
              clear hc g0 f0 c0 c1 c2 c3 gq hb5 hbl hbq
              focus
                refine wp_region_of (fun w' => Below w7.heap.size w7 w') (by kernel_rfl) (Region.lexB_of_fast (by kernel_rfl)) (Below.refl w7.heap.size w7).drew ?_
                repeat (first
                  | (go_big_quiet_step (first | (go_at_call 6; exact Calls.of_below (fun _ _ h hb => h.trans (hb.mono h.size)) (CF.out _))))
                  | (quiet_step (first | (go_at_call 6; exact Calls.of_below (fun _ _ h hb => h.trans (hb.mono h.size)) (CF.out _)))))
                refine wpQuiet_nil ?_
                rintro _ ⟨q, rfl⟩
                have HQ := Lib.hid q.ok
                generalize q.w = w8 at *
                have hl8 := H8.out
                clear hl k0 k1 k2 k3 k4 k5
                go_wp2
                go_roundw
                case rel => exact ⟨i + 1, HLT.out, by go_num, B57.out.trans (HQ.out.mono B57.out.size)⟩
                case measure => have := HLT.out; simp [intOf]; omega
          · obtain rfl : i = l.length := Nat.le_antisymm hi (Nat.le_of_not_lt hlt)
            have B6 := Lib.hid (B5.out.trans (HB.out.mono B5.out.size))
            clear hb hlt hi
            go_wp2_with (go_at_call 4; refine (AW.out _ (HT.out.bel B6.out)).mono ?_; rintro e w7 ⟨rfl, h⟩; have B7 := Lib.hid (B6.out.trans (h.mono B6.out.size)); clear h)
            go_returns
            exact ⟨rfl, B7.out⟩
end Go.Proofs.YtacbhbejchjbiaaDoor
