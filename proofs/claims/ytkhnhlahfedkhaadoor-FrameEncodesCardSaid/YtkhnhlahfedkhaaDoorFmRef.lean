/-
  WALKS of the reference of layer 12: Length, Encode, word, Text.
-/
import Derived.Test.YtkhnhlahfedkhaaDoorFmTxt
import Derived.Test.YtkhnhlahfedkhaaDoorFmSum
import Derived.Test.YtkhnhlahfedkhaaDoorHdRefOct2
import Derived.Test.YtkhnhlahfedkhaaDoorHdCheck
import Derived.Test.YtkhnhlahfedkhaaDoorAdText
import Derived.Test.YtkhnhlahfedkhaaDoorDec
namespace Go.Proofs.YtkhnhlahfedkhaaDoor
open Go.RowKit Go.Hd Go.Wr Go.Ad Go.Ck Go.Fm
attribute [local go_sem ↓ high] Fr_.loadF Fr_.storeF Fr_.v_cells Fr_.v_match
attribute [local go_sem] Fr_.C0 Fr_.C1 Fr_.C2 Fr_.C3 Fr_.C4 Fr_.C5 Fr_.C6 Fr_.C7 Fr_.C8 Fr_.C9 Fr_.C10 Fr_.C11 Fr_.C12 Fr_.C13 Fr_.C14 Fr_.C15 Fr_.C16 Fr_.C17 Fr_.storeF_zero

set_option maxRecDepth 100000 in
set_option maxHeartbeats 4000000 in
theorem refLen12_any (f : Fr) (w : World) :
    Calls Tryd.prog 11 #[Fr_.v f] w fun e w' => e = .returned (.int .i64 (flen f)) ∧ Below w.heap.size w w' := by
  have CC := Lib.hid (refCheck_any f)
  have CL := Lib.hid (refLength_any f)
  have S1 := Lib.hid (Stf.new w f)
  have e1 := S1.out.box.loadF
  by_cases h0 : chk f = 0
  · have hb0 := bo_le h0
    have hl := oct_len_is h0
    have hl2 := oct_len f
    have w1 : RowKit.wrap64 (len f + f.bo.size) = len f + f.bo.size := IntWalk.wrap64_in _ (by omega)
    have w2 : RowKit.wrap64 (len f + f.bo.size + 4) = len f + f.bo.size + 4 := IntWalk.wrap64_in _ (by omega)
    have w3 : IntKind.i64.wrap (len f + f.bo.size) = len f + f.bo.size := IntWalk.i64_in _ (by omega)
    have w4 : IntKind.i64.wrap (len f + f.bo.size + 4) = len f + f.bo.size + 4 := IntWalk.i64_in _ (by omega)
    rw [show flen f = len f + f.bo.size + 4 from if_pos h0]
    rw [h0] at CC
    generalize len f = l at *
    clear h0 hl hl2 hb0
    go_enter Tryd.func11, Tryd.ntmps11
    go_wp2_with (go_at_call 22; refine (CC.out _).mono ?_; rintro e w2 ⟨rfl, hb⟩; have S2 := Lib.hid (Stf.keep _ _ S1.out hb); clear hb e1)
    have hc : ∀ (p : Of (Stf w w.heap.size f)) (j : Nat), p.w.cell? ⟨w.heap.size, j, none⟩ = (Fr_.C f)[j]? := fun p => p.ok.box.all
    have hlf : ∀ (p : Of (Stf w w.heap.size f)), (Fr_.LoadF ⟨w.heap.size, 0, none⟩).run Tryd.prog p.w = .ok (Fr_.v f) p.w := fun p => p.ok.box.loadF
    have _ne : Nonempty (Of (Stf w w.heap.size f)) := ⟨⟨_, S2.out⟩⟩
    refine wp_region_of (Stf w w.heap.size f) (by kernel_rfl) (by kernel_rfl) S2.out.drew ?_
    repeat (quiet_step (first | (go_at_call 26; exact Calls.of_below Stf.keep (CL.out _))))
    refine wpQuiet_nil ?_
    rintro _ ⟨p, rfl⟩
    go_wp2
    go_returns
    exact ⟨rfl, p.ok.bel⟩
  · rw [show flen f = 0 from if_neg h0]
    have hne : (chk f != 0) = true := by rw [bne_iff_ne]; exact h0
    generalize chk f = c at *
    clear h0 CL
    go_enter Tryd.func11, Tryd.ntmps11
    go_wp2_with (go_at_call 22; refine (CC.out _).mono ?_; rintro e w2 ⟨rfl, hb⟩; have S2 := Lib.hid (Stf.keep _ _ S1.out hb); clear hb e1)
    go_returns
    exact ⟨rfl, S2.out.bel⟩

set_option maxRecDepth 100000 in
set_option maxHeartbeats 4000000 in
theorem refEncode_any (f : Fr) (w : World) (hu : FrU f) :
    Calls Tryd.prog 9 #[Fr_.v f] w fun e w' => e = .returned (.tuple #[.string (enc f), .int .i64 (chk f)]) ∧ Below w.heap.size w w' := by
  have CC := Lib.hid (refCheck_any f)
  have S1 := Lib.hid (Stf.new w f)
  have e1 := S1.out.box.loadF
  by_cases h0 : chk f = 0
  · have hb0 := bo_le h0
    have hl2 := oct_len f
    have hok := okf_of h0
    rw [show enc f = Go.Fm.st (sealed (body f)) from if_pos h0]
    have hbs : f.bo.data.toList.length = f.bo.size := Array.length_toList
    rw [h0] at CC ⊢
    have CO := Lib.hid (fun w => refOctets10_any f w hok hu)
    have CS : Hid (∀ w', Calls Tryd.prog 23 #[.string (Go.Fm.st (body f))] w' fun e w'' => e = .returned (.string (Go.Fm.st (sealed (body f)))) ∧ Below w'.heap.size w' w'') := fun w' => by
      have := refSeal_any (Go.Fm.st (body f)) w' (by rw [st_size]; unfold body; rw [List.length_append]; omega)
      rw [st_data] at this
      exact this
    have a1 : ∀ W, (Op.stringOp .add (bs (oct f)) f.bo).run Tryd.prog W = .ok (.string (Go.Fm.st (body f))) W := fun W => by
      have := st_add (oct f) f.bo.data.toList (body f) (by omega) rfl W
      rw [st_of] at this
      exact this
    generalize Go.Fm.st (sealed (body f)) = z at *
    generalize Go.Fm.st (body f) = y at *
    generalize bs (oct f) = O at *
    clear hu h0 hl2 hb0 hok hbs
    go_enter Tryd.func9, Tryd.ntmps9
    go_wp2_with (go_at_call 22; refine (CC.out _).mono ?_; rintro e w2 ⟨rfl, hb⟩; have S2 := Lib.hid (Stf.keep _ _ S1.out hb); clear hb e1)
    have hc : ∀ (p : Of (Stf w w.heap.size f)) (j : Nat), p.w.cell? ⟨w.heap.size, j, none⟩ = (Fr_.C f)[j]? := fun p => p.ok.box.all
    have hlf : ∀ (p : Of (Stf w w.heap.size f)), (Fr_.LoadF ⟨w.heap.size, 0, none⟩).run Tryd.prog p.w = .ok (Fr_.v f) p.w := fun p => p.ok.box.loadF
    have _ne : Nonempty (Of (Stf w w.heap.size f)) := ⟨⟨_, S2.out⟩⟩
    refine wp_region_of (Stf w w.heap.size f) (by kernel_rfl) (by kernel_rfl) S2.out.drew ?_
    repeat (quiet_step (first
      | (go_at_call 24; exact Calls.of_below Stf.keep (CO.out _))
      | (go_at_call 23; exact Calls.of_below Stf.keep (CS.out _))))
    refine wpQuiet_nil ?_
    rintro _ ⟨p, rfl⟩
    go_wp2
    go_returns
    exact ⟨rfl, p.ok.bel⟩
  · rw [show enc f = ⟨#[]⟩ from if_neg h0]
    have hne : (chk f != 0) = true := by rw [bne_iff_ne]; exact h0
    generalize chk f = c at *
    clear h0 hu
    go_enter Tryd.func9, Tryd.ntmps9
    go_wp2_with (go_at_call 22; refine (CC.out _).mono ?_; rintro e w2 ⟨rfl, hb⟩; have S2 := Lib.hid (Stf.keep _ _ S1.out hb); clear hb e1)
    go_returns
    exact ⟨rfl, S2.out.bel⟩

set_option maxHeartbeats 1000000 in
theorem word_any (b : Bool) (l : List UInt8) (hl : l.length ≤ 100) (s : ByteArray) (hs : s = Go.Fm.st l) (w : World) :
    Calls Tryd.prog 35 #[.bool b, .string s] w fun e w' => e = .returned (.string (Go.Fm.st (wd b l))) ∧ w = w' := by
  have a1 : ∀ W, (Op.stringOp .add ⟨#[32]⟩ s).run Tryd.prog W = .ok (.string (Go.Fm.st (32 :: l))) W := fun W => by
    rw [hs]
    exact st_add [32] l _ (by simp only [List.length_cons, List.length_nil]; omega) rfl W
  clear hs hl
  cases b
  all_goals
    go_enter Tryd.func35, Tryd.ntmps35
    go_wp2
    go_returns
    exact ⟨rfl, rfl⟩

theorem refDec_int (n : Int) (h : 0 ≤ n ∧ n < 1000000000) (w : World) :
    Calls Tryd.prog 34 #[.int .i64 n] w fun e w' => e = .returned (.string (Go.Fm.st (dd n))) ∧ Below w.heap.size w w' := by
  have := refDec_any n.toNat (by omega) w
  rw [Int.toNat_of_nonneg h.1] at this
  exact this
theorem refTxt_int (a : Int) (h : 0 ≤ a ∧ a < 281474976710656) (w : World) :
    Calls Tryd.prog 32 #[.int .u64 a] w fun e w' => e = .returned (.string (Go.Fm.st (txt a.toNat))) ∧ Below w.heap.size w w' := by
  have := refText5_any a.toNat w (by omega)
  rw [Int.toNat_of_nonneg h.1] at this
  exact this

set_option maxRecDepth 100000 in
set_option maxHeartbeats 8000000 in
theorem refText12_any (f : Fr) (w : World) :
    Calls Tryd.prog 13 #[Fr_.v f] w fun e w' => e = .returned (.string (Go.Fm.text f)) ∧ Below w.heap.size w w' := by
  have CC := Lib.hid (refCheck_any f)
  have S1 := Lib.hid (Stf.new w f)
  have e1 := S1.out.box.loadF
  by_cases h0 : chk f = 0
  · have hn := nums_of h0
    rw [show Go.Fm.text f = Go.Fm.st (t2 f ++ fl f) from if_pos h0]
    rw [h0] at CC
    have CN := Lib.hid (refName_any f.kd)
    have CT := Lib.hid (refTxt_int f.ta hn.ta)
    have CF : ¬ f.fa = 0 → Hid (∀ w, Calls Tryd.prog 32 #[.int .u64 f.fa] w fun e w' => e = .returned (.string (Go.Fm.st (frm f))) ∧ Below w.heap.size w w') := fun h w => by
      rw [show frm f = txt f.fa.toNat from if_neg h]
      exact refTxt_int f.fa hn.fa w
    have I1 := Lib.hid (refDec_int f.sq hn.sq)
    have I2 := Lib.hid (refDec_int f.fg hn.fg)
    have I3 := Lib.hid (refDec_int f.ct hn.ct)
    have I4 := Lib.hid (refDec_int (f.bo.size : Int) ⟨by omega, by have := hn.bo; omega⟩)
    have V1 := Lib.hid (word_any f.rt retryT (by decide) ⟨#[114, 101, 116, 114, 121]⟩ rfl)
    have V2 := Lib.hid (word_any f.mo moreT (by decide) ⟨#[109, 111, 114, 101]⟩ rfl)
    have V3 := Lib.hid (word_any f.pw powerT (by decide) ⟨#[112, 111, 119, 101, 114]⟩ rfl)
    have V4 := Lib.hid (word_any f.st storedT (by decide) ⟨#[115, 116, 111, 114, 101, 100]⟩ rfl)
    have V5 := Lib.hid (word_any f.la lastT (by decide) ⟨#[108, 97, 115, 116]⟩ rfl)
    obtain ⟨a1, a2, a3, a4, a5, a6, a7, a8, a9, a10, a11, a12, hl, hlen⟩ := adds_of hn
    have l1 := wd_len f.rt retryT
    have l2 := wd_len f.mo moreT
    have l3 := wd_len f.pw powerT
    have l4 := wd_len f.st storedT
    have l5 := wd_len f.la lastT
    have k1 := flk_len f 1
    have k2 := flk_len f 2
    have k3 := flk_len f 3
    have k4 := flk_len f 4
    simp only [retryT, moreT, powerT, storedT, lastT, List.length_cons, List.length_nil] at l1 l2 l3 l4 l5
    have v1 : ∀ W, (Op.stringOp .add (Go.Fm.st (lp f 12)) (Go.Fm.st (wd f.rt retryT))).run Tryd.prog W = .ok (.string (Go.Fm.st (t2 f ++ flk f 1))) W := st_add (t2 f) _ _ (by simp only [retryT]; omega) rfl
    have v2 : ∀ W, (Op.stringOp .add (Go.Fm.st (t2 f ++ flk f 1)) (Go.Fm.st (wd f.mo moreT))).run Tryd.prog W = .ok (.string (Go.Fm.st (t2 f ++ flk f 2))) W := st_add _ _ _ (by rw [List.length_append]; simp only [moreT]; omega) (List.append_assoc ..)
    have v3 : ∀ W, (Op.stringOp .add (Go.Fm.st (t2 f ++ flk f 2)) (Go.Fm.st (wd f.pw powerT))).run Tryd.prog W = .ok (.string (Go.Fm.st (t2 f ++ flk f 3))) W := st_add _ _ _ (by rw [List.length_append]; simp only [powerT]; omega) (List.append_assoc ..)
    have v4 : ∀ W, (Op.stringOp .add (Go.Fm.st (t2 f ++ flk f 3)) (Go.Fm.st (wd f.st storedT))).run Tryd.prog W = .ok (.string (Go.Fm.st (t2 f ++ flk f 4))) W := st_add _ _ _ (by rw [List.length_append]; simp only [storedT]; omega) (List.append_assoc ..)
    have v5 : ∀ W, (Op.stringOp .add (Go.Fm.st (t2 f ++ flk f 4)) (Go.Fm.st (wd f.la lastT))).run Tryd.prog W = .ok (.string (Go.Fm.st (t2 f ++ fl f))) W := st_add _ _ _ (by rw [List.length_append]; simp only [lastT]; omega) (List.append_assoc ..)
    have HF : f.fa = 0 → Hid (Go.Fm.st (frm f) = ⟨#[45]⟩) := fun h => by unfold Hid frm; rw [if_pos h]; rfl
    clear hl hlen l1 l2 l3 l4 l5 k1 k2 k3 k4
    generalize Go.Fm.st (t2 f ++ fl f) = z at *
    generalize Go.Fm.st (t2 f ++ flk f 1) = z1 at *
    generalize Go.Fm.st (t2 f ++ flk f 2) = z2 at *
    generalize Go.Fm.st (t2 f ++ flk f 3) = z3 at *
    generalize Go.Fm.st (t2 f ++ flk f 4) = z4 at *
    generalize Go.Fm.st (wd f.rt retryT) = y1 at *
    generalize Go.Fm.st (wd f.mo moreT) = y2 at *
    generalize Go.Fm.st (wd f.pw powerT) = y3 at *
    generalize Go.Fm.st (wd f.st storedT) = y4 at *
    generalize Go.Fm.st (wd f.la lastT) = y5 at *
    generalize nm f.kd = s1 at *
    generalize Go.Fm.st (txt f.ta.toNat) = s2 at *
    generalize Go.Fm.st (frm f) = s3 at *
    generalize Go.Fm.st (dd f.sq) = s4 at *
    generalize Go.Fm.st (dd f.fg) = s5 at *
    generalize Go.Fm.st (dd f.ct) = s6 at *
    generalize Go.Fm.st (dd f.bo.size) = s7 at *
    clear h0 hn
    by_cases hfa : f.fa = 0
    case' pos =>
      have hq : (f.fa != 0) = false := by rw [hfa]; rfl
      obtain rfl := (HF hfa).out
      have CF := CN
    case' neg =>
      have hq : (f.fa != 0) = true := by rw [bne_iff_ne]; exact hfa
      have CF := CF hfa
    all_goals
      clear HF hfa
      go_enter Tryd.func13, Tryd.ntmps13
      go_wp2_with (first
        | (go_at_call 22; refine (CC.out _).mono ?_; rintro e w2 ⟨rfl, hb⟩; have S2 := Lib.hid (Stf.keep _ _ S1.out hb); clear hb e1; have e2 := S2.out.box.all)
        | (go_at_call 32; refine (CF.out _).mono ?_; rintro e w2' ⟨rfl, hb⟩; have S2' := Lib.hid (Stf.keep _ _ S2.out hb); clear hb e2 S2; have S2 := S2'))
      have hc : ∀ (p : Of (Stf w w.heap.size f)) (j : Nat), p.w.cell? ⟨w.heap.size, j, none⟩ = (Fr_.C f)[j]? := fun p => p.ok.box.all
      have _ne : Nonempty (Of (Stf w w.heap.size f)) := ⟨⟨_, S2.out⟩⟩
      refine wp_region_of (Stf w w.heap.size f) (by kernel_rfl) (by kernel_rfl) S2.out.drew ?_
      repeat (quiet_step (first
        | (go_at_call 33; exact Calls.of_below Stf.keep (CN.out _))
        | (go_at_call 32; with_reducible exact Calls.of_below Stf.keep (CT.out _))))
      refine wpQuiet_nil ?_
      rintro _ ⟨p, rfl⟩
      have S3 := Lib.hid p.ok
      generalize p.w = w3 at *
      go_wp2
      refine wp_region_of (Stf w w.heap.size f) (by kernel_rfl) (by kernel_rfl) S3.out.drew ?_
      repeat (quiet_step (first
        | (go_at_call 34; with_reducible exact Calls.of_below Stf.keep (I1.out _))
        | (go_at_call 34; with_reducible exact Calls.of_below Stf.keep (I2.out _))
        | (go_at_call 34; with_reducible exact Calls.of_below Stf.keep (I3.out _))
        | (go_at_call 34; with_reducible exact Calls.of_below Stf.keep (I4.out _))))
      refine wpQuiet_nil ?_
      rintro _ ⟨p, rfl⟩
      have S4 := Lib.hid p.ok
      generalize p.w = w4 at *
      go_wp2
      refine wp_region_of (Stf w w.heap.size f) (by kernel_rfl) (by kernel_rfl) S4.out.drew ?_
      repeat (quiet_step (first
        | (go_at_call 35; with_reducible exact Calls.of_same (V1.out _))
        | (go_at_call 35; with_reducible exact Calls.of_same (V2.out _))
        | (go_at_call 35; with_reducible exact Calls.of_same (V3.out _))
        | (go_at_call 35; with_reducible exact Calls.of_same (V4.out _))
        | (go_at_call 35; with_reducible exact Calls.of_same (V5.out _))))
      refine wpQuiet_nil ?_
      rintro _ ⟨p, rfl⟩
      go_wp2
      go_returns
      exact ⟨rfl, p.ok.bel⟩
  · rw [show Go.Fm.text f = ⟨#[]⟩ from if_neg h0]
    have hne : (chk f != 0) = true := by rw [bne_iff_ne]; exact h0
    generalize chk f = c at *
    clear h0
    go_enter Tryd.func13, Tryd.ntmps13
    go_wp2_with (go_at_call 22; refine (CC.out _).mono ?_; rintro e w2 ⟨rfl, hb⟩; have S2 := Lib.hid (Stf.keep _ _ S1.out hb); clear hb e1)
    go_returns
    exact ⟨rfl, S2.out.bel⟩
end Go.Proofs.YtkhnhlahfedkhaaDoor
