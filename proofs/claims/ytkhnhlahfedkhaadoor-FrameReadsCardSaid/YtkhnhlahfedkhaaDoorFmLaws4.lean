/-
  THE LAW FrameReads of layer 12.
-/
import Derived.Test.YtkhnhlahfedkhaaDoorFmAwake
import Derived.Test.YtkhnhlahfedkhaaDoorFmFlip
namespace Go.Proofs.YtkhnhlahfedkhaaDoor
open Go.RowKit Go.Hd Go.Wr Go.Ad Go.Ck Go.Fm
attribute [local go_sem ↓ high] Fr_.loadF Fr_.storeF Fr_.v_cells Fr_.v_match fr_guard fr_neq fr_eql fr_guard_lit fr_eql_lit
attribute [local go_sem] Fr_.C0 Fr_.C1 Fr_.C2 Fr_.C3 Fr_.C4 Fr_.C5 Fr_.C6 Fr_.C7 Fr_.C8 Fr_.C9 Fr_.C10 Fr_.C11 Fr_.C12 Fr_.C13 Fr_.C14 Fr_.C15 Fr_.C16 Fr_.C17 Fr_.storeF_zero

theorem nat_u32 {a : Int} (h : (Lit.int .u32 a).wf = true) : ∃ n : Nat, a = n ∧ n < 4294967296 := by
  simp [Lit.wf, IntKind.min, IntKind.max, IntKind.signed, IntKind.bits] at h
  exact ⟨a.toNat, by omega, by omega⟩
theorem nat_u16 {a : Int} (h : (Lit.int .u16 a).wf = true) : ∃ n : Nat, a = n ∧ n < 65536 := by
  simp [Lit.wf, IntKind.min, IntKind.max, IntKind.signed, IntKind.bits] at h
  exact ⟨a.toNat, by omega, by omega⟩

/-- The frame that came in, and another frame in a block behind it. -/
structure Jst (W : World) (f : Fr) (g : Nat) (y : Fr) (wi : World) : Prop where
  st : Stf W W.heap.size f wi
  box : Fr_.Box wi g y
  gt : W.heap.size < g
theorem Jst.keep {W wi w' : World} {f y : Fr} {g : Nat} (h : Jst W f g y wi) (hb : Below wi.heap.size wi w') : Jst W f g y w' := ⟨Stf.keep _ _ h.st hb, h.box.below hb h.box.lt, h.gt⟩
theorem Jst.set {W wi : World} {f y : Fr} {g : Nat} (h : Jst W f g y wi) (z : Fr) : Jst W f g z (wi.setRow g (Fr_.C z)) :=
  ⟨⟨(Fr_.setRow_other (Nat.ne_of_lt h.gt) _).trans h.st.box, below_setRow h.st.bel (Nat.le_of_lt h.gt)⟩, h.box.setRow z, h.gt⟩

set_option maxRecDepth 100000 in
set_option maxHeartbeats 8000000 in
theorem frameReads_walk0 (f : Fr) (hw : FrWf f) (a : Int) (ha : (Lit.int .u16 a).wf = true) (p0 : Int) (hp0 : (Lit.int .u32 p0).wf = true) (W : World) (hl : LaidFacts W) :
    Calls Tryd.prog 5 #[Fr_.v f, .int .u16 a, .int .u32 p0] W fun e w' => e = .returned (.bool true) ∧ Below W.heap.size W w' := by
  obtain ⟨n, rfl, hn⟩ := nat_u16 ha
  obtain ⟨p, rfl, hp⟩ := nat_u32 hp0
  clear ha hp0
  have HT : Hid (∀ w', Below W.heap.size W w' → FmTabs w') := fun w' hb => FmTabs.below hl hb (Nat.le_refl _)
  have hu := fru_wf hw
  have S1 := Lib.hid (Stf.new W f)
  have HZ : Hid (W.heap.size < (W.alloc (.cells (Fr_.C f) 25)).heap.size) := by unfold Hid; simp
  have CL := Lib.hid (fun w' hb => awake12_any w' (HT.out w' hb))
  have CE := Lib.hid (fun w' hb => encode_any f w' (HT.out w' hb).hd (HT.out w' hb).ck hu)
  have CF := Lib.hid (fun w' hb => flength_any f w' (HT.out w' hb).hd hu)
  have e1 := S1.out.box.all
  by_cases hs : (5000 : Int) < (f.bo.size : Int)
  · clear hw hl hu CE CF hn hp
    go_enter Tryd.func5, Tryd.ntmps5
    go_wp2_with (go_at_call 7; refine (CL.out _ S1.out.bel).mono ?_; rintro e w2 ⟨rfl, hb⟩; have S2 := Lib.hid (Stf.keep _ _ S1.out hb); clear hb)
    go_returns
    exact ⟨rfl, S2.out.bel⟩
  have l1 := S1.out.box.loadF
  by_cases h0 : chk f = 0
  case neg =>
    have hne : (chk f != 0) = true := by rw [bne_iff_ne]; exact h0
    rw [show enc f = ⟨#[]⟩ from if_neg h0] at CE
    rw [show flen f = 0 from if_neg h0] at CF
    generalize chk f = c at *
    clear hw hl hu hn hp h0
    go_enter Tryd.func5, Tryd.ntmps5
    go_wp2_with (first
      | (go_at_call 8; refine (CE.out _ S1.out.bel).mono ?_; rintro e w2 ⟨rfl, hb⟩; have S2 := Lib.hid (Stf.keep _ _ S1.out hb); clear hb l1 e1; have l2 := S2.out.box.loadF)
      | (go_at_call 10; refine (CF.out _ S2.out.bel).mono ?_; rintro e w3 ⟨rfl, hb⟩; have S3 := Lib.hid (Stf.keep _ _ S2.out hb); clear hb l2)
      | (go_at_call 7; refine (CL.out _ S3.out.bel).mono ?_; rintro e w4 ⟨rfl, hb⟩; have S4 := Lib.hid (Stf.keep _ _ S3.out hb); clear hb))
    go_returns
    exact ⟨rfl, S4.out.bel⟩
  have hbl := body_len h0
  have hb0 := bo_le h0
  have hol := oct_len_is h0
  have hol2 := oct_len f
  have h10 : 10 ≤ (oct f).length := by unfold oct o1; simp only [List.length_append, le_len, be_len]; omega
  have hEd : (enc f).data.toList = sealed (body f) := by rw [show enc f = Go.Fm.st (sealed (body f)) from if_pos h0, st_data]
  have hEs : (enc f).size = (body f).length + 4 := by rw [show enc f = Go.Fm.st (sealed (body f)) from if_pos h0, st_size, sealed_len]
  have hfl : flen f = ((enc f).size : Int) := by rw [show flen f = len f + f.bo.size + 4 from if_pos h0, hEs]; omega
  have CD : Hid (∀ w', Below W.heap.size W w' → Calls Tryd.prog 14 #[.string (enc f)] w' fun e w'' => e = .returned (.tuple #[Fr_.v f, .int .i64 0]) ∧ Below w'.heap.size w' w'') := fun w' hb => by
    have := decode_any (enc f) w' (HT.out w' hb).hd (HT.out w' hb).ck (by omega)
    rw [dec_enc h0] at this
    exact this
  rw [hfl] at CF
  rw [h0] at CE
  obtain ⟨k, hk⟩ : ∃ k, k = n % (8 * (enc f).size) := ⟨_, rfl⟩
  have hkl : k < 8 * (enc f).size := by rw [hk]; exact Nat.mod_lt _ (by omega)
  obtain ⟨T, hT⟩ : ∃ T, T = flps (enc f).data.toList k p 32 := ⟨_, rfl⟩
  have CP : Hid (∀ w, Calls Tryd.prog 16 #[.string (enc f), .int .i64 k, .int .u32 p] w fun e w' => e = .returned (.string (Go.Fm.st T)) ∧ Below w.heap.size w w') := fun w => by rw [hT]; exact flipped12_any (enc f) k p w (by omega) hkl hp
  have hw8 : IntKind.i64.wrap (8 * ((enc f).size : Int)) = 8 * ((enc f).size : Int) := IntWalk.i64_in _ (by omega)
  have hw8' : RowKit.wrap64 (8 * ((enc f).size : Int)) = 8 * ((enc f).size : Int) := IntWalk.wrap64_in _ (by omega)
  have hrem : (Go.RowKit.wrap64 (n : Int)).tmod (8 * ((enc f).size : Int)) = (k : Int) := by
    rw [IntWalk.wrap64_in _ (by omega), Int.tmod_eq_emod_of_nonneg (by omega), hk]; simp
  have hne : ¬ (8 * ((enc f).size : Int)) = 0 := by omega
  have h14 : ¬ ((enc f).size : Int) < 14 := by omega
  by_cases hTE : T = (enc f).data.toList
  case pos =>
    have hcmp : ((Go.Fm.st T).toList == (enc f).toList) = true := by rw [ByteArray.toList_eq, ByteArray.toList_eq, hTE, st_data]; exact beq_self_eq_true _
    generalize Go.Fm.st T = t at *
    generalize enc f = E at *
    clear hw hl hu hn hp h0 hbl hb0 hol hol2 h10 hEd hEs hfl hk hkl hT hTE
    go_enter Tryd.func5, Tryd.ntmps5
    go_wp2_with (first
      | (go_at_call 8; refine (CE.out _ S1.out.bel).mono ?_; rintro e w2 ⟨rfl, hb⟩; have S2 := Lib.hid (Stf.keep _ _ S1.out hb); have Z2 : Hid (W.heap.size < w2.heap.size) := Nat.lt_of_lt_of_le HZ.out hb.size; clear hb l1 e1)
      | (go_at_call 14; refine (CD.out _ S2.out.bel).mono ?_; rintro e w3 ⟨rfl, hb⟩; have S3 := Lib.hid (Stf.keep _ _ S2.out hb); have Z3 : Hid (W.heap.size < w3.heap.size) := Nat.lt_of_lt_of_le Z2.out hb.size; clear hb
         obtain ⟨w4, hw4⟩ : ∃ w4, w3.alloc (.cells (Fr_.C f) 25) = w4 := ⟨_, rfl⟩
         have J4 := Lib.hid (show Jst W f w3.heap.size f w4 from ⟨hw4 ▸ Stf.keep _ _ S3.out ((Below.refl _ _).alloc (Nat.le_refl _) _), hw4 ▸ Fr_.Box.newC w3 f, Z3.out⟩)
         have l4 := J4.out.st.box.loadF; have m4 := J4.out.box.loadF)
      | (go_at_call 10; refine (CF.out _ J4.out.st.bel).mono ?_; rintro e w5 ⟨rfl, hb⟩; have J5 := Lib.hid (J4.out.keep hb); clear hb l4 m4)
      | (go_at_call 16; refine (CP.out _).mono ?_; rintro e w6 ⟨rfl, hb⟩; have J6 := Lib.hid (J5.out.keep hb); clear hb)
      | (go_at_call 7; refine (CL.out _ J6.out.st.bel).mono ?_; rintro e w7 ⟨rfl, hb⟩; have J7 := Lib.hid (J6.out.keep hb); clear hb))
    go_returns
    exact ⟨rfl, J7.out.st.bel⟩
  case neg =>
    have hcmp : ((Go.Fm.st T).toList == (enc f).toList) = false := by rw [ByteArray.toList_eq, ByteArray.toList_eq, st_data]; simpa using hTE
    have hop := opn_flipped (body f) k p hp (by rw [← hEs]; exact hkl) T (by rw [hT, hEd]) (by rw [← hEd]; exact hTE)
    have hTs : (Go.Fm.st T).size ≤ 140737488351232 := by rw [st_size, hT, flps_len, hEd, sealed_len]; omega
    have hdt : dec (Go.Fm.st T) = (Fr_.zf, 5) := by unfold dec; rw [hop, if_neg (by decide)]
    have CX : Hid (∀ w', Below W.heap.size W w' → Calls Tryd.prog 14 #[.string (Go.Fm.st T)] w' fun e w'' => e = .returned (.tuple #[Fr_.v Fr_.zf, .int .i64 5]) ∧ Below w'.heap.size w' w'') := fun w' hb => by
      have := decode_any (Go.Fm.st T) w' (HT.out w' hb).hd (HT.out w' hb).ck hTs
      rw [hdt] at this
      exact this
    generalize Go.Fm.st T = t at *
    generalize enc f = E at *
    clear hw hl hu hn hp h0 hbl hb0 hol hol2 h10 hEd hEs hfl hk hkl hT hTE hop hTs hdt
    go_enter Tryd.func5, Tryd.ntmps5
    go_wp2_with (first
      | (go_at_call 8; refine (CE.out _ S1.out.bel).mono ?_; rintro e w2 ⟨rfl, hb⟩; have S2 := Lib.hid (Stf.keep _ _ S1.out hb); have Z2 : Hid (W.heap.size < w2.heap.size) := Nat.lt_of_lt_of_le HZ.out hb.size; clear hb l1 e1)
      | (go_at_call 14; refine (CX.out _ J6.out.st.bel).mono ?_; rintro e w7 ⟨rfl, hb⟩; have J7 := Lib.hid (J6.out.keep hb); clear hb
         obtain ⟨w8, hw8⟩ : ∃ w8, w7.setRow w3.heap.size (Fr_.C Fr_.zf) = w8 := ⟨_, rfl⟩
         have sg := J7.out.box.storeF Fr_.zf
         rw [hw8] at sg
         have J8 := Lib.hid (show Jst W f w3.heap.size Fr_.zf w8 from hw8 ▸ J7.out.set Fr_.zf)
         have m8 := J8.out.box.loadF)
      | (go_at_call 14; refine (CD.out _ S2.out.bel).mono ?_; rintro e w3 ⟨rfl, hb⟩; have S3 := Lib.hid (Stf.keep _ _ S2.out hb); have Z3 : Hid (W.heap.size < w3.heap.size) := Nat.lt_of_lt_of_le Z2.out hb.size; clear hb
         obtain ⟨w4, hw4⟩ : ∃ w4, w3.alloc (.cells (Fr_.C f) 25) = w4 := ⟨_, rfl⟩
         have J4 := Lib.hid (show Jst W f w3.heap.size f w4 from ⟨hw4 ▸ Stf.keep _ _ S3.out ((Below.refl _ _).alloc (Nat.le_refl _) _), hw4 ▸ Fr_.Box.newC w3 f, Z3.out⟩)
         have l4 := J4.out.st.box.loadF; have m4 := J4.out.box.loadF)
      | (go_at_call 10; refine (CF.out _ J4.out.st.bel).mono ?_; rintro e w5 ⟨rfl, hb⟩; have J5 := Lib.hid (J4.out.keep hb); clear hb l4 m4)
      | (go_at_call 16; refine (CP.out _).mono ?_; rintro e w6 ⟨rfl, hb⟩; have J6 := Lib.hid (J5.out.keep hb); clear hb)
      | (go_at_call 7; refine (CL.out _ J8.out.st.bel).mono ?_; rintro e w9 ⟨rfl, hb⟩; have J9 := Lib.hid (J8.out.keep hb); clear hb))
    go_returns
    exact ⟨rfl, J9.out.st.bel⟩
end Go.Proofs.YtkhnhlahfedkhaaDoor
