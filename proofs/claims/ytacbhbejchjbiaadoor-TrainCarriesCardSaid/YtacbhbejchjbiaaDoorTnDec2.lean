/-
  THE WALK of package train's Decode: a search by a label and gotos back to it.
-/
import Derived.Test.YtacbhbejchjbiaaDoorTnDec
namespace Go.Proofs.YtacbhbejchjbiaaDoor
open Go.RowKit Go.Tn Go.Wr Go.Ck

/-- What Decode hands back. -/
def DecPost (u : List UInt8) (w : World) (e : Ending) (w' : World) : Prop :=
  ∃ v0 c, e = .returned (.slice v0 (dec u).length c) ∧ Cr_.Sl w' v0 (dec u) c ∧ Below w.heap.size w w'
theorem decPost17 {u : List UInt8} {w w' : World} {e : Ending} {L : List Cr} {v0 : Option Addr} {c : Nat} (h : dec u = L) (he : e = .returned (.slice v0 L.length c)) (ha : Cr_.Sl w' v0 L c) (hb : Below w.heap.size w w') : DecPost u w e w' :=
  ⟨v0, c, by rw [h, he], by rw [h]; exact ha, hb⟩
theorem nonempty17 {u : ByteArray} (h : 1 ≤ u.size) : u.toList.isEmpty = false := by
  rw [ByteArray.toList_eq]
  cases he : u.data.toList with
  | nil =>
    have := congrArg List.length he
    rw [Array.length_toList] at this
    exact absurd (show u.size = 0 from this) (by omega)
  | cons _ _ => rfl
theorem owns_below17 {base n size : Nat} {e : TypeId} {v : Value} {wr w1 : World} {xs : List Value} (h : wr.ownsRow base e size v n xs) (hb : Below wr.heap.size wr w1) : w1.ownsRow base e size v n xs := by
  obtain ⟨h0, h1 | ⟨g, cap, cur, h1, h2, hh, h3⟩⟩ := h
  · exact ⟨h0, .inl h1⟩
  · exact ⟨h0, .inr ⟨g, cap, cur, h1, h2, (hb.block g (Array.getElem?_eq_some_iff.1 hh).1).trans hh, h3⟩⟩
theorem dec_dif (a p : Nat) (h : a ≤ 100000) (h2 : p ≤ 200000) : wrap64 ((a : Int) - p) = (a : Int) - p := IntWalk.wrap64_in _ (by omega)
theorem dec_cast (p n : Nat) : ((p + 4 + n : Nat) : Int) = (p : Int) + 4 + (n : Int) := by omega
theorem dec_up {p n a q : Nat} (h : p + 4 + n ≤ a) (h2 : q < p + 4 + n + 4) : q ≤ a + 8 := by omega
theorem dec_ge {a p : Nat} (h : ¬ a < p + 4) : 4 ≤ a - p := by omega
theorem dec_le {a : Nat} (h : a ≤ 100000) (p : Nat) : a - p ≤ 140737488351232 := Nat.le_trans (Nat.sub_le _ _) (Nat.le_trans h (by decide))
theorem dec_max {n : Nat} (h : n ≤ 64) : n + 1 ≤ maxLen := by unfold maxLen; omega
theorem dec_max2 {n : Nat} (h : n ≤ 64) : (n + 1) * 24 ≤ 140737488355328 := by omega
theorem dec_meas {p q a : Nat} (h : p + 4 ≤ a) (h2 : p + 4 ≤ q) : a + 20 - ((q : Int)).toNat < a + 20 - ((p : Int)).toNat := by simp only [Int.toNat_natCast]; omega
def mz17 (n : Nat) (a : Act) : Nat := n + 20 - (intOf (a.tmps.getD 4 undef)).toNat
theorem mz17_lt {n : Nat} {a b : Act} {z1 z2 : Int} (h1 : a.tmps.getD 4 undef = .int .i64 z1) (h2 : b.tmps.getD 4 undef = .int .i64 z2) (h : n + 20 - z1.toNat < n + 20 - z2.toNat) : mz17 n a < mz17 n b := by
  unfold mz17; rw [h1, h2]; exact h
theorem dec_small {p n : Nat} (h : p ≤ 200000) (h2 : n ≤ 2300) : p + 4 + n ≤ 1152921504606846976 := by omega
theorem dec_sum (p n : Nat) (h : p ≤ 200000) (h2 : n ≤ 200000) : wrap64 ((p : Int) + 4) = ((p + 4 : Nat) : Int) ∧ wrap64 (((p + 4 : Nat) : Int) + (n : Int)) = ((p + 4 + n : Nat) : Int) ∧ wrap64 ((p : Int) + 4 + (n : Int)) = ((p + 4 + n : Nat) : Int) := by
  refine ⟨?_, ?_, ?_⟩
  · rw [IntWalk.wrap64_in _ (by omega)]; omega
  · rw [IntWalk.wrap64_in _ (by omega)]; omega
  · rw [IntWalk.wrap64_in _ (by omega)]; omega

set_option maxRecDepth 100000 in
set_option maxHeartbeats 4000000 in
theorem tnDecode_any (s : ByteArray) (w : World) (hs : s.size ≤ 100000) (ht : TnTab w) :
    Calls Tryd.prog 8 #[.string s] w fun e w' => DecPost s.data.toList w e w' := by
  have HT := Lib.hid ht
  have HI := Lib.hid (info_parts Cr_.info)
  have hl : s.data.toList.length = s.size := Array.length_toList
  have HX : Hid (∀ p, (s.extract p s.size).data.toList = s.data.toList.drop p) := fun p => by
    rw [ByteArray.data_extract, Array.toList_extract]
    show (s.data.toList.drop p).take (s.size - p) = _
    rw [List.take_of_length_le (by rw [List.length_drop, hl]; exact Nat.le_refl _)]
  have HXS : Hid (∀ p, (s.extract p s.size).size = s.size - p) := fun p => by rw [ByteArray.size_extract]; omega
  obtain ⟨u, hu⟩ : ∃ u, u = s.data.toList := ⟨_, rfl⟩
  rw [← hu] at hl
  have HU := Lib.hid hu
  rw [← hu]
  have HUL := Lib.hid hl
  have HSZ := Lib.hid hs
  clear ht hu
  go_enter Tryd.func8, Tryd.ntmps8
  go_wp2
  refine wp_scope_jumps1 0 (fun a' w' => ∃ (L : List Cr) (p : Nat) (z : Int) (v : Value) (u5 u6 u7 u8 u9 u10 u11 u12 u13 u14 u15 u16 u17 u18 u19 u20 u21 u22 u23 u24 u25 u26 u27 u28 u29 u30 u31 u32 u33 u34 u35 u36 u37 : Value), a' = { tmps := #[.string s, undef, .slice none 0 0, v, .int .i64 z, u5, u6, u7, u8, u9, u10, u11, u12, u13, u14, u15, u16, u17, u18, u19, u20, u21, u22, u23, u24, u25, u26, u27, u28, u29, u30, u31, u32, u33, u34, u35, u36, u37], defers := [] } ∧ z = (p : Int) ∧ Inv u L p ∧ p ≤ s.size + 8 ∧ w'.ownsRow w.heap.size 41 2 v L.length (Cr_.flat L) ∧ Below w.heap.size w w')
    (fun a' _ => mz17 s.size a') rfl ?pass ?first
  case first =>
    intro hj
    go_wp2
    go_step3
    rename_i Q1 K hK
    refine hK _ _ (hj _ _ ⟨[], 0, 0, .slice none 0 0, undef, undef, undef, undef, undef, undef, undef, undef, undef, undef, undef, undef, undef, undef, undef, undef, undef, undef, undef, undef, undef, undef, undef, undef, undef, undef, undef, undef, undef, undef, undef, undef, undef, rfl, rfl, inv_start u, by omega, World.ownsRow_nil _ _ _ _, Below.refl _ _⟩)
  case pass =>
    rintro a' w1 ⟨L, p, z, v, u5, u6, u7, u8, u9, u10, u11, u12, u13, u14, u15, u16, u17, u18, u19, u20, u21, u22, u23, u24, u25, u26, u27, u28, u29, u30, u31, u32, u33, u34, u35, u36, u37, rfl, rfl, hinv, hp, hown, hb⟩
    have HV := Lib.hid hinv
    have HB := Lib.hid hb
    have HP := Lib.hid hp
    have hL := hinv.1
    have hpp : p ≤ 200000 := by omega
    obtain ⟨v0, c, rfl⟩ := Cr_.slice_form hown
    by_cases hA : s.size < p + 4
    · have HE := Lib.hid (inv_end hinv (.inl (by rw [hl]; exact hA)))
      have HO : Hid (Cr_.Sl w1 v0 L c) := Cr_.sl_owns hown
      have hA' : (s.size : Int) - p < 4 := by omega
      have hw : wrap64 ((s.size : Int) - p) = (s.size : Int) - p := dec_dif _ _ hs hpp
      clear hinv hb hp hpp hL hown hA hl hs
      go_wp2
      simp only [Exit.jump]
      go_returns
      exact decPost17 HE.out rfl HO.out HB.out
    have hA' : ¬ (s.size : Int) - p < 4 := by omega
    have hw : wrap64 ((s.size : Int) - p) = (s.size : Int) - p := dec_dif _ _ hs hpp
    by_cases h64 : L.length = 64
    · have HE := Lib.hid (inv_end hinv (.inr h64))
      have HO : Hid (Cr_.Sl w1 v0 L c) := Cr_.sl_owns hown
      have h64' : ((L.length : Int) == 64) = true := by rw [h64]; rfl
      clear hinv hb hp hpp hL hown hA hl hs h64
      go_wp2
      simp only [Exit.jump]
      go_returns
      exact decPost17 HE.out rfl HO.out HB.out
    have h64' : ((L.length : Int) == 64) = false := by rw [beq_eq_false_iff_ne]; omega
    have hsl := sliceFrom s p (by omega)
    have CF := Lib.hid (tnFirst_any (s.extract p s.size) w1 (by rw [HXS.out]; exact dec_ge hA) (by rw [HXS.out]; exact dec_le hs p) (HT.out.bel hb))
    rw [HX.out, ← HU.out] at CF
    have HSk := Lib.hid (inv_skip hinv (by rw [hl]; omega) h64)
    have HFd := Lib.hid (inv_found hinv (by rw [hl]; omega) h64)
    have HFS := Lib.hid (fO_size (u.drop p))
    have HFN := Lib.hid (@fO_none (u.drop p))
    have HFO : Hid (fO (u.drop p) = ⟨((u.drop (p + 4)).take (fN (u.drop p))).toArray⟩) := by unfold fO; rw [List.drop_drop]; exact rfl
    have hfn : fN (u.drop p) ≤ 2300 := by
      by_cases h0 : fN (u.drop p) = 0
      · omega
      · exact (fN_pos h0).2.2.1
    have HFL : Hid (¬ fN (u.drop p) = 0 → p + 4 + fN (u.drop p) ≤ s.size) := fun h => by
      have := (fN_pos h).2.2.2.2
      rw [List.length_drop, hl] at this
      omega
    rw [← HFO.out] at HFd
    generalize s.extract p s.size = s2 at *
    generalize fO (u.drop p) = T at *
    generalize fN (u.drop p) = n at *
    obtain ⟨q1, q2, q3⟩ := dec_sum p n hpp (Nat.le_trans hfn (by decide))
    have hw4 : wrap64 ((p : Int) + 4) = (p : Int) + 4 := q1
    have HQ := Lib.hid q1
    have HPU := Lib.hid hpp
    by_cases h0 : n = 0
    · obtain rfl := HFN.out h0
      have HN := Lib.hid (HSk.out h0)
      have HLT := Lib.hid (show p + 4 ≤ s.size by omega)
      have HO := Lib.hid hown
      clear hinv hb hp hpp hL hown hA hl hs h64 h0 HFd HSk HFS HFN HFO hfn q1 q2 q3
      go_wp2_with (go_at_call 17; refine CF.out.mono ?_; rintro e w2 ⟨rfl, h⟩; have HB2 := Lib.hid h; clear h)
      go_step3
      refine ⟨rfl, ⟨L, p + 4, _, _, _, _, _, _, _, _, _, _, _, _, _, _, _, _, _, _, _, _, _, _, _, _, _, _, _, _, _, _, _, _, _, _, _, rfl, ?zz, HN.out, by have := HLT.out; omega, ?own, HB.out.trans (HB2.out.mono HB.out.size)⟩, ?meas⟩
      case zz => exact HQ.out
      case own => exact owns_below17 HO.out HB2.out
      case meas =>
        exact mz17_lt (z1 := wrap64 ((p : Int) + 4)) (z2 := (p : Int)) rfl rfl (by rw [HQ.out]; exact dec_meas HLT.out (Nat.le_refl _))
    · have HN := Lib.hid (HFd.out h0)
      have HLT := Lib.hid (show p + 4 ≤ s.size by omega)
      have htn : T.size = n := HFS.out
      have hne := nonempty17 (u := T) (by omega)
      have CU : Hid (∀ w, Calls Tryd.prog 18 #[.int .i64 ((p : Int) + 4 + (T.size : Int))] w fun e w' => e = .returned (.int .i64 (Tn.up (p + 4 + n) : Nat)) ∧ w = w') := fun w => by
        have := tnUp_any (p + 4 + n) w (dec_small hpp hfn)
        rw [htn]; rwa [dec_cast] at this
      have HPL := Lib.hid (HFL.out h0)
      have HUG := Lib.hid (Tn.up_ge (p + 4 + n))
      have HUL2 := Lib.hid (Tn.up_lt (p + 4 + n))
      have HNS := Lib.hid (show 1 ≤ n ∧ n ≤ 2300 from ⟨by omega, hfn⟩)
      have HTN := Lib.hid htn
      have HO := Lib.hid hown
      rw [← htn] at q2 q3
      clear hinv hb hp hpp hl hs h64 h0 HFd HSk HFS HFN HFO hfn htn hA hown
      go_wp2_with (first
        | (go_at_call 17; refine CF.out.mono ?_; rintro e w2 ⟨rfl, h⟩; have HB2 := Lib.hid (HB.out.trans (h.mono HB.out.size)); have hown2 := owns_below17 HO.out h; clear h)
        | (go_at_call 18; refine (CU.out _).mono ?_; rintro e w' ⟨rfl, rfl⟩)
        | (at_builtin; obtain ⟨i0, hi, hz0, hz1, hz2⟩ := HI.out; refine wpList_append_own _ rfl _ _ 37 rfl w.heap.size 41 i0 (.agg #[.int .i64 0, .string ⟨#[]⟩]) 2 24 Tryd.underlying37 hi hz0 hz1 hz2 rfl (by decide) _ _ _ rfl (hown2.alloc _) ⟨w2.heap.size, 0, none⟩ 1 1 [.int .i64 ((p + 4 : Nat) : Int), .string T] rfl rfl ?c1 ?c2 ?c3 ?c4 ?c5 ?_))
      case c1 =>
        intro j u hj
        match j, hj with
        | 0, hj => simp at hj; subst hj; simp [Addr.add]
        | 1, hj => simp at hj; subst hj; simp [Addr.add]
      case c2 => intro u hu; simp at hu; rcases hu with rfl | rfl <;> rfl
      case c3 => exact dec_max hL
      case c4 => exact dec_max2 hL
      case c5 => have := HB2.out.size; simp; omega
      intro v4 w4 hown4 hgrow hn'
      clear hi hz0 hz1 hz2
      have R : w4.ownsRow w.heap.size 41 2 v4 (L ++ [(⟨((p + 4 : Nat) : Int), T⟩ : Cr)]).length (Cr_.flat (L ++ [(⟨((p + 4 : Nat) : Int), T⟩ : Cr)])) ∧ Below w.heap.size w w4 := by
        refine ⟨?_, ?_⟩
        · rw [Cr_.flat_snoc, List.length_append]
          exact hown4
        · refine Below.grown (HB2.out.alloc HB2.out.size _) hgrow (by simp; have := HB2.out.size; omega) (fun j hj => ?_)
          exact (hown2.lt j hj).1
      have HO4 := Lib.hid R.1
      have HB4 := Lib.hid R.2
      clear hown2 hown4 hgrow hn' R
      go_wp2_with (go_at_call 18; refine (CU.out _).mono ?_; rintro e w' ⟨rfl, rfl⟩)
      go_step3
      refine ⟨rfl, ⟨L ++ [⟨((p + 4 : Nat) : Int), T⟩], Tn.up (p + 4 + n), _, _, _, _, _, _, _, _, _, _, _, _, _, _, _, _, _, _, _, _, _, _, _, _, _, _, _, _, _, _, _, _, _, _, _, rfl, ?zz, HN.out, ?pp, HO4.out, HB4.out⟩, ?meas⟩
      case zz => rfl
      case pp => exact dec_up HPL.out HUL2.out
      case meas =>
        exact mz17_lt (z1 := ((Tn.up (p + 4 + n) : Nat) : Int)) (z2 := (p : Int)) rfl rfl (dec_meas HLT.out (Nat.le_trans (Nat.le_add_right _ _) HUG.out))
end Go.Proofs.YtacbhbejchjbiaaDoor
