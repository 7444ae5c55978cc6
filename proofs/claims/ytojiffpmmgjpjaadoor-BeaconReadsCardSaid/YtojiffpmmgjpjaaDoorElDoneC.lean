/-
  WALKS of the landed functions of layer 9: cut, Decode.
-/
import Derived.Test.YtojiffpmmgjpjaaDoorElDoneB
namespace Go.Proofs.YtojiffpmmgjpjaaDoor
open Go.RowKit Go.Em El_

set_option maxRecDepth 100000 in
set_option maxHeartbeats 1000000 in
theorem cut_short (s : ByteArray) (w : World) (h : s.size < 2) :
    Calls Tryd.prog 70 #[.string s] w fun e w' => e = .returned (.tuple #[.agg #[.int .i64 0, .string ⟨#[]⟩], .string ⟨#[]⟩, .bool false]) ∧ Below w.heap.size w w' := by
  have h' : (s.size : Int) < 2 := by omega
  have HB : Hid (Below w.heap.size w (w.alloc (.cells #[.int .i64 0, .string ⟨#[]⟩] 49))) := (Below.refl _ _).alloc (Nat.le_refl _) _
  go_enter Tryd.func70, Tryd.ntmps70
  go_wp2
  refine bodyPost_ret (by simp [results, Tryd.results70, go_sem]; rfl) rfl ?_
  exact ⟨rfl, HB.out⟩

set_option maxRecDepth 100000 in
set_option maxHeartbeats 1000000 in
theorem cut_short2 (s : ByteArray) (w : World) (h2 : 2 ≤ s.size) (h : s.size < 2 + byt s 1) :
    Calls Tryd.prog 70 #[.string s] w fun e w' => e = .returned (.tuple #[.agg #[.int .i64 0, .string ⟨#[]⟩], .string ⟨#[]⟩, .bool false]) ∧ Below w.heap.size w w' := by
  have h' : ¬ (s.size : Int) < 2 := by omega
  have hp1 : 1 < s.size := by omega
  have hbe := byt_get hp1
  have hbl := byt_lt s 1
  have h3' : (s.size : Int) < 2 + (byt s 1 : Int) := by omega
  have HB : Hid (Below w.heap.size w (w.alloc (.cells #[.int .i64 0, .string ⟨#[]⟩] 49))) := (Below.refl _ _).alloc (Nat.le_refl _) _
  go_enter Tryd.func70, Tryd.ntmps70
  go_wp2
  refine bodyPost_ret (by simp [results, Tryd.results70, go_sem]; rfl) rfl ?_
  exact ⟨rfl, HB.out⟩

theorem slice_tail (s : ByteArray) (p : Int) (h0 : 0 ≤ p) (hp : p ≤ s.size) (W : World) : (Instr.slice 9 (.string s) (some (.int .i64 p)) none none).run Tryd.prog W = .ok (.string (s.extract p.toNat s.size)) W :=
  run_slice_string_l W 9 s Tryd.underlying9 .i64 p h0 hp

set_option maxRecDepth 100000 in
set_option maxHeartbeats 2000000 in
theorem cut_ok (s : ByteArray) (w : World) (hs : s.size ≤ 10000) (h2 : 2 ≤ s.size) (h : ¬ s.size < 2 + byt s 1) :
    Calls Tryd.prog 70 #[.string s] w fun e w' => e = .returned (.tuple #[v (elAt s 0), .string (s.extract (2 + byt s 1) s.size), .bool true]) ∧ Below w.heap.size w w' := by
  have h' : ¬ (s.size : Int) < 2 := by omega
  have hp1 : 1 < s.size := by omega
  have hp0 : 0 < s.size := by omega
  have hbe := byt_get hp1
  have hbe0 := byt_get hp0
  have hbl := byt_lt s 1
  have hbl0 := byt_lt s 0
  have h3' : ¬ (s.size : Int) < 2 + (byt s 1 : Int) := by omega
  have HV : Hid (v (elAt s 0) = .agg #[.int .i64 (byt s 0 : Int), .string (s.extract 2 (2 + byt s 1))]) := by
    show v (elAt s 0) = _
    unfold v elAt; simp only [Nat.zero_add]
  have ht := slice_tail s (2 + (byt s 1 : Int)) (by omega) (by omega)
  have hn : (2 + (byt s 1 : Int)).toNat = 2 + byt s 1 := by omega
  rw [hn] at ht
  have hsl : ∀ W, (Instr.slice 9 (.string s) (some (.int .i64 2)) (some (.int .i64 (2 + (byt s 1 : Int)))) none).run Tryd.prog W = .ok (.string (s.extract 2 (2 + byt s 1))) W := fun W => by
    have := slice2 s 0 (byt s 1) (by omega) W
    simpa using this
  generalize v (elAt s 0) = V at *
  generalize s.extract 2 (2 + byt s 1) = t at *
  generalize s.extract (2 + byt s 1) s.size = r at *
  have q0 : IntKind.i64.wrap (byt s 0 : Int) = byt s 0 := IntWalk.i64_in _ (by omega)
  have q1 : IntKind.i64.wrap (byt s 1 : Int) = byt s 1 := IntWalk.i64_in _ (by omega)
  have HB : Hid (Below w.heap.size w (w.alloc (.cells #[.int .i64 (byt s 0 : Int), .string t] 49)).drew) := ((Below.refl _ _).alloc (Nat.le_refl _) _).drew
  clear hn h
  go_enter Tryd.func70, Tryd.ntmps70
  go_wp2
  go_region
  go_wp2
  refine bodyPost_ret (by simp [results, Tryd.results70, go_sem]; rfl) rfl ?_
  exact ⟨by rw [HV.out], HB.out⟩

/-! What is left, and where it begins. -/
theorem tail_size (s : ByteArray) (p : Nat) : (s.extract p s.size).size = s.size - p := by
  rw [ByteArray.size_extract]; omega
theorem tail_list (s : ByteArray) (p : Nat) : (s.extract p s.size).data.toList = s.data.toList.drop p := by
  rw [ByteArray.data_extract, Array.toList_extract, List.extract_eq_take_drop]
  have h2 : s.data.toList.length = s.size := Array.length_toList
  exact List.take_of_length_le (by rw [List.length_drop]; omega)
theorem tail_byt (s : ByteArray) (p i : Nat) : byt (s.extract p s.size) i = byt s (p + i) := by
  rw [byt_drop]; unfold byt; rw [tail_list]
theorem tail_el (s : ByteArray) (p : Nat) : elAt (s.extract p s.size) 0 = elAt s p := by
  unfold elAt
  rw [tail_byt, tail_byt]
  simp only [Nat.zero_add, Nat.add_zero]
  congr 1
  apply ba_ext
  rw [ex_list, ex_list, tail_list, List.drop_drop]
theorem tail_tail (s : ByteArray) (p n : Nat) : (s.extract p s.size).extract n (s.extract p s.size).size = s.extract (p + n) s.size := by
  apply ba_ext
  rw [tail_list, tail_list, tail_list, List.drop_drop]
theorem tail_end (s : ByteArray) : s.extract s.size s.size = ⟨#[]⟩ := by
  apply ba_ext
  rw [tail_list]
  exact List.drop_eq_nil_of_le (by rw [Array.length_toList]; exact Nat.le_refl _)
theorem tail_zero (s : ByteArray) : s.extract 0 s.size = s := by
  apply ba_ext
  rw [tail_list]; rfl
theorem nonempty_ne {u : ByteArray} (h : 0 < u.size) : u.toList.isEmpty = false := by
  rw [ByteArray.toList_eq]
  cases he : u.data.toList with
  | nil =>
    have := congrArg List.length he
    rw [Array.length_toList] at this
    exact absurd (show u.size = 0 from this) (by omega)
  | cons _ _ => rfl
theorem owns_below {base n size : Nat} {e : TypeId} {v : Value} {wr w1 : World} {xs : List Value} (h : wr.ownsRow base e size v n xs) (hb : Below wr.heap.size wr w1) : w1.ownsRow base e size v n xs := by
  obtain ⟨h0, h1 | ⟨g, cap, cur, h1, h2, hh, h3⟩⟩ := h
  · exact ⟨h0, .inl h1⟩
  · exact ⟨h0, .inr ⟨g, cap, cur, h1, h2, (hb.block g (Array.getElem?_eq_some_iff.1 hh).1).trans hh, h3⟩⟩

set_option maxRecDepth 100000 in
set_option maxHeartbeats 4000000 in
theorem decode_any (s : ByteArray) (w : World) (hs : s.size ≤ 10000) :
    Calls Tryd.prog 47 #[.string s] w fun e w' => DecPost s w e w' := by
  have HI := Lib.hid (info_parts info)
  go_enter Tryd.func47, Tryd.ntmps47
  go_wp2
  go_loopw [0, 4] (fun x v wr => ∃ (L : List El) (u : ByteArray) (f p : Nat), p ≤ s.size ∧ L.length ≤ 32 ∧ u = s.extract p s.size ∧ x = .string u ∧ s.size - p < f ∧ dec s = fin L (decF s f p L.length) ∧ wr.ownsRow w.heap.size 49 2 v L.length (flat L) ∧ Below w.heap.size w wr)
    (fun x _ _ => match x with | .string u => u.size | _ => 0)
  case atStart => exact ⟨[], s, s.size + 1, 0, Nat.zero_le _, by simp, (tail_zero s).symm, rfl, by omega, dec_fin s, World.ownsRow_nil _ _ _ _, Below.refl _ _⟩
  case round =>
    rename_i wr
    obtain ⟨L, u, f, p, hp, hL, hu, rfl, hf, hd, hown, hb⟩ := hrel
    obtain ⟨f, rfl⟩ : ∃ g, f = g + 1 := ⟨f - 1, by omega⟩
    obtain ⟨v0, c, rfl⟩ := slice_form hown
    have husz : u.size = s.size - p := by rw [hu, tail_size]
    by_cases hlt : p < s.size
    · have hne := nonempty_ne (u := u) (by omega)
      by_cases h32 : L.length = 32
      · have hR := hd
        rw [h32, fin_full L hlt] at hR
        have HR := Lib.hid hR
        clear hd hown hR hf hu husz
        go_wp2
        go_returns
        exact decPost_err HR.out rfl hb
      · have h32' : ((L.length : Int) == 32) = false := by simp; omega
        have hb1 := tail_byt s p 1
        rw [← hu] at hb1
        by_cases h2 : s.size - p < 2
        · have hR := hd
          rw [fin_short L hlt h32 (.inl h2)] at hR
          have HR := Lib.hid hR
          have CC := Lib.hid (fun w => cut_short u w (by omega))
          have HB := Lib.hid hb
          clear hd hown hR hf hu husz hb hb1
          go_wp2_with (go_at_call 70; refine (CC.out _).mono ?_; rintro e w2 ⟨rfl, hb2⟩; have HB2 := Lib.hid (HB.out.trans (hb2.mono HB.out.size)); clear hb2)
          go_returns
          exact decPost_err HR.out rfl (HB2.out.alloc HB2.out.size _)
        · by_cases h3 : s.size - p - 2 < byt s (p + 1)
          · have hR := hd
            rw [fin_short L hlt h32 (.inr h3)] at hR
            have HR := Lib.hid hR
            have CC := Lib.hid (fun w => cut_short2 u w (by omega) (by omega))
            have HB := Lib.hid hb
            clear hd hown hR hf hu husz hb hb1
            go_wp2_with (go_at_call 70; refine (CC.out _).mono ?_; rintro e w2 ⟨rfl, hb2⟩; have HB2 := Lib.hid (HB.out.trans (hb2.mono HB.out.size)); clear hb2)
            go_returns
            exact decPost_err HR.out rfl (HB2.out.alloc HB2.out.size _)
          · have hR := hd
            rw [fin_step L hlt h32 (by omega)] at hR
            have HR := Lib.hid hR
            have hcut := fun w => cut_ok u w (by omega) (by omega) (by omega)
            have hel : elAt u 0 = elAt s p := by rw [hu]; exact tail_el s p
            have htl : u.extract (2 + byt u 1) u.size = s.extract (p + 2 + byt s (p + 1)) s.size := by
              rw [hb1, hu, tail_tail]; congr 1; omega
            rw [hel, htl] at hcut
            have hrs : (s.extract (p + 2 + byt s (p + 1)) s.size).size < u.size := by rw [tail_size]; omega
            obtain ⟨r, hr⟩ : ∃ r, r = s.extract (p + 2 + byt s (p + 1)) s.size := ⟨_, rfl⟩
            rw [← hr] at hcut hrs
            have HRR := Lib.hid hr
            have HX : Hid (cs (elAt s p) = [.int .i64 (elAt s p).id, .string (elAt s p).s]) := rfl
            have CC := Lib.hid hcut
            have HF := Lib.hid hf
            have HP : Hid (p + 2 + byt s (p + 1) ≤ s.size) := by show _ ≤ _; omega
            unfold v at CC
            generalize elAt s p = x at *
            generalize x.id = xi at *
            generalize x.s = xt at *
            have HB := Lib.hid hb
            clear hcut hd hR hf hu husz hb1 hel htl hr
            go_wp2_with (first
              | (go_at_call 70; refine (CC.out _).mono ?_; rintro e w2 ⟨rfl, hb2⟩; have hown2 := owns_below hown hb2; have HB2 := Lib.hid (HB.out.trans (hb2.mono HB.out.size)); clear hb2 hown)
              | (at_builtin; obtain ⟨i0, hi, hz0, hz1, hz2⟩ := HI.out; refine wpList_append_own _ rfl _ _ 32 rfl w.heap.size 49 i0 (.agg #[.int .i64 0, .string ⟨#[]⟩]) 2 24 Tryd.underlying32 hi hz0 hz1 hz2 rfl (by decide) _ _ _ rfl ((hown2.alloc _).alloc _) ⟨w2.heap.size + 1, 0, none⟩ 1 1 [.int .i64 xi, .string xt] rfl rfl ?c1 ?c2 ?c3 ?c4 ?c5 ?_))
            case c1 =>
              intro j u hj
              match j, hj with
              | 0, hj => simp at hj; subst hj; simp [Addr.add]
              | 1, hj => simp at hj; subst hj; simp [Addr.add]
            case c2 => intro u hu; simp at hu; rcases hu with rfl | rfl <;> rfl
            case c3 => unfold maxLen; omega
            case c4 => omega
            case c5 => have := HB2.out.size; simp; omega
            intro v3 w3 hown3 hgrow hn'
            clear hi hz0 hz1 hz2
            have R : w3.ownsRow w.heap.size 49 2 v3 (L ++ [x]).length (flat (L ++ [x])) ∧ Below w.heap.size w w3 := by
              refine ⟨?_, ?_⟩
              · rw [flat_snoc, HX.out, List.length_append]
                exact hown3
              · refine Below.grown ((HB2.out.alloc HB2.out.size _).alloc (by have := HB2.out.size; simp; omega) _) hgrow (by simp; have := HB2.out.size; omega) (fun j hj => (hown2.lt j hj).1)
            clear hown2 hown3 hgrow hn'
            have hLL : (L ++ [x]).length = L.length + 1 := by rw [List.length_append]; rfl
            have HLL := Lib.hid hLL
            rw [← hLL] at HR
            clear hLL
            go_wp2
            go_roundw
            case rel => exact ⟨L ++ [x], r, f, _, HP.out, by have := HLL.out; omega, HRR.out, rfl, by have := HF.out; omega, HR.out, R.1, R.2⟩
            case measure => exact hrs
    · obtain rfl : p = s.size := by omega
      have hR := hd
      rw [fin_end L (Nat.lt_irrefl _)] at hR
      have HR := Lib.hid hR
      have HO : Hid (Sl wr v0 L c) := sl_owns hown
      rw [tail_end] at hu
      subst hu
      clear hd hown hR hf husz
      go_wp2
      go_returns
      exact decPost_ok HR.out rfl HO.out hb
end Go.Proofs.YtojiffpmmgjpjaaDoor
