/-
  THE WALK of the landed Write of package header (8c902e7).
-/
import Derived.Test.YtacbhbejchjbiaaDoorHdFlags
import Derived.Test.YtacbhbejchjbiaaDoorHdOct
import Derived.Test.YtacbhbejchjbiaaDoorAdDoneB
import Derived.Deep.RegionHeld3
namespace Go.Proofs.YtacbhbejchjbiaaDoor
open Go.RowKit Go.Hd Go.Wr Go.Ad
attribute [local go_sem ↓ high] Fr_.loadF Fr_.storeF Fr_.v_cells Fr_.v_match
attribute [local go_sem] Fr_.C0 Fr_.C1 Fr_.C2 Fr_.C3 Fr_.C4 Fr_.C5 Fr_.C6 Fr_.C7 Fr_.C8 Fr_.C9 Fr_.C10 Fr_.C11 Fr_.C12 Fr_.C13 Fr_.C14 Fr_.C15 Fr_.C16 Fr_.C17 Fr_.loadF_new

/-- The Writer has these octets, at most N; the frame lies in its block; nothing else is written. -/
structure Wst (w : World) (b : Nat) (f : Fr) (L : List UInt8) (N : Nat) (wi : World) : Prop where
  wr : Wr wi b L
  box : Fr_.Box wi w.heap.size f
  but : But b w wi
  len : L.length ≤ N
  ne : w.heap.size ≠ b
theorem But.box {b g : Nat} {w w' : World} {f : Fr} (h : But b w w') (hb : Fr_.Box w g f) (hg : g ≠ b) : Fr_.Box w' g f := (h.block g hb.lt hg).trans hb
theorem Wst.step {w : World} {b : Nat} {f : Fr} {L M : List UInt8} {N m : Nat} {wi w' : World} (h : Wst w b f L N wi) (hw : Wr w' b (L ++ M)) (hb : But b wi w') (hm : M.length = m) : Wst w b f (L ++ M) (N + m) w' :=
  ⟨hw, But.box hb h.box h.ne, h.but.trans hb, by rw [List.length_append, hm]; have := h.len; omega, h.ne⟩
theorem Wst.below {w : World} {b : Nat} {f : Fr} {L : List UInt8} {N : Nat} {wi w' : World} (h : Wst w b f L N wi) (hb : Below wi.heap.size wi w') : Wst w b f L N w' :=
  ⟨h.wr.below hb, h.box.below hb h.box.lt, h.but.trans (But.of_below hb (Nat.le_refl _)), h.len, h.ne⟩

theorem Wst.drew {w : World} {b : Nat} {f : Fr} {L : List UInt8} {N : Nat} {wi : World} (h : Wst w b f L N wi) : Wst w b f L N wi.drew := h.below (Below.refl _ _).drew

section
variable {w : World} {b : Nat} {f : Fr} {L : List UInt8} {N : Nat} {wi : World}
theorem wst_num (k : Nat) (z : Int) (h : Wst w b f L N wi) (hz : 0 ≤ z ∧ z < (pow k : Int)) (hk : 1 ≤ k ∧ k ≤ 6) (hN : N ≤ 1000000) :
    Calls Tryd.prog 32 #[.pointer (some ⟨b, 0, none⟩), .int .i64 z, .int .i64 (k : Int)] wi fun e w' => e = .returned (.tuple #[]) ∧ Wst w b f (L ++ le z.toNat k) (N + k) w' := by
  obtain ⟨n, rfl⟩ : ∃ n : Nat, z = n := ⟨z.toNat, by have := hz.1; omega⟩
  refine (put_ok b L n k wi h.wr hk.1 hk.2 (by have := hz.2; omega) (by have := h.len; omega)).mono ?_
  rintro e w' ⟨he, h1, h2⟩
  exact ⟨he, h.step h1 h2 (le_len _ _)⟩
theorem wst_num1 (z : Int) (h : Wst w b f L N wi) (hz : 0 ≤ z ∧ z < 256) (hN : N ≤ 1000000) :
    Calls Tryd.prog 32 #[.pointer (some ⟨b, 0, none⟩), .int .i64 z, .int .i64 1] wi fun e w' => e = .returned (.tuple #[]) ∧ Wst w b f (L ++ le z.toNat 1) (N + 1) w' := wst_num 1 z h hz (by decide) hN
theorem wst_num2 (z : Int) (h : Wst w b f L N wi) (hz : 0 ≤ z ∧ z < 65536) (hN : N ≤ 1000000) :
    Calls Tryd.prog 32 #[.pointer (some ⟨b, 0, none⟩), .int .i64 z, .int .i64 2] wi fun e w' => e = .returned (.tuple #[]) ∧ Wst w b f (L ++ le z.toNat 2) (N + 2) w' := wst_num 2 z h hz (by decide) hN
theorem wst_num5 (z : Int) (h : Wst w b f L N wi) (hz : 0 ≤ z ∧ z < 1099511627776) (hN : N ≤ 1000000) :
    Calls Tryd.prog 32 #[.pointer (some ⟨b, 0, none⟩), .int .i64 z, .int .i64 5] wi fun e w' => e = .returned (.tuple #[]) ∧ Wst w b f (L ++ le z.toNat 5) (N + 5) w' := wst_num 5 z h hz (by decide) hN
theorem wst_addr (a : Int) (h : Wst w b f L N wi) (ha : vad a) (hN : N ≤ 1000) :
    Calls Tryd.prog 34 #[.pointer (some ⟨b, 0, none⟩), .int .u64 a] wi fun e w' => e = .returned (.tuple #[]) ∧ Wst w b f (L ++ be a.toNat) (N + 6) w' := by
  obtain ⟨n, rfl⟩ : ∃ n : Nat, a = n := ⟨a.toNat, by have := ha.1; omega⟩
  refine (write_ok b L n wi h.wr (by have := ha.2; omega) (by have := h.len; omega)).mono ?_
  rintro e w' ⟨he, h1, h2⟩
  exact ⟨he, h.step h1 h2 (be_len _)⟩
end

theorem kclass {k : Int} (hk : isK k) : (fro k ∧ nb k ∧ ¬ pl k ∧ ¬ k = 18) ∨ (fro k ∧ ¬ nb k ∧ ¬ pl k ∧ ¬ k = 18) ∨ (¬ fro k ∧ ¬ nb k ∧ ¬ pl k ∧ ¬ k = 18) ∨ (fro k ∧ nb k ∧ pl k ∧ k = 18) ∨ (fro k ∧ nb k ∧ pl k ∧ ¬ k = 18) := by
  rcases kinds hk with rfl | rfl | rfl | rfl | rfl | rfl | rfl | rfl | rfl | rfl | rfl | rfl | rfl | rfl | rfl | rfl | rfl | rfl | rfl <;> decide

/-- What a whole Write does. -/
def WPost (w : World) (b : Nat) (L M : List UInt8) (e : Ending) (w' : World) : Prop := e = .returned (.tuple #[]) ∧ Wr w' b (L ++ M) ∧ But b w w'

set_option maxRecDepth 100000 in
set_option maxHeartbeats 8000000 in
theorem progWrite_any (f : Fr) (w : World) (b : Nat) (L : List UInt8) (ht : HdTab w) (hf : Okf f) (h : Wr w b L) (hL : L.length ≤ 200) :
    Calls Tryd.prog 11 #[.pointer (some ⟨b, 0, none⟩), Fr_.v f] w (WPost w b L (oct f)) := by
  have CT := Lib.hid (traits_any f.kd _ (ht.below ((Below.refl _ _).alloc (Nat.le_refl _) (.cells (Fr_.C f) 34)) (Nat.le_refl _)))
  unfold trv at CT
  have CFL := fld4 (nm f.kd) (cls f.kd) (rsp f.kd) (ln0 f.kd) (us f.kd)
  have CF := Lib.hid (flags_any f)
  have CH1 := Lib.hid (has_any (us f.kd) 256)
  have CH2 := Lib.hid (has_any (us f.kd) 512)
  have CH3 := Lib.hid (has_any (us f.kd) 1024)
  have CH4 := Lib.hid (has_any (us f.kd) 4096)
  have CH5 := Lib.hid (has_any (us f.kd) 8192)
  rw [hs_from hf.kd] at CH1
  rw [hs_third hf.kd] at CH2
  rw [hs_seq hf.kd] at CH3
  rw [hs_cat hf.kd] at CH4
  rw [hs_key hf.kd] at CH5
  have st0 : Wst w b f L 200 (w.alloc (.cells (Fr_.C f) 34)) :=
    ⟨h.below ((Below.refl _ _).alloc (Nat.le_refl _) _), Fr_.Box.newC w f, (But.refl b w).alloc _, hL, Nat.ne_of_gt h.lt⟩
  have st := Lib.hid st0
  have sb := setv_bounds f
  have wf1 : RowKit.wrap64 (64 * f.po) = 64 * f.po := IntWalk.wrap64_in _ (by have := hf.po; omega)
  have wf2 : RowKit.wrap64 (setv f + 64 * f.po) = setv f + 64 * f.po := IntWalk.wrap64_in _ (by have := hf.po; omega)
  have wf3 : IntKind.i64.wrap (64 * f.po) = 64 * f.po := IntWalk.i64_in _ (by have := hf.po; omega)
  have wf4 : IntKind.i64.wrap (setv f + 64 * f.po) = setv f + 64 * f.po := IntWalk.i64_in _ (by have := hf.po; omega)
  have Z1 := Lib.hid (show 0 ≤ f.kd ∧ f.kd < 256 from ⟨by have := hf.kd.1; omega, by have := hf.kd.2; omega⟩)
  have Z2 := Lib.hid (show 0 ≤ setv f + 64 * f.po ∧ setv f + 64 * f.po < 256 from by have := hf.po; omega)
  have Z3 := Lib.hid (show 0 ≤ f.du ∧ f.du < 65536 from by have := hf.du; omega)
  have HO := Lib.hid hf
  clear ht h hL st0 sb
  go_enter Tryd.func11, Tryd.ntmps11
  go_wp2_with (first
    | (go_at_call 25; refine CT.out.mono ?_; rintro e w2 ⟨rfl, hb⟩; have st2 := st.out.below hb; clear st hb; have st := Lib.hid st2; have e1 := st2.box.all; have l1 := st2.box.loadF; clear st2)
    | (go_at_call 32; with_reducible refine (wst_num1 _ st.out Z1.out (by decide)).mono ?_; rintro e w3 ⟨rfl, st3⟩; clear st; have st := Lib.hid st3; clear e1 l1; have e1 := st3.box.all; have l1 := st3.box.loadF; clear st3))
  have l1' := st.out.drew.box.all
  have st' := st.out.drew
  go_region_held3 (fun w' => (∀ j : Nat, w'.cell? ⟨w.heap.size, j, none⟩ = (Fr_.C f)[j]?) ∧ (Fr_.LoadF ⟨w.heap.size, 0, none⟩).run Tryd.prog w' = .ok (Fr_.v f) w' ∧ Fr_.Box w' w.heap.size f ∧ But b w w') (first | exact ⟨by assumption, by assumption, by assumption, by assumption⟩ | exact ⟨e1, st'.box.loadF, st'.box, st'.but⟩ | go_keep)
    (first
    | (go_at_call 33; refine (CF.out _).mono ?_; rintro e w4 ⟨rfl, hb⟩; have st4 := st'.below hb; have q0 := st4.box.all; have q1 := st4.box.loadF; have q2 := st4.box; have q3 := st4.but)
    | (go_at_call 32; refine (wst_num1 _ st4 Z2.out (by decide)).mono ?_; rintro e w5 ⟨rfl, st5⟩; have r0 := st5.box.all; have r1 := st5.box.loadF; have r2 := st5.box; have r3 := st5.but))
  clear st e1 l1 l1' st' hb q0 q1 q2 q3 st4 r1 r2 r3 CT CF wf1 wf2 wf3 wf4
  have st := Lib.hid st5
  have e1 := r0
  clear st5 r0
  have wg1 : nb f.kd → RowKit.wrap64 (16 * f.sq) = 16 * f.sq := fun h => IntWalk.wrap64_in _ (by have := hf.sq h; omega)
  have wg2 : nb f.kd → RowKit.wrap64 (16 * f.sq + f.fg) = 16 * f.sq + f.fg := fun h => IntWalk.wrap64_in _ (by have := hf.sq h; have := hf.fg; omega)
  have wg3 : nb f.kd → IntKind.i64.wrap (16 * f.sq) = 16 * f.sq := fun h => IntWalk.i64_in _ (by have := hf.sq h; omega)
  have wg4 : nb f.kd → IntKind.i64.wrap (16 * f.sq + f.fg) = 16 * f.sq + f.fg := fun h => IntWalk.i64_in _ (by have := hf.sq h; have := hf.fg; omega)
  have Z4 : nb f.kd → Hid (0 ≤ 16 * f.sq + f.fg ∧ 16 * f.sq + f.fg < 65536) := fun h => ⟨by have := hf.sq h; have := hf.fg; omega, by have := hf.sq h; have := hf.fg; omega⟩
  have Z5 : pl f.kd → Hid (0 ≤ f.ct ∧ f.ct < 256) := fun h => ⟨(hf.ct h).1, by have := hf.ct h; omega⟩
  have Z6 : f.kd = 18 → Hid (0 ≤ f.ky ∧ f.ky < 65536) := fun h => ⟨(hf.ky h).1, by have := hf.ky h; omega⟩
  have Z7 : f.kd = 18 → Hid (0 ≤ f.cn ∧ f.cn < 1099511627776) := fun h => ⟨(hf.cn h).1, by have := hf.cn h; omega⟩
  have Z8 : Hid (vad f.ta) := hf.ta
  have Z9 : fro f.kd → Hid (vad f.fa) := fun h => (hf.fa h).1
  have Z10 : nb f.kd → Hid (vad f.th) := fun h => hf.th h
  have hkk := hf.kd
  clear hf Z1 Z2
  have HW : Hid (∀ M : List UInt8, M = oct f → ∀ w', Wr w' b (L ++ M) → But b w w' → WPost w b L (oct f) (.returned (.tuple #[])) w') := fun M hM w' h1 h2 => ⟨rfl, hM ▸ h1, h2⟩
  have HE : Hid (oct f = o1 f ++ o2 f ++ o3 f ++ o4 f ++ o5 f) := rfl
  generalize us f.kd = u at *
  rcases kclass hkk with ⟨c1, c2, c3, c4⟩ | ⟨c1, c2, c3, c4⟩ | ⟨c1, c2, c3, c4⟩ | ⟨c1, c2, c3, c4⟩ | ⟨c1, c2, c3, c4⟩
  case' inr.inr.inr.inl => by_cases hky : f.ky = 0
  all_goals
    · first | (rw [decide_eq_true c1] at CH1; have Z9 := Z9 c1) | (rw [decide_eq_false c1] at CH1; clear Z9)
      first | (rw [decide_eq_true c2] at CH2 CH3; have Z4 := Z4 c2; have Z10 := Z10 c2; have wg1 := wg1 c2; have wg2 := wg2 c2; have wg3 := wg3 c2; have wg4 := wg4 c2) | (rw [decide_eq_false c2] at CH2 CH3; clear Z4 Z10 wg1 wg2 wg3 wg4)
      first | (rw [decide_eq_true c3] at CH4; have Z5 := Z5 c3) | (rw [decide_eq_false c3] at CH4; clear Z5)
      first | (rw [decide_eq_true c4] at CH5; have Z6 := Z6 c4; have Z7 := Z7 c4) | (rw [decide_eq_false c4] at CH5; clear Z6 Z7)
      have E2 : Hid (o2 f = if fro f.kd then be f.fa.toNat else []) := rfl
      have E3 : Hid (o3 f = if nb f.kd then be f.th.toNat ++ le (16 * f.sq + f.fg).toNat 2 else []) := rfl
      have E4 : Hid (o4 f = if pl f.kd then le f.ct.toNat 1 else []) := rfl
      have E5 : Hid (o5 f = if f.kd = 18 then le f.ky.toNat 2 ++ (if f.ky = 0 then [] else le f.cn.toNat 5) else []) := rfl
      have K1 := Lib.hid c1
      have K2 := Lib.hid c2
      have K3 := Lib.hid c3
      have K4 := Lib.hid c4
      clear c1 c2 c3 c4 hkk
      go_wp2_with (first
      | (go_at_call 32; with_reducible refine (wst_num2 _ st.out Z3.out (by decide)).mono ?_; rintro e w' ⟨rfl, st6⟩; clear st e1; have st := Lib.hid st6; have e1 := st6.box.all; clear st6)
      | (go_at_call 32; with_reducible refine (wst_num2 _ st.out Z4.out (by decide)).mono ?_; rintro e w' ⟨rfl, st6⟩; clear st e1; have st := Lib.hid st6; have e1 := st6.box.all; clear st6)
      | (go_at_call 32; with_reducible refine (wst_num1 _ st.out Z5.out (by decide)).mono ?_; rintro e w' ⟨rfl, st6⟩; clear st e1; have st := Lib.hid st6; have e1 := st6.box.all; clear st6)
      | (go_at_call 32; with_reducible refine (wst_num2 _ st.out Z6.out (by decide)).mono ?_; rintro e w' ⟨rfl, st6⟩; clear st e1; have st := Lib.hid st6; have e1 := st6.box.all; clear st6)
      | (go_at_call 32; with_reducible refine (wst_num2 0 st.out (by decide) (by decide)).mono ?_; rintro e w' ⟨rfl, st6⟩; clear st e1; have st := Lib.hid st6; have e1 := st6.box.all; clear st6)
      | (go_at_call 32; with_reducible refine (wst_num5 _ st.out Z7.out (by decide)).mono ?_; rintro e w' ⟨rfl, st6⟩; clear st e1; have st := Lib.hid st6; have e1 := st6.box.all; clear st6)
      | (go_at_call 34; with_reducible refine (wst_addr _ st.out Z8.out (by decide)).mono ?_; rintro e w' ⟨rfl, st6⟩; clear st e1; have st := Lib.hid st6; have e1 := st6.box.all; clear st6)
      | (go_at_call 34; with_reducible refine (wst_addr _ st.out Z9.out (by decide)).mono ?_; rintro e w' ⟨rfl, st6⟩; clear st e1; have st := Lib.hid st6; have e1 := st6.box.all; clear st6)
      | (go_at_call 34; with_reducible refine (wst_addr _ st.out Z10.out (by decide)).mono ?_; rintro e w' ⟨rfl, st6⟩; clear st e1; have st := Lib.hid st6; have e1 := st6.box.all; clear st6)
      | (go_at_call 29; with_reducible refine (CH1.out _).mono ?_; rintro e w' ⟨rfl, rfl⟩)
      | (go_at_call 29; with_reducible refine (CH2.out _).mono ?_; rintro e w' ⟨rfl, rfl⟩)
      | (go_at_call 29; with_reducible refine (CH3.out _).mono ?_; rintro e w' ⟨rfl, rfl⟩)
      | (go_at_call 29; with_reducible refine (CH4.out _).mono ?_; rintro e w' ⟨rfl, rfl⟩)
      | (go_at_call 29; with_reducible refine (CH5.out _).mono ?_; rintro e w' ⟨rfl, rfl⟩))
      go_returns
      refine HW.out _ ?_ _ (by have := st.out.wr; simp only [List.append_assoc] at this; exact this) st.out.but
      rw [HE.out, E2.out, E3.out, E4.out, E5.out]
      have k1 := K1.out
      have k2 := K2.out
      have k3 := K3.out
      have k4 := K4.out
      first | rw [if_pos k1] | rw [if_neg k1]
      first | rw [if_pos k2] | rw [if_neg k2]
      first | rw [if_pos k3] | rw [if_neg k3]
      first | rw [if_pos k4] | rw [if_neg k4]
      first | rw [if_pos hky, hky] | rw [if_neg hky] | skip
      simp [o1]
end Go.Proofs.YtacbhbejchjbiaaDoor
