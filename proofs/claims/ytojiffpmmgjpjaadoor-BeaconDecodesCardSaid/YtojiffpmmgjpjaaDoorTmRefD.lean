/-
  WALKS of the reference of layer 13: Decode.
-/
import Derived.Test.YtojiffpmmgjpjaaDoorTmDec
import Derived.Test.YtojiffpmmgjpjaaDoorTmRefE
namespace Go.Proofs.YtojiffpmmgjpjaaDoor
open Go.RowKit Go.Bs Go.Tm

theorem cnt_byt {c p : Nat} (hp : p < 256) : cnt (c : Int) (p : Int) = true ↔ c < p := by rw [cnt_iff]; omega
theorem bel_drewN {B : Nat} {a w : World} (h : Below B a w) (q : Nat) : Below B a (w.drewN q) := ⟨h.os, h.tape, h.output, h.size, h.block⟩
theorem bel_set4 {B b : Nat} {a w : World} (h : Below B a w) (hb : B ≤ b) (v0 v1 v2 v3 : Value) : Below B a ((((w.setCell ⟨b, 0, none⟩ v0).setCell ⟨b, 1, none⟩ v1).setCell ⟨b, 2, none⟩ v2).setCell ⟨b, 3, none⟩ v3) :=
  (((h.setCell (p := ⟨b, 0, none⟩) hb _).setCell (p := ⟨b, 1, none⟩) hb _).setCell (p := ⟨b, 2, none⟩) hb _).setCell (p := ⟨b, 3, none⟩) hb _
theorem Dst.like {w W W' : World} {c p : Int} {g : Bool} {m : Nat} (h : Dst w W c p g m) (e : W'.heap = W.heap) (e1 : W'.os = W.os) (e2 : W'.tape = W.tape) (e3 : W'.output = W.output) : Dst w W' c p g m :=
  have k (p : Addr) : W'.cell? p = W.cell? p := World.cell?_of_block (w := W) (by rw [e])
  have f (p : Addr) : W'.frozen? p = W.frozen? p := World.frozen?_of_block (w := W) (by rw [e])
  ⟨(k _).trans h.r0, (k _).trans h.r1, (k _).trans h.r2, (k _).trans h.r3, (k _).trans h.x0, (k _).trans h.x1, (k _).trans h.x2, (k _).trans h.x3, ⟨e1.trans h.bel.os, e2.trans h.bel.tape, e3.trans h.bel.output, by rw [e]; exact h.bel.size, fun i hi => by rw [e]; exact h.bel.block i hi⟩, fun j => (f _).trans (h.z j), fun j => (f _).trans (h.y j), by rw [e]; exact h.sz⟩
theorem Dst.new2 (w : World) (c p : Int) (g : Bool) (m q q' : Nat) : Dst w ((((w.alloc (.cells #[.int .i64 0, .int .i64 0, .bool false, .int .u64 0] 24)).drewN q).alloc (.cells #[.int .i64 c, .int .i64 p, .bool g, .int .u64 (m : Int)] 24)).drewN q') c p g m :=
  (Dst.new w c p g m).like rfl rfl rfl rfl
theorem beyond_yes {o n : Nat} (h3 : 4 ≤ n) (h : 8 < o + (n - 3)) : 8 < (o : Int) + n - 3 := by omega
theorem beyond_no {o n : Nat} (h3 : 4 ≤ n) (h : ¬ 8 < o + (n - 3)) : ¬ 8 < (o : Int) + n - 3 := by omega
theorem tmod2 (x : Nat) : (x : Int).tmod 2 = (x : Int) % 2 := Int.tmod_eq_emod_of_nonneg (by omega)

set_option maxRecDepth 100000 in
set_option maxHeartbeats 4000000 in
theorem refDecode13_any (a : ByteArray) (w : World) (hsz : a.size ≤ 140737488351232) :
    Calls Tryd.prog 58 #[.string a] w fun e w' => e = .returned (.tuple #[Tm_.v (dec a).1, .int .i64 (dec a).2]) ∧ Below w.heap.size w w' := by
  by_cases h1 : a.size < 4
  · have HD := Lib.hid (dec_short h1)
    have h1' : (a.size : Int) < 4 := by omega
    clear h1
    go_enter Tryd.func58, Tryd.ntmps58
    go_wp2
    go_returns
    exact ⟨by rw [HD.out]; rfl, (Below.refl _ _).alloc (Nat.le_refl _) _⟩
  by_cases h2 : 11 < a.size
  · have HD := Lib.hid (dec_long h2)
    have h1' : ¬ (a.size : Int) < 4 := by omega
    have h2' : 11 < (a.size : Int) := by omega
    clear h1 h2
    go_enter Tryd.func58, Tryd.ntmps58
    go_wp2
    go_returns
    exact ⟨by rw [HD.out]; rfl, (Below.refl _ _).alloc (Nat.le_refl _) _⟩
  have h1' : ¬ (a.size : Int) < 4 := by omega
  have h2' : ¬ 11 < (a.size : Int) := by omega
  have p0 : 0 < a.size := by omega
  have p1 : 1 < a.size := by omega
  have p2 : 2 < a.size := by omega
  have b0 := byt_get p0
  have b1 := byt_get p1
  have b2 := byt_get p2
  have l0 := byt_lt a 0
  have l1 := byt_lt a 1
  have HG := Lib.hid (byt_lt a 2)
  have HDI := Lib.hid fun h => dec_in (a := a) (by omega) (by omega) h
  have HDR := Lib.hid fun h => dec_range (a := a) (by omega) (by omega) h
  have HS4 := Lib.hid (show 4 ≤ a.size by omega)
  have HS11 := Lib.hid (show a.size ≤ 11 by omega)
  clear h1 h2
  by_cases hc : byt a 0 < byt a 1
  case neg =>
    have HD := Lib.hid (HDR.out (by
      have := cnt_byt (c := byt a 0) l1
      cases h : cnt (byt a 0 : Int) (byt a 1 : Int)
      · rfl
      · exact absurd (this.1 h) hc))
    clear HDR HDI
    have HB : Hid (Below w.heap.size w (w.alloc (.cells #[.int .i64 0, .int .i64 0, .bool false, .int .u64 0] 24))) := (Below.refl _ _).alloc (Nat.le_refl _) _
    generalize byt a 0 = c at *
    generalize byt a 1 = p at *
    generalize byt a 2 = z at *
    by_cases hp : p < 1
    · have hp' : (p : Int) < 1 := by omega
      clear hc hp l0 l1
      go_enter Tryd.func58, Tryd.ntmps58
      go_wp2
      go_quiet (fail)
      go_wp2
      go_returns
      exact ⟨by rw [HD.out]; rfl, bel_set4 (bel_drewN HB.out _) (Nat.le_refl _) _ _ _ _⟩
    · have hp' : decide ((p : Int) < 1) = false := decide_eq_false (by omega)
      have hc' : p ≤ c := by omega
      clear hc hp l0 l1
      go_enter Tryd.func58, Tryd.ntmps58
      go_wp2
      go_quiet (fail)
      go_wp2
      go_returns
      exact ⟨by rw [HD.out]; rfl, bel_set4 (bel_drewN HB.out _) (Nat.le_refl _) _ _ _ _⟩
  have HD := Lib.hid (HDI.out ((cnt_byt l1).2 hc))
  have HC := Lib.hid ((cnt_byt l1).2 hc)
  clear HDR HDI
  have n0 : decide ((byt a 1 : Int) < 1) = false := decide_eq_false (by omega)
  have n1 : ¬ byt a 1 ≤ byt a 0 := by omega
  have q0 : IntKind.i64.wrap (byt a 0 : Int) = byt a 0 := IntWalk.i64_in _ (by omega)
  have q1 : IntKind.i64.wrap (byt a 1 : Int) = byt a 1 := IntWalk.i64_in _ (by omega)
  have q2 : IntKind.i64.wrap (byt a 2 : Int) = byt a 2 := IntWalk.i64_in _ (by have := HG.out; omega)
  have g1 : ((byt a 2 : Int) % 2 == 1) = grp a := by
    unfold grp
    rw [show (byt a 2 : Int) % 2 = ((byt a 2 % 2 : Nat) : Int) by omega]
    rcases Nat.mod_two_eq_zero_or_one (byt a 2) with e | e <;> rw [e] <;> rfl
  have g2 : (byt a 2 : Int) - (byt a 2 : Int) % 2 = off a := by unfold off; omega
  have t2 := tmod2 (byt a 2)
  have HO : Hid (off a ≤ 255) := by unfold Hid off; have := HG.out; omega
  have q3 : IntKind.i64.wrap (off a : Int) = off a := IntWalk.i64_in _ (by have := HO.out; omega)
  have HM : Hid (bmp a = bmk (off a) a (a.size - 3)) := rfl
  have HEB := Lib.hid fun (h : 8 < off a + (a.size - 3)) => enc_beyond h (byt a 0 : Int) (byt a 1 : Int) (grp a) (bmp_lt a)
  have HMl := Lib.hid (bmp_lt a)
  have HN := Lib.hid fun m => Dst.new w (byt a 0 : Int) (byt a 1 : Int) (grp a) m
  clear hc l0 l1
  generalize byt a 0 = c at *
  generalize byt a 1 = p at *
  generalize byt a 2 = z at *
  generalize grp a = g at *
  generalize off a = o at *
  generalize bmp a = M at *
  have ho := HO.out
  have hs11 := HS11.out
  have HX0 := Lib.hid fun q q' => Dst.new2 w (c : Int) (p : Int) g 0 q q'
  by_cases hf : 8 < o + (a.size - 3)
  · have HF : Hid (dec a = (zt, 3)) := HD.out.trans (if_neg fun h => HEB.out hf h.2)
    have hf' := beyond_yes HS4.out hf
    clear hf
    go_enter Tryd.func58, Tryd.ntmps58
    go_wp2
    go_quiet (fail)
    go_wp2
    go_region
    go_wp2
    go_quiet (fail)
    go_wp2
    go_returns
    exact ⟨by rw [HF.out]; rfl, bel_set4 (HX0.out _ _).bel (Nat.le_refl _) _ _ _ _⟩
  have hf' := beyond_no HS4.out hf
  have HFo : Hid (o + (a.size - 3) ≤ 8) := Nat.le_of_not_lt hf
  clear hf
  go_enter Tryd.func58, Tryd.ntmps58
  go_wp2
  go_quiet (fail)
  go_wp2
  go_region
  go_wp2
  go_quiet (fail)
  go_wp2
  clear b0 b1 b2 n0 n1 q0 q1 q2 q3 g1 g2 t2 hf' p0 p1 p2 h1' h2'
  go_loopg [6] (a.size - 3) (fun n i wx => ∃ j : Nat, j + n = a.size ∧ 3 ≤ j ∧ i = .int .i64 (j : Int) ∧ Dst w wx c p g (bmk o a (j - 3)))
  case atStart => exact ⟨3, by have := HS4.out; omega, by decide, rfl, HX0.out _ _⟩
  case round =>
    obtain ⟨j, hjn, hj3, rfl, hX⟩ := hrel
    have HX := Lib.hid hX
    clear hX
    cases gk with
    | zero =>
      obtain rfl : j = a.size := hjn
      rw [← HM.out] at HX
      have CK := Lib.hid fun w => refCheck13_any (c : Int) (p : Int) g M w HMl.out
      have CE := Lib.hid fun w => refEncode13_any (c : Int) (p : Int) g M w HMl.out HC.out
      obtain ⟨r0, r1, r2, r3, x0, x1, x2, x3, -, z, -, -⟩ := HX.out
      clear r0 r1 r2 r3 z
      by_cases hk : chk (c : Int) (p : Int) M = 0
      · by_cases he : enc (c : Int) (p : Int) g M = a
        · have HF : Hid (dec a = (⟨(c : Int), (p : Int), g, (M : Int)⟩, 0)) := HD.out.trans (if_pos ⟨hk, he⟩)
          rw [hk] at CK
          rw [he] at CE
          clear HD hk he HEB
          go_wp2_with (first
            | (go_at_call 54; refine (CK.out _).mono ?_; rintro e w1 ⟨rfl, hb⟩; have HX1 := Lib.hid (HX.out.below HX.out.sz hb); obtain ⟨-, -, -, -, x0, x1, x2, x3, -, -, -, -⟩ := HX1.out; clear hb)
            | (go_at_call 29; refine (CE.out _).mono ?_; rintro e w2 ⟨rfl, hb⟩; have HX2 := Lib.hid (HX1.out.below HX1.out.sz hb); obtain ⟨r0, r1, r2, r3, x0, x1, x2, x3, -, z, -, -⟩ := HX2.out; have z0 := z 0; have z1 := z 1; have z2 := z 2; have z3 := z 3; clear hb z))
          refine ret_tim Tryd.results58 rfl rfl (set4 _ _ _ _ r0 r1 r2 r3) rfl ?_
          exact ⟨by rw [HF.out]; rfl, bel_set4 HX2.out.bel (Nat.le_refl _) _ _ _ _⟩
        · have HF : Hid (dec a = (zt, 3)) := HD.out.trans (if_neg fun h => he h.2)
          have hne := ba_ne he
          rw [hk] at CK
          clear HD hk he HEB
          generalize enc (c : Int) (p : Int) g M = E at *
          go_wp2_with (first
            | (go_at_call 54; refine (CK.out _).mono ?_; rintro e w1 ⟨rfl, hb⟩; have HX1 := Lib.hid (HX.out.below HX.out.sz hb); obtain ⟨-, -, -, -, x0, x1, x2, x3, -, -, -, -⟩ := HX1.out; clear hb)
            | (go_at_call 29; refine (CE.out _).mono ?_; rintro e w2 ⟨rfl, hb⟩; have HX2 := Lib.hid (HX1.out.below HX1.out.sz hb); obtain ⟨r0, r1, r2, r3, x0, x1, x2, x3, -, z, -, -⟩ := HX2.out; have z0 := z 0; have z1 := z 1; have z2 := z 2; have z3 := z 3; clear hb z))
          refine ret_tim Tryd.results58 rfl rfl (set4 _ _ _ _ r0 r1 r2 r3) rfl ?_
          exact ⟨by rw [HF.out]; rfl, bel_set4 HX2.out.bel (Nat.le_refl _) _ _ _ _⟩
      · have HF : Hid (dec a = (zt, 3)) := HD.out.trans (if_neg fun h => hk h.1)
        have hk' : ((chk (c : Int) (p : Int) M) != 0) = true := by simp [hk]
        clear HD HEB CE
        generalize chk (c : Int) (p : Int) M = r at *
        go_wp2_with (go_at_call 54; refine (CK.out _).mono ?_; rintro e w1 ⟨rfl, hb⟩; have HX1 := Lib.hid (HX.out.below HX.out.sz hb); obtain ⟨r0, r1, r2, r3, x0, x1, x2, x3, -, z, -, -⟩ := HX1.out; have z0 := z 0; have z1 := z 1; have z2 := z 2; have z3 := z 3; clear hb z)
        refine ret_tim Tryd.results58 rfl rfl (set4 _ _ _ _ r0 r1 r2 r3) rfl ?_
        exact ⟨by rw [HF.out]; rfl, bel_set4 HX1.out.bel (Nat.le_refl _) _ _ _ _⟩
    | succ n =>
      have hlt : j < a.size := by omega
      have hlti : (j : Int) < a.size := by omega
      have hj8 : o + (j - 3) < 8 := by have := HFo.out; omega
      have bj := byt_get hlt
      have lj := byt_lt a j
      have hw := IntWalk.u64_in (byt a j : Int) (by omega)
      have CH := Lib.hid fun m w => refHas_any (byt a j) m w (by omega)
      have HA0 := Lib.hid (acc_zero o a (j - 3))
      have HA8 := Lib.hid (acc_full (a := a) hj8)
      have HAl := Lib.hid fun k => acc_lt (a := a) (k := k) hj8
      have HAn := Lib.hid fun k (hk : k < 8) => acc_no (f := o) (a := a) (i := j - 3) hk
      have HAy := Lib.hid fun k (hk : k < 8) => acc_yes (a := a) hj8 hk
      have hjj : 3 + (j - 3) = j := by omega
      rw [hjj] at HAn HAy
      have HJ := Lib.hid hj3
      have HJ8 := Lib.hid hj8
      have HSz := Lib.hid (show j - 3 + 1 = j + 1 - 3 by omega)
      rw [HSz.out] at HA8
      have HLj := Lib.hid lj
      have hj11 : j ≤ 11 := Nat.le_trans (Nat.le_of_lt hlt) HS11.out
      have hi0 : (0 : Int) ≤ (j : Int) := by omega
      clear hjj hj3 hj8
      generalize byt a j = y at *
      go_wp2
      go_loopg [7] 8 (fun n2 x wy => ∃ m : Nat, m + n2 = 8 ∧ x = .int .i64 (m : Int) ∧ Dst w wy c p g (acc o a (j - 3) m))
      case atStart => exact ⟨0, rfl, rfl, by rw [HA0.out]; exact HX.out⟩
      case round =>
        obtain ⟨m, hmn, rfl, hX2⟩ := hrel
        have HX2 := Lib.hid hX2
        clear hX2
        cases gk with
        | zero =>
          obtain rfl : m = 8 := hmn
          rw [HA8.out] at HX2
          go_wp2
          go_roundg n
          case measure => omega
          case rel => exact ⟨j + 1, by omega, by have := HJ.out; omega, by go_num, HX2.out⟩
        | succ n2 =>
          have hm : m < 8 := by omega
          have hmi : (m : Int) < 8 := by omega
          have hx3 := HX2.out.x3
          have hy3 := HX2.out.y 3
          cases hb : has y (m : Int)
          · have HN1 := Lib.hid (HAn.out m hm hb)
            clear hx3 hy3
            go_wp2_with (go_at_call 75; refine (CH.out _ _).mono ?_; rintro e w' ⟨rfl, rfl⟩)
            go_roundg n2
            case measure => omega
            case rel => exact ⟨m + 1, by omega, by go_num, by rw [HN1.out]; exact HX2.out⟩
          · have HY1 : Hid (acc o a (j - 3) (m + 1) = wth (acc o a (j - 3) m) (8 * ((o : Int) + j - 3) + m)) := by
              have := HAy.out m hm hb
              rw [show (o : Int) + ((j - 3 : Nat) : Int) = (o : Int) + j - 3 by have := HJ.out; omega] at this
              exact this
            have CW := Lib.hid fun w => refWith_any (acc o a (j - 3) m) (8 * ((o : Int) + j - 3) + m) w (HAl.out m)
            have HX3 := Lib.hid (HX2.out.set (wth (acc o a (j - 3) m) (8 * ((o : Int) + j - 3) + m)))
            rw [← HY1.out] at HX3 CW
            generalize acc o a (j - 3) m = u at *
            go_wp2_with (first
              | (go_at_call 75; refine (CH.out _ _).mono ?_; rintro e w' ⟨rfl, rfl⟩)
              | (go_at_call 76; refine (CW.out _).mono ?_; rintro e w' ⟨rfl, rfl⟩))
            go_roundg n2
            case measure => omega
            case rel => exact ⟨m + 1, by omega, by go_num, HX3.out⟩
end Go.Proofs.YtojiffpmmgjpjaaDoor
