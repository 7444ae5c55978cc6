/-
  THE LAW WindowSingle over the walks.
-/
import Derived.Test.YtldeflpaghbmmaaWnSame
import Derived.Test.YtldeflpaghbmmaaWnPut2
import Derived.Deep.RegionWith
import Derived.Deep.DeepCutAuto
import Derived.Deep.RegionHeld
import Derived.Deep.MidRow
namespace Go.Proofs.Ytldeflpaghbmmaa
open Go.RowKit Go.Wn Go.Sq Go.Wr
attribute [local go_sem ↓ high] Ww_.loadF Ww_.storeF Ww_.v_cells Ww_.v_match
attribute [local go_sem] Ww_.C0 Ww_.C1 Ww_.C2 Ww_.C3 Ww_.loadF_new Ww_.storeF_zero Oper.semAt_some

/-- The state of the law: one packet in progress. -/
def sg (m : Int) (d : ByteArray) : St := ⟨add m 1, 0, [⟨5, m, 0, false, d⟩], false⟩
theorem sg_used {m : Int} (d : ByteArray) : used (sg m d) = 1 := by
  show dist m (add m 1) = 1
  unfold dist add md
  omega
theorem sg_room {m : Int} (d : ByteArray) : room (sg m d) = 0 := by
  show wid 0 - used (sg m d) = 0
  rw [sg_used]; rfl
theorem sg_put0 {m : Int} (d : ByteArray) (hd : ¬ 2048 < d.size) : put ⟨m, 0, [], false⟩ 5 d = (sg m d, m, 0) := by
  refine put_go hd ?_
  show ¬ (wid 0 - dist m m = 0)
  have : dist m m = 0 := by unfold dist md; omega
  rw [this]; decide
theorem sg_put1 {m : Int} (d : ByteArray) (hd : ¬ 2048 < d.size) : put (sg m d) 6 d = (zst, 0, 6) := put_full hd (sg_room d)
theorem sg_acked {m : Int} (d : ByteArray) : acked (sg m d) m 1 = (⟨add m 1, 0, [], false⟩, [5]) := by
  have h0 : dist m m = 0 := by unfold dist md; omega
  have h1 : ak m 1 ⟨5, m, 0, false, d⟩ = true := by
    show (true && bt 1 (dist m m)) = true
    rw [h0]; rfl
  unfold acked sg chg ids trimL
  simp [h1, mk]
theorem sg_bgn (m : Int) (d : ByteArray) : bgn (sg m d) = m := rfl
theorem sg_room2 (m : Int) : room ⟨m, 0, [], false⟩ = 1 := by
  show wid 0 - dist m m = 1
  have : dist m m = 0 := by unfold dist md; omega
  rw [this]; rfl

/-- What the law's last line reads: the state, the identifier. -/
structure Fi (W : World) (g : Nat) (x : Wn) (s : St) (bb oo c : Nat) (wi : World) : Prop where
  k : Kp W g x s wi
  i : Is_.Sl wi (some ⟨bb, oo, none⟩) [5] c
theorem Fi.keep {W : World} {g : Nat} {x : Wn} {s : St} {bb oo c : Nat} (wi wj : World) (h : Fi W g x s bb oo c wi) (hb : Below wi.heap.size wi wj) : Fi W g x s bb oo c wj := ⟨h.k.keep hb, h.i.below hb⟩
theorem Fi.cell {W : World} {g : Nat} {x : Wn} {s : St} {bb oo c : Nat} {wi : World} (h : Fi W g x s bb oo c wi) : wi.cell? ⟨bb, oo, none⟩ = some (.int .i64 5) := by
  obtain ⟨b', o', e', -, h'⟩ := h.i.lies 0 (by decide)
  cases e'
  exact h'

theorem wrap_mod22 (n : Int) (W : World) : Calls Try.prog 16 #[.int .i64 n] W fun e w' => e = .returned (.int .i64 (md n)) ∧ W = w' := r22_mod_any n W

set_option maxRecDepth 100000 in
set_option maxHeartbeats 8000000 in
theorem windowSingle_walk0 (n : Int) (_ : (Lit.int .i64 n).wf = true) (d : ByteArray) (_ : d.size ≤ 140737488351232) {W : World} :
    Calls Try.prog 8 #[.int .i64 n, .string d] W fun e w' => e = .returned (.bool true) ∧ Below W.heap.size W w' := by
  have CL := Lib.hid lives22_any
  have CN := Lib.hid (fun w => wn_new_any n w)
  have CP := Lib.hid (fun w => wn_put_any ⟨md n, 0, none, 0, 0, false⟩ ⟨md n, 0, [], false⟩ 5 d w ⟨rfl, rfl, rfl, rfl, Sn_.Sl.none _⟩ (Nat.zero_le _) (show wid 0 ≤ 9223372036854775807 by decide))
  unfold PutPost at CP
  by_cases hd : 2048 < d.size
  · rw [put_long hd] at CP
    have hd' : (2048 : Int) < (d.size : Int) := by omega
    generalize md n = M at *
    clear hd
    go_enter Try.func8, Try.ntmps8
    go_wp2_with (go_at_call 15; refine (CN.out _).mono ?_; rintro e w1 ⟨rfl, hw1⟩; have B1 := Lib.hid hw1; clear hw1)
    refine (CP.out w1).mono ?_
    rintro e w2 ⟨x1, rfl, hO1⟩
    obtain ⟨w3, hw3⟩ : ∃ w3, w2.alloc (.cells (Ww_.C x1) 29) = w3 := ⟨_, rfl⟩
    have hz3 := Ww_.storeF_zero w2 x1
    rw [hw3] at hz3
    have K3 := Lib.hid (show Kp W w2.heap.size x1 zst w3 from hw3 ▸ Kp.new hO1 B1.out)
    clear hO1
    go_wp2_with (go_at_call 10; refine (CL.out _).mono ?_; rintro e w4 ⟨rfl, hw4⟩; have K4 := Lib.hid (K3.out.keep hw4); clear hw4)
    go_returns
    exact ⟨rfl, K4.out.bel⟩
  · have hd' : ¬ (2048 : Int) < (d.size : Int) := by omega
    rw [sg_put0 d hd] at CP
    have CQ := Lib.hid (fun x w (h : Lies w x (sg (md n) d)) => wn_put_any x (sg (md n) d) 6 d w h (show 1 ≤ 1000 by decide) (show wid 0 ≤ 9223372036854775807 by decide))
    unfold PutPost at CQ
    rw [sg_put1 d hd] at CQ
    have CS := Lib.hid (fun x w (h : Lies w x (sg (md n) d)) => wn_start_any x (sg (md n) d) w h)
    rw [sg_bgn] at CS
    have CA := Lib.hid (fun x w (h : Lies w x (sg (md n) d)) => wn_acked_any x (sg (md n) d) (md n) 1 (by decide) w h (show 1 ≤ 1000 by decide))
    unfold StIds at CA
    rw [sg_acked] at CA
    have CR := Lib.hid (fun x w (h : Lies w x ⟨add (md n) 1, 0, [], false⟩) => wn_room_any x ⟨add (md n) 1, 0, [], false⟩ w h (show wid 0 ≤ 9223372036854775807 by decide))
    rw [sg_room2] at CR
    have CM := Lib.hid (fun w => r22_mod_any n w)
    have CM2 : Hid (∀ w, Calls Try.prog 16 #[.int .i64 (wrap64 (md n + 1))] w fun e w' => e = .returned (.int .i64 (add (md n) 1)) ∧ w = w') := fun w => by
      have h := r22_mod_any (wrap64 (md n + 1)) w
      rw [show md (wrap64 (md n + 1)) = add (md n) 1 from wrap_md _] at h
      exact h
    generalize hG : add (md n) 1 = G at *
    generalize md n = M at *
    generalize sg M d = S0 at *
    clear hd hG
    go_enter Try.func8, Try.ntmps8
    go_wp2_with (go_at_call 15; refine (CN.out _).mono ?_; rintro e w1 ⟨rfl, hw1⟩; have B1 := Lib.hid hw1; clear hw1)
    refine (CP.out w1).mono ?_
    rintro e w2 ⟨x1, rfl, hO1⟩
    obtain ⟨w3, hw3⟩ : ∃ w3, w2.alloc (.cells (Ww_.C x1) 29) = w3 := ⟨_, rfl⟩
    have hz3 := Ww_.storeF_zero w2 x1
    rw [hw3] at hz3
    have K3 := Lib.hid (show Kp W w2.heap.size x1 S0 w3 from hw3 ▸ Kp.new hO1 B1.out)
    have l3 := K3.out.bx.loadF
    clear hO1
    go_wp2_with fail
    refine (CQ.out x1 w3 K3.out.lies).mono ?_
    rintro e w4 ⟨x2, rfl, hO2⟩
    obtain ⟨w6, hw6⟩ : ∃ w6, w4.alloc (.cells (Ww_.C x2) 29) = w6 := ⟨_, rfl⟩
    have hz6 := Ww_.storeF_zero w4 x2
    rw [hw6] at hz6
    have b6 := hO2.bel.trans ((show Below w4.heap.size w4 w6 from hw6 ▸ (Below.refl _ _).alloc (Nat.le_refl _) _).mono hO2.bel.size)
    have K6 := Lib.hid (K3.out.keep b6)
    have KD := Lib.hid (K6.out.keep (wj := w6.drew) ⟨rfl, rfl, rfl, Nat.le_refl _, fun _ _ => rfl⟩)
    have KA := Lib.hid (show Kp W w2.heap.size x1 S0 (w6.alloc (.cells #[.int .i64 0, .int .i64 0, .slice none 0 0, .bool false] 29)).drew from (K6.out.keep ((Below.refl _ _).alloc (Nat.le_refl _) (.cells #[.int .i64 0, .int .i64 0, .slice none 0 0, .bool false] 29))).keep ⟨rfl, rfl, rfl, Nat.le_refl _, fun _ _ => rfl⟩)
    have BAL : Hid (Below w6.drew.heap.size w6.drew (w6.alloc (.cells #[.int .i64 0, .int .i64 0, .slice none 0 0, .bool false] 29)).drew) := (have h := (Below.refl w6.heap.size w6).alloc (Nat.le_refl _) (.cells #[.int .i64 0, .int .i64 0, .slice none 0 0, .bool false] 29); ⟨h.os, rfl, h.output, h.size, h.block⟩)
    have lD := KD.out.bx.loadF
    have lA := KA.out.bx.loadF
    clear hO2 b6 l3 hw3 hz3
    go_upto_region 5 with fail
    go_cut [11, 12] (fun p v wx => ∃ (g : Nat) (x3 : Wn) (sa : Option Addr) (c : Nat), p = .pointer (some ⟨g, 0, none⟩) ∧ v = .slice sa 1 c ∧ Hid (Kp W g x3 ⟨G, 0, [], false⟩ wx) ∧ Hid (Is_.Sl wx sa [5] c) ∧ Hid (Kp W w2.heap.size x1 S0 wx))
    case first =>
      go_region_with (first
        | (go_at_call 20; first
            | (refine (CS.out x1 w6.drew KD.out.lies).mono ?_; rintro e w7 ⟨rfl, hb7⟩; have B7 := Lib.hid hb7; have K7 := Lib.hid (KD.out.keep hb7); have K7A := Lib.hid (K7.out.keep ((Below.refl _ _).alloc (Nat.le_refl _) (.cells #[.int .i64 0, .int .i64 0, .slice none 0 0, .bool false] 29))); have l7 := K7.out.bx.loadF; have l7a := K7A.out.bx.loadF; clear hb7)
            | (refine (CS.out x1 (w6.alloc (.cells #[.int .i64 0, .int .i64 0, .slice none 0 0, .bool false] 29)).drew KA.out.lies).mono ?_; rintro e w7 ⟨rfl, hb7⟩; have B7 := Lib.hid (BAL.out.trans (hb7.mono BAL.out.size)); have K7 := Lib.hid (KA.out.keep hb7); have Z7 : Hid (Ww_.Box w7 w6.heap.size zw) := Ww_.Box.below (Ww_.Box.drew (Ww_.Box.new w6 zw)) hb7 (Ww_.Box.drew (Ww_.Box.new w6 zw)).lt; have l7 := K7.out.bx.loadF; clear hb7))
        | (go_at_call 27; first
            | (refine (CA.out x1 w7 K7.out.lies).mono ?_; rintro e w8 ⟨x3, sa, c, rfl, hO, hI, hF⟩; have F8 := Lib.hid hF; have B8 := Lib.hid (B7.out.trans (hO.bel.mono B7.out.size)); have K8 := Lib.hid (K7.out.keep hO.bel); have O8 := Lib.hid hO; have I8 := Lib.hid hI; (first | (have Z8 := Lib.hid (Z7.out.below hO.bel Z7.out.lt); have t8 := Z8.out.storeF x3) | skip); clear hO hI)
            | (refine (CA.out x1 (w7.alloc (.cells #[.int .i64 0, .int .i64 0, .slice none 0 0, .bool false] 29)) K7A.out.lies).mono ?_; rintro e w8 ⟨x3, sa, c, rfl, hO, hI, hF⟩; have F8 := Lib.hid hF; have B8 := Lib.hid ((B7.out.trans (((Below.refl _ _).alloc (Nat.le_refl _) (.cells #[.int .i64 0, .int .i64 0, .slice none 0 0, .bool false] 29)).mono B7.out.size)).trans (hO.bel.mono (Nat.le_trans B7.out.size (Nat.le_of_lt (by simp))))); have K8 := Lib.hid (K7A.out.keep hO.bel); have O8 := Lib.hid hO; have I8 := Lib.hid hI; have Y8 : Hid (Ww_.Box w8 w7.heap.size zw) := Ww_.Box.below (Ww_.Box.new w7 zw) hO.bel (Ww_.Box.new w7 zw).lt; have t8 := Y8.out.storeF x3; clear hO hI)))
      all_goals
        go_wp2_with fail
        go_meet
        first
          | exact ⟨w6.heap.size, x3, sa, c, rfl, rfl, ⟨Z8.out.setRow x3, ⟨O8.out.lies.nx, O8.out.lies.sz, O8.out.lies.rq, O8.out.lies.n, sl_row22 O8.out.lies.sl O8.out.fr (Nat.lt_of_lt_of_le Z7.out.lt (Nat.le_refl _))⟩, below_row22 K8.out.bel (show W.heap.size ≤ w6.heap.size from K6.out.bel.size) _⟩, is_row22 I8.out F8.out (Nat.lt_of_lt_of_le Z7.out.lt (Nat.le_refl _)), KD.out.keep (below_row22 (w := w6.drew) B8.out (Nat.le_refl _) _)⟩
          | exact ⟨w7.heap.size, x3, sa, c, rfl, rfl, ⟨Y8.out.setRow x3, ⟨O8.out.lies.nx, O8.out.lies.sz, O8.out.lies.rq, O8.out.lies.n, sl_row22 O8.out.lies.sl O8.out.fr (by simp)⟩, below_row22 K8.out.bel (Nat.le_trans K7.out.bel.size (Nat.le_refl _)) _⟩, is_row22 I8.out F8.out (by simp), KD.out.keep (below_row22 (w := w6.drew) B8.out B7.out.size _)⟩
          | exact ⟨w8.heap.size, x3, sa, c, rfl, rfl, ⟨Ww_.Box.new w8 x3, O8.out.lies.below ((Below.refl _ _).alloc (Nat.le_refl _) _), K8.out.bel.alloc K8.out.bel.size _⟩, I8.out.below ((Below.refl _ _).alloc (Nat.le_refl _) _), KD.out.keep (B8.out.alloc B8.out.size _)⟩
    case rest =>
      obtain ⟨g, x3, sa, c, rfl, rfl, K9, I9, M9⟩ := hcut
      have l9 := M9.out.bx.loadF
      obtain ⟨bb, oo, hsa, -, -⟩ := I9.out.lies 0 (by decide)
      subst hsa
      have hcc : 1 ≤ c := I9.out.le
      have hx0 : x3.n = 0 := K9.out.lies.n
      have hxn : x3.nx = G := K9.out.lies.nx
      have F9 := Lib.hid (show Fi W g x3 ⟨G, 0, [], false⟩ bb oo c wc from ⟨K9.out, I9.out⟩)
      have CRq : Hid (∀ w, Fi W g x3 ⟨G, 0, [], false⟩ bb oo c w → Calls Try.prog 22 #[Ww_.v x3] w fun e w' => e = .returned (.int .i64 1) ∧ Below w.heap.size w w') := fun w h => CR.out x3 w h.k.lies
      clear lD lA
      go_wp2_with (first
        | (go_at_call 16; refine (CM.out _).mono ?_; rintro e w' ⟨rfl, rfl⟩)
        | (go_at_call 20; refine (CS.out x1 wc M9.out.lies).mono ?_; rintro e w10 ⟨rfl, hb10⟩; have F10 := Lib.hid (F9.out.keep _ _ hb10); clear hb10))
      have q0 : ∀ (q : Of (Fi W g x3 ⟨G, 0, [], false⟩ bb oo c)) (j : Nat), q.w.cell? ⟨g, j, none⟩ = (Ww_.C x3)[j]? := fun q j => q.ok.k.bx.all j
      have q1 : ∀ (q : Of (Fi W g x3 ⟨G, 0, [], false⟩ bb oo c)), (Ww_.LoadF ⟨g, 0, none⟩).run Try.prog q.w = .ok (Ww_.v x3) q.w := fun q => q.ok.k.bx.loadF
      have q2 : ∀ (q : Of (Fi W g x3 ⟨G, 0, [], false⟩ bb oo c)), q.w.cell? ⟨bb, oo, none⟩ = some (.int .i64 5) := fun q => q.ok.cell
      have _ne : Nonempty (Of (Fi W g x3 ⟨G, 0, [], false⟩ bb oo c)) := ⟨⟨_, F10.out⟩⟩
      refine wp_region_of (Fi W g x3 ⟨G, 0, [], false⟩ bb oo c) (by kernel_rfl) (Region.lexB_of_fast (by kernel_rfl)) (F10.out.keep _ _ ⟨rfl, rfl, rfl, Nat.le_refl _, fun _ _ => rfl⟩) ?_
      repeat (go_big_quiet_step (first
        | (go_at_call 16; with_reducible exact Calls.of_same (CM.out _))
        | (go_at_call 16; with_reducible exact Calls.of_same (CM2.out _))
        | (go_at_call 22; exact Calls.of_below Fi.keep (CRq.out _ (Of.ok _)))
        | (go_at_call 10; exact Calls.of_below Fi.keep (CL.out _))))
      refine wpQuiet_nil ?_
      rintro _ ⟨q, rfl⟩
      have HB2 := Lib.hid q.ok.k.bel
      generalize q.w = w11 at *
      clear q0 q1 q2
      go_wp2
      go_returns
      exact ⟨rfl, HB2.out⟩
end Go.Proofs.Ytldeflpaghbmmaa
