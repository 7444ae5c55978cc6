/-
  WALKS of the reference of layer 22: Check; Reset of the program.
-/
import Derived.Test.YtldeflpaghbmmaaWnRef6
import Derived.Test.YtldeflpaghbmmaaWnChk2
namespace Go.Proofs.Ytldeflpaghbmmaa
open Go.RowKit Go.Wn Go.Sq Go.Wr
attribute [local go_sem ↓ high] Wv_.loadF Wv_.storeF Wv_.v_cells Wv_.v_match
attribute [local go_sem] Wv_.C0 Wv_.C1 Wv_.C2 Wv_.C3 Wv_.loadF_new Wv_.storeF_zero Oper.semAt_some

/-- A state of the reference and a packet in their cells. -/
structure Vsp (w : World) (x : Wn) (b : Nat) (p : Sn) (wi : World) : Prop where
  bx : Wv_.Box wi w.heap.size x
  bp : Sn_.Box wi b p
  bel : Below w.heap.size w wi
theorem Vsp.keep {w : World} {x : Wn} {b : Nat} {p : Sn} (wi wj : World) (h : Vsp w x b p wi) (hb : Below wi.heap.size wi wj) : Vsp w x b p wj := ⟨h.bx.below hb h.bx.lt, h.bp.below hb h.bp.lt, h.bel.trans (hb.mono h.bel.size)⟩

theorem chkE_bad {s : St} {k : Int} (h : chkL (bgn s) (used s) (-1) s.l = k) (hk : k ≠ 0) : chkE s = k := by
  unfold chkE; rw [h, if_neg hk]
theorem chkE_ok {s : St} (h : chkL (bgn s) (used s) (-1) s.l = 0) : chkE s = if wid s.sz < used s then 12 else if fstDn s.l then 3 else 0 := by
  unfold chkE; rw [if_pos h]

set_option maxRecDepth 100000 in
set_option maxHeartbeats 16000000 in
theorem r22_check_any (x : Wn) (s : St) (w : World) (hL : Lies w x s) (hl : s.l.length ≤ 1000) :
    Calls Try.prog 13 #[Wv_.v x] w fun e w' => e = .returned (.int .i64 (chk s)) ∧ Below w.heap.size w w' := by
  obtain ⟨w1, hw1⟩ : ∃ w1, w.alloc (.cells (Wv_.C x) 24) = w1 := ⟨_, rfl⟩
  have hb : Wv_.Box w1 w.heap.size x := hw1 ▸ Wv_.Box.new w x
  have HBX := Lib.hid hb
  have B1 : Hid (Below w.heap.size w w1) := hw1 ▸ (Below.refl _ _).alloc (Nat.le_refl _) _
  have e1 := hb.all
  have CV := Lib.hid (fun (q : Int) w => r22_in_any q w)
  have CD := Lib.hid (fun (q : Int) w => r22_dist_any (bgn s) q w)
  have CS : Hid (∀ W, Below w.heap.size w W → Calls Try.prog 21 #[Wv_.v x] W fun e w' => e = .returned (.int .i64 (bgn s)) ∧ Below W.heap.size W w') := fun W hW => r22_start_any x s W (hL.below hW)
  have HL := Lib.hid hL
  have HN := Lib.hid hl
  have hnx := hL.nx
  have hsz := hL.sz
  have HB0 := Lib.hid (@chk_bad s)
  have HG := Lib.hid (@chk_go s)
  have HEB := Lib.hid (fun k => @chkE_bad s k)
  have HEO := Lib.hid (@chkE_ok s)
  have hwd : max s.sz 1 = wid s.sz := by unfold wid; split <;> omega
  have HWD := Lib.hid hwd
  have CU : Hid (∀ W, Calls Try.prog 37 #[.int .i64 (bgn s), .int .i64 s.nx] W fun e w' => e = .returned (.int .i64 (used s)) ∧ W = w') := fun W => r22_dist_any (bgn s) s.nx W
  obtain ⟨n, hn1⟩ : ∃ n, s.l.length = n := ⟨_, rfl⟩
  have hxn : x.n = n := hL.n.trans hn1
  have HLEN := Lib.hid hn1
  have CVn := Lib.hid (CV.out s.nx)
  clear hwd hL hl hn1 hb
  cases hv : vl s.nx
  · have HR := Lib.hid (HB0.out (.inl hv))
    rw [hv] at CVn
    clear HB0 HG HEB HEO
    go_enter Try.func13, Try.ntmps13
    go_wp2_with (go_at_call 43; refine (CVn.out _).mono ?_; rintro e w' ⟨rfl, rfl⟩)
    go_returns
    exact ⟨by rw [HR.out]; rfl, B1.out⟩
  rw [hv] at CVn
  by_cases h1 : s.sz < 0
  · have HR := Lib.hid (HB0.out (.inr (.inl h1)))
    clear HB0 HG HEB HEO
    go_enter Try.func13, Try.ntmps13
    go_wp2_with (go_at_call 43; refine (CVn.out _).mono ?_; rintro e w' ⟨rfl, rfl⟩)
    go_returns
    exact ⟨by rw [HR.out]; rfl, B1.out⟩
  by_cases h2 : 64 < s.sz
  · have HR := Lib.hid (HB0.out (.inr (.inr h2)))
    clear HB0 HG HEB HEO
    go_enter Try.func13, Try.ntmps13
    go_wp2_with (go_at_call 43; refine (CVn.out _).mono ?_; rintro e w' ⟨rfl, rfl⟩)
    go_returns
    exact ⟨by rw [HR.out]; rfl, B1.out⟩
  have HGO := Lib.hid (HG.out hv h1 h2)
  clear HB0 HG
  generalize chk s = RR at *
  generalize chkE s = RE at *
  generalize bgn s = S0 at *
  generalize used s = U at *
  go_enter Try.func13, Try.ntmps13
  go_wp2_with (go_at_call 43; refine (CVn.out _).mono ?_; rintro e w' ⟨rfl, rfl⟩)
  clear hw1 e1
  go_loopw [3, 4] (fun s3 s4 wr => ∃ (last : Int) (i : Nat), s3 = .int .i64 last ∧ s4 = .int .i64 i ∧ i ≤ n ∧ Hid (chkL S0 U (-1) s.l = chkL S0 U last (s.l.drop i)) ∧ Hid (Below w.heap.size w wr ∧ Wv_.Box wr w.heap.size x)) (fun _ s4 _ => n - (intOf s4).toNat)
  case atStart => exact ⟨-1, 0, rfl, rfl, Nat.zero_le _, rfl, ⟨B1.out, HBX.out⟩⟩
  case round =>
    rename World => wr
    obtain ⟨last, i, rfl, rfl, hi, HC, HB⟩ := hrel
    have e2 := HB.out.2.all
    have hi1 : i ≤ 1000 := by have := HN.out; have := HLEN.out; omega
    by_cases hlt : i < n
    · have hil : i < s.l.length := by have := HLEN.out; omega
      obtain ⟨bb, off, hsa, hbl, k0, k1, k2, k3, k4⟩ := HL.out.sl.lies i hil
      have c0 := (HB.out.1.cell hbl).trans k0
      have c1 := (HB.out.1.cell hbl).trans k1
      have c2 := (HB.out.1.cell hbl).trans k2
      have c3 := (HB.out.1.cell hbl).trans k3
      have c4 := (HB.out.1.cell hbl).trans k4
      have hle : n ≤ x.c := by have := HL.out.sl.le; have := HLEN.out; omega
      have HDC := Lib.hid (drop_cons22 hil)
      have hi0 : (0 : Int) ≤ (i : Int) := by omega
      have hi2 : (i : Int) < (n : Int) := by omega
      generalize s.l[i] = h at *
      obtain ⟨w2, hw2⟩ : ∃ w2, wr.alloc (.cells #[.int .i64 h.id, .int .i64 h.q, .int .i64 h.tr, .bool h.dn, .string h.da] 76) = w2 := ⟨_, rfl⟩
      have X2 := (show Sn_.Box w2 wr.heap.size h from hw2 ▸ Sn_.Box.new wr h rfl)
      have b2 : Below wr.heap.size wr w2 := hw2 ▸ (Below.refl _ _).alloc (Nat.le_refl _) _
      have W2 : Hid (Vsp w x wr.heap.size h w2) := ⟨HB.out.2.below b2 HB.out.2.lt, X2, HB.out.1.trans (b2.mono HB.out.1.size)⟩
      have p2 := W2.out.bp.cells
      have CDh := Lib.hid (CD.out h.q)
      have CVh := Lib.hid (CV.out h.q)
      have HCK : Hid (chkL S0 U (-1) s.l = chkL S0 U last (h :: s.l.drop (i + 1))) := by
        show chkL S0 U (-1) s.l = _
        rw [HC.out, HDC.out]
      have HLT := Lib.hid hlt
      have HK1 := Lib.hid (fun e => HCK.out.trans (cl_1 e))
      have HK2 := Lib.hid (fun e e2 => HCK.out.trans (cl_2 e e2))
      have HK3 := Lib.hid (fun e e2 e3 => HCK.out.trans (cl_3 e e2 e3))
      have HK4 := Lib.hid (fun e e2 e3 => HCK.out.trans (cl_4 e e2 e3))
      clear k0 k1 k2 k3 k4 hbl hil b2 X2
      generalize dist S0 h.q = D at *
      generalize vl h.q = V at *
      have q0 : ∀ (q : Of (Vsp w x wr.heap.size h)) (j : Nat), q.w.cell? ⟨w.heap.size, j, none⟩ = (Wv_.C x)[j]? := fun q j => q.ok.bx.all j
      have q1 : ∀ (q : Of (Vsp w x wr.heap.size h)), (Wv_.LoadF ⟨w.heap.size, 0, none⟩).run Try.prog q.w = .ok (Wv_.v x) q.w := fun q => q.ok.bx.loadF
      have q2 : ∀ (q : Of (Vsp w x wr.heap.size h)), q.w.cell? ⟨wr.heap.size, 0, none⟩ = some (.int .i64 h.id) ∧ q.w.cell? ⟨wr.heap.size, 1, none⟩ = some (.int .i64 h.q) ∧ q.w.cell? ⟨wr.heap.size, 2, none⟩ = some (.int .i64 h.tr) ∧ q.w.cell? ⟨wr.heap.size, 3, none⟩ = some (.bool h.dn) ∧ q.w.cell? ⟨wr.heap.size, 4, none⟩ = some (.string h.da) := fun q => q.ok.bp.cells
      have _ne : Nonempty (Of (Vsp w x wr.heap.size h)) := ⟨⟨_, W2.out⟩⟩
      cases V
      · have HRS := Lib.hid (HGO.out.trans (HEB.out 4 (HK1.out (.inl rfl)) (by decide)))
        clear HK1 HK2 HK3 HK4 q0 q1 q2
        go_wp2_with (go_at_call 43; refine (CVh.out _).mono ?_; rintro e w' ⟨rfl, rfl⟩)
        go_returns
        exact ⟨by rw [HRS.out]; rfl, W2.out.bel⟩
      by_cases htr : h.tr < 0
      · have HRS := Lib.hid (HGO.out.trans (HEB.out 4 (HK1.out (.inr htr)) (by decide)))
        clear HK1 HK2 HK3 HK4 q0 q1 q2
        go_wp2_with (go_at_call 43; refine (CVh.out _).mono ?_; rintro e w' ⟨rfl, rfl⟩)
        go_returns
        exact ⟨by rw [HRS.out]; rfl, W2.out.bel⟩
      have HNO : Hid (¬ (true = false ∨ h.tr < 0)) := fun e => by
        rcases e with e | e
        · cases e
        · exact htr e
      go_wp2_with (go_at_call 43; refine (CVh.out _).mono ?_; rintro e w' ⟨rfl, rfl⟩)
      refine wp_region_of (Vsp w x wr.heap.size h) (by kernel_rfl) (Region.lexB_of_fast (by kernel_rfl)) (W2.out.keep _ _ ⟨rfl, rfl, rfl, Nat.le_refl _, fun _ _ => rfl⟩) ?_
      repeat (go_big_quiet_step (first
        | (go_at_call 21; exact Calls.of_below Vsp.keep (CS.out _ (Vsp.bel (Of.ok _))))
        | (go_at_call 37; exact Calls.of_same (CDh.out _))))
      refine wpQuiet_nil ?_
      rintro _ ⟨q, rfl⟩
      have W3 := Lib.hid q.ok
      generalize q.w = w3 at *
      clear hw2 e2 p2
      by_cases hd1 : D ≤ last
      · have HRS := Lib.hid (HGO.out.trans (HEB.out 12 (HK2.out HNO.out (.inl hd1)) (by decide)))
        clear HK1 HK2 HK3 HK4
        go_wp2_with fail
        refine wp_region_of (Vsp w x wr.heap.size h) (by kernel_rfl) (Region.lexB_of_fast (by kernel_rfl)) (W3.out.keep _ _ ⟨rfl, rfl, rfl, Nat.le_refl _, fun _ _ => rfl⟩) ?_
        repeat (go_big_quiet_step (first
          | (go_at_call 21; exact Calls.of_below Vsp.keep (CS.out _ (Vsp.bel (Of.ok _))))
          | (go_at_call 37; exact Calls.of_same (CU.out _))))
        refine wpQuiet_nil ?_
        rintro _ ⟨q3, rfl⟩
        have W5 := Lib.hid q3.ok
        generalize q3.w = w5 at *
        clear q0 q1 q2
        go_wp2
        go_returns
        exact ⟨by rw [HRS.out]; rfl, W5.out.bel⟩
      have hdd : decide (D ≤ last) = false := decide_eq_false hd1
      by_cases hd2 : U ≤ D
      · have HRS := Lib.hid (HGO.out.trans (HEB.out 12 (HK2.out HNO.out (.inr hd2)) (by decide)))
        clear HK1 HK2 HK3 HK4
        go_wp2_with fail
        refine wp_region_of (Vsp w x wr.heap.size h) (by kernel_rfl) (Region.lexB_of_fast (by kernel_rfl)) (W3.out.keep _ _ ⟨rfl, rfl, rfl, Nat.le_refl _, fun _ _ => rfl⟩) ?_
        repeat (go_big_quiet_step (first
          | (go_at_call 21; exact Calls.of_below Vsp.keep (CS.out _ (Vsp.bel (Of.ok _))))
          | (go_at_call 37; exact Calls.of_same (CU.out _))))
        refine wpQuiet_nil ?_
        rintro _ ⟨q3, rfl⟩
        have W5 := Lib.hid q3.ok
        generalize q3.w = w5 at *
        clear q0 q1 q2
        go_wp2
        go_returns
        exact ⟨by rw [HRS.out]; rfl, W5.out.bel⟩
      have HNO2 : Hid (¬ (D ≤ last ∨ U ≤ D)) := fun e => by
        rcases e with e | e
        · exact hd1 e
        · exact hd2 e
      go_wp2_with fail
      refine wp_region_of (Vsp w x wr.heap.size h) (by kernel_rfl) (Region.lexB_of_fast (by kernel_rfl)) (W3.out.keep _ _ ⟨rfl, rfl, rfl, Nat.le_refl _, fun _ _ => rfl⟩) ?_
      repeat (go_big_quiet_step (first
        | (go_at_call 21; exact Calls.of_below Vsp.keep (CS.out _ (Vsp.bel (Of.ok _))))
        | (go_at_call 37; exact Calls.of_same (CU.out _))))
      refine wpQuiet_nil ?_
      rintro _ ⟨q3, rfl⟩
      have W5 := Lib.hid q3.ok
      generalize q3.w = w5 at *
      clear q0 q1 q2
      have p5 := W5.out.bp.cells
      by_cases hz : 2048 < h.da.size
      · have HRS := Lib.hid (HGO.out.trans (HEB.out 2 (HK3.out HNO.out HNO2.out hz) (by decide)))
        have hz' : (2048 : Int) < (h.da.size : Int) := by omega
        clear HK1 HK2 HK3 HK4
        go_wp2
        go_returns
        exact ⟨by rw [HRS.out]; rfl, W5.out.bel⟩
      · have HRS := Lib.hid (HK4.out HNO.out HNO2.out hz)
        have hz' : ¬ (2048 : Int) < (h.da.size : Int) := by omega
        clear HK1 HK2 HK3 HK4
        go_wp2
        go_roundw
        case rel => exact ⟨D, i + 1, rfl, by go_num, HLT.out, HRS.out, W5.out.bel, W5.out.bx⟩
        case measure => have := HLT.out; simp [intOf]; omega
    · have HRS := Lib.hid (HGO.out.trans (HEO.out (show chkL S0 U (-1) s.l = 0 by rw [HC.out, List.drop_of_length_le (by have := HLEN.out; omega)]; rfl)))
      have V2 := Lib.hid (show Vst w w.heap.size x wr from ⟨HB.out.2, HB.out.1⟩)
      have q0 : ∀ (q : Of (Vst w w.heap.size x)) (j : Nat), q.w.cell? ⟨w.heap.size, j, none⟩ = (Wv_.C x)[j]? := fun q j => q.ok.bx.all j
      have q1 : ∀ (q : Of (Vst w w.heap.size x)), (Wv_.LoadF ⟨w.heap.size, 0, none⟩).run Try.prog q.w = .ok (Wv_.v x) q.w := fun q => q.ok.bx.loadF
      have _ne : Nonempty (Of (Vst w w.heap.size x)) := ⟨⟨_, V2.out⟩⟩
      go_wp2_with fail
      refine wp_region_of (Vst w w.heap.size x) (by kernel_rfl) (Region.lexB_of_fast (by kernel_rfl)) V2.out.drew ?_
      repeat (go_big_quiet_step (first
        | (go_at_call 21; exact Calls.of_below Vst.keep (CS.out _ (Vst.bel (Of.ok _))))
        | (go_at_call 37; exact Calls.of_same (CU.out _))))
      refine wpQuiet_nil ?_
      rintro _ ⟨q, rfl⟩
      have W4 := Lib.hid q.ok
      have e4 := W4.out.bx.all
      generalize q.w = w4 at *
      clear q0 q1 e2
      have hw1 := HWD.out
      by_cases h4 : max s.sz 1 < U
      · have HR2 := Lib.hid (HRS.out.trans (if_pos (hw1 ▸ h4)))
        clear hw1
        go_wp2
        go_returns
        exact ⟨by rw [HR2.out]; rfl, W4.out.bel⟩
      · have HR2 := Lib.hid (HRS.out.trans (if_neg (hw1 ▸ h4)))
        clear hw1
        by_cases h5 : s.l.length = 0
        · rw [fstDn_nil h5] at HR2
          have hx0 : x.n = 0 := HL.out.n.trans h5
          have hn0 : n = 0 := hxn.symm.trans hx0
          go_wp2
          go_returns
          exact ⟨by rw [HR2.out]; rfl, W4.out.bel⟩
        · have h6 : 0 < s.l.length := by omega
          obtain ⟨b, off, hsa, hbl, -, -, -, k3, -⟩ := HL.out.sl.lies 0 h6
          have c3 := (W4.out.bel.cell hbl).trans k3
          rw [Nat.zero_mul, Nat.add_zero] at c3
          rw [fstDn_cons h6] at HR2
          have hx1 : 0 < n := by have := HLEN.out; omega
          have hx2 : (0 : Int) < (n : Int) := by omega
          have hle : n ≤ x.c := by have := HL.out.sl.le; have := HLEN.out; omega
          generalize s.l[0].dn = dd at *
          clear k3 hbl h5 h6
          cases dd
          · go_wp2
            go_returns
            exact ⟨by rw [HR2.out]; rfl, W4.out.bel⟩
          · go_wp2
            go_returns
            exact ⟨by rw [HR2.out]; rfl, W4.out.bel⟩
end Go.Proofs.Ytldeflpaghbmmaa
