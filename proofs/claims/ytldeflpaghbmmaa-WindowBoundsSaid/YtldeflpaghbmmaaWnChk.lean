/-
  WALKS of package window: checkList, Check.
-/
import Derived.Test.YtldeflpaghbmmaaWnPut
namespace Go.Proofs.Ytldeflpaghbmmaa
open Go.RowKit Go.Wn Go.Sq Go.Wr
attribute [local go_sem ↓ high] Ww_.loadF Ww_.storeF Ww_.v_cells Ww_.v_match
attribute [local go_sem] Ww_.C0 Ww_.C1 Ww_.C2 Ww_.C3 Ww_.loadF_new Ww_.storeF_zero Oper.semAt_some

/-- A state and a packet in their cells. -/
structure Wsp (w : World) (x : Wn) (b : Nat) (p : Sn) (wi : World) : Prop where
  bx : Ww_.Box wi w.heap.size x
  bp : Sn_.Box wi b p
  bel : Below w.heap.size w wi
theorem Wsp.keep {w : World} {x : Wn} {b : Nat} {p : Sn} (wi wj : World) (h : Wsp w x b p wi) (hb : Below wi.heap.size wi wj) : Wsp w x b p wj := ⟨h.bx.below hb h.bx.lt, h.bp.below hb h.bp.lt, h.bel.trans (hb.mono h.bel.size)⟩

theorem cl_1 {s u last : Int} {h : Sn} {t : List Sn} (e : vl h.q = false ∨ h.tr < 0) : chkL s u last (h :: t) = 4 := if_pos e
theorem cl_2 {s u last : Int} {h : Sn} {t : List Sn} (e : ¬ (vl h.q = false ∨ h.tr < 0)) (e2 : dist s h.q ≤ last ∨ u ≤ dist s h.q) : chkL s u last (h :: t) = 12 := (if_neg e).trans (if_pos e2)
theorem cl_3 {s u last : Int} {h : Sn} {t : List Sn} (e : ¬ (vl h.q = false ∨ h.tr < 0)) (e2 : ¬ (dist s h.q ≤ last ∨ u ≤ dist s h.q)) (e3 : 2048 < h.da.size) : chkL s u last (h :: t) = 2 := ((if_neg e).trans (if_neg e2)).trans (if_pos e3)
theorem cl_4 {s u last : Int} {h : Sn} {t : List Sn} (e : ¬ (vl h.q = false ∨ h.tr < 0)) (e2 : ¬ (dist s h.q ≤ last ∨ u ≤ dist s h.q)) (e3 : ¬ 2048 < h.da.size) : chkL s u last (h :: t) = chkL s u (dist s h.q) t := ((if_neg e).trans (if_neg e2)).trans (if_neg e3)
theorem same_addr22 {sa : Option Addr} {b o b' o' : Nat} (h1 : sa = some ⟨b', o', none⟩) (h2 : sa = some ⟨b, o, none⟩) : b' = b ∧ o' = o := by
  rw [h1] at h2; cases h2; exact ⟨rfl, rfl⟩

set_option maxRecDepth 100000 in
set_option maxHeartbeats 8000000 in
theorem wn_checkList_any (x : Wn) (s : St) (w : World) (hL : Lies w x s) (hl : s.l.length ≤ 1000) :
    Calls Try.prog 40 #[Ww_.v x] w fun e w' => e = .returned (.int .i64 (chkL (bgn s) (used s) (-1) s.l)) ∧ Below w.heap.size w w' := by
  obtain ⟨w1, hw1⟩ : ∃ w1, w.alloc (.cells (Ww_.C x) 29) = w1 := ⟨_, rfl⟩
  have hb : Ww_.Box w1 w.heap.size x := hw1 ▸ Ww_.Box.new w x
  have HBX := Lib.hid hb
  have B1 : Hid (Below w.heap.size w w1) := hw1 ▸ (Below.refl _ _).alloc (Nat.le_refl _) _
  have e1 := hb.all
  have CV := Lib.hid (fun (q : Int) w => valid_any q w)
  have CD := Lib.hid (fun (q : Int) w => distance_any (bgn s) q w)
  have CS : Hid (∀ W, Below w.heap.size w W → Calls Try.prog 20 #[Ww_.v x] W fun e w' => e = .returned (.int .i64 (bgn s)) ∧ Below W.heap.size W w') := fun W hW => wn_start_any x s W (hL.below hW)
  have CU : Hid (∀ W, Below w.heap.size w W → Calls Try.prog 41 #[Ww_.v x] W fun e w' => e = .returned (.int .i64 (used s)) ∧ Below W.heap.size W w') := fun W hW => wn_used_any x s W (hL.below hW)
  have HL := Lib.hid hL
  have HN := Lib.hid hl
  obtain ⟨n, hn1⟩ : ∃ n, s.l.length = n := ⟨_, rfl⟩
  have hxn : x.n = n := hL.n.trans hn1
  have HLEN := Lib.hid hn1
  generalize bgn s = S0 at *
  generalize used s = U at *
  clear hb hL hl hn1
  have HSA : n = 0 ∨ ∃ bb off, x.sa = some ⟨bb, off, none⟩ := by
    rcases Nat.eq_zero_or_pos n with h | h
    · exact .inl h
    · obtain ⟨bb, off, hsa, -⟩ := HL.out.sl.lies 0 (by have := HLEN.out; omega)
      exact .inr ⟨bb, off, hsa⟩
  rcases HSA with hn0 | ⟨bb, off, hsa⟩
  · have HRS := Lib.hid (show chkL S0 U (-1) s.l = 0 by rw [List.eq_nil_of_length_eq_zero (HLEN.out.trans hn0)]; rfl)
    rw [HRS.out]
    go_enter Try.func40, Try.ntmps40
    go_wp2
    go_loopw [10] (fun z wr => z = .int .i64 0 ∧ wr = w1) (fun _ _ => 0)
    case atStart => exact ⟨rfl, rfl⟩
    case round =>
      rename World => wr
      obtain ⟨rfl, rfl⟩ := hrel
      go_wp2
      go_returns
      exact ⟨rfl, B1.out⟩
  · go_enter Try.func40, Try.ntmps40
    go_wp2
    clear hw1 e1
    go_loopw [3, 10] (fun s3 s10 wr => ∃ (last : Int) (i : Nat), s3 = .int .i64 last ∧ s10 = .int .i64 i ∧ i ≤ n ∧ Hid (chkL S0 U (-1) s.l = chkL S0 U last (s.l.drop i)) ∧ Hid (Below w.heap.size w wr ∧ Ww_.Box wr w.heap.size x)) (fun _ s10 _ => n - (intOf s10).toNat)
    case atStart => exact ⟨-1, 0, rfl, rfl, Nat.zero_le _, rfl, ⟨B1.out, HBX.out⟩⟩
    case round =>
      rename World => wr
      obtain ⟨last, i, rfl, rfl, hi, HC, HB⟩ := hrel
      have e2 := HB.out.2.all
      have hi1 : i ≤ 1000 := by have := HN.out; have := HLEN.out; omega
      by_cases hlt : i < n
      · have hil : i < s.l.length := by have := HLEN.out; omega
        obtain ⟨bb', off', hsa', hbl, k0, k1, k2, k3, k4⟩ := HL.out.sl.lies i hil
        obtain ⟨rfl, rfl⟩ := same_addr22 hsa' hsa
        clear hsa'
        have c0 := (HB.out.1.cell hbl).trans k0
        have c1 := (HB.out.1.cell hbl).trans k1
        have c2 := (HB.out.1.cell hbl).trans k2
        have c3 := (HB.out.1.cell hbl).trans k3
        have c4 := (HB.out.1.cell hbl).trans k4
        have HDC := Lib.hid (drop_cons22 hil)
        generalize s.l[i] = h at *
        obtain ⟨w2, hw2⟩ : ∃ w2, wr.alloc (.cells #[.int .i64 h.id, .int .i64 h.q, .int .i64 h.tr, .bool h.dn, .string h.da] 76) = w2 := ⟨_, rfl⟩
        have X2 := (show Sn_.Box w2 wr.heap.size h from hw2 ▸ Sn_.Box.new wr h rfl)
        have b2 : Below wr.heap.size wr w2 := hw2 ▸ (Below.refl _ _).alloc (Nat.le_refl _) _
        have W2 : Hid (Wsp w x wr.heap.size h w2) := ⟨HB.out.2.below b2 HB.out.2.lt, X2, HB.out.1.trans (b2.mono HB.out.1.size)⟩
        have CDh := Lib.hid (CD.out h.q)
        have CVh := Lib.hid (CV.out h.q)
        have HCK : Hid (chkL S0 U (-1) s.l = chkL S0 U last (h :: s.l.drop (i + 1))) := by
          show chkL S0 U (-1) s.l = _
          rw [HC.out, HDC.out]
        have HLT := Lib.hid hlt
        have HK1 := Lib.hid (fun e => HCK.out.trans (cl_1 e))
        have HK2 := Lib.hid (fun e e2 => HCK.out.trans (cl_2 e e2))
        have HK3 := Lib.hid (fun e e2 e3 => HCK.out.trans (cl_3 e e2 e3))
        have HK4 := Lib.hid (fun e e2 e3 => HCK.out.trans (cl_4 e e2 e3))
        clear k0 k1 k2 k3 k4 hbl hil b2 X2
        generalize dist S0 h.q = D at *
        generalize vl h.q = V at *
        have q0 : ∀ (q : Of (Wsp w x wr.heap.size h)) (j : Nat), q.w.cell? ⟨w.heap.size, j, none⟩ = (Ww_.C x)[j]? := fun q j => q.ok.bx.all j
        have q1 : ∀ (q : Of (Wsp w x wr.heap.size h)), (Ww_.LoadF ⟨w.heap.size, 0, none⟩).run Try.prog q.w = .ok (Ww_.v x) q.w := fun q => q.ok.bx.loadF
        have q2 : ∀ (q : Of (Wsp w x wr.heap.size h)), q.w.cell? ⟨wr.heap.size, 0, none⟩ = some (.int .i64 h.id) ∧ q.w.cell? ⟨wr.heap.size, 1, none⟩ = some (.int .i64 h.q) ∧ q.w.cell? ⟨wr.heap.size, 2, none⟩ = some (.int .i64 h.tr) ∧ q.w.cell? ⟨wr.heap.size, 3, none⟩ = some (.bool h.dn) ∧ q.w.cell? ⟨wr.heap.size, 4, none⟩ = some (.string h.da) := fun q => q.ok.bp.cells
        have _ne : Nonempty (Of (Wsp w x wr.heap.size h)) := ⟨⟨_, W2.out⟩⟩
        go_wp2_with fail
        refine wp_region_of (Wsp w x wr.heap.size h) (by kernel_rfl) (Region.lexB_of_fast (by kernel_rfl)) (W2.out.keep _ _ ⟨rfl, rfl, rfl, Nat.le_refl _, fun _ _ => rfl⟩) ?_
        repeat (go_big_quiet_step (first
          | (go_at_call 20; exact Calls.of_below Wsp.keep (CS.out _ (Wsp.bel (Of.ok _))))
          | (go_at_call 51; exact Calls.of_same (CDh.out _))))
        refine wpQuiet_nil ?_
        rintro _ ⟨q, rfl⟩
        have W3 := Lib.hid q.ok
        generalize q.w = w3 at *
        clear q0 q1 q2 hw2 e2
        have e3 := W3.out.bx.all
        have l3 := W3.out.bx.loadF
        have p3 := W3.out.bp.cells
        cases V
        · have HRS := Lib.hid (HK1.out (.inl rfl))
          clear HK1 HK2 HK3 HK4
          go_wp2_with (first
            | (go_at_call 39; refine (CVh.out _).mono ?_; rintro e w' ⟨rfl, rfl⟩)
            | (go_at_call 41; refine (CU.out _ W3.out.bel).mono ?_; rintro e w5 ⟨rfl, hw5⟩; have W5 := Lib.hid (W3.out.keep _ _ hw5); have e5 := W5.out.bx.all; have p5 := W5.out.bp.cells; clear hw5))
          go_returns
          exact ⟨by rw [HRS.out]; rfl, W3.out.bel⟩
        by_cases htr : h.tr < 0
        · have HRS := Lib.hid (HK1.out (.inr htr))
          clear HK1 HK2 HK3 HK4
          go_wp2_with (first
            | (go_at_call 39; refine (CVh.out _).mono ?_; rintro e w' ⟨rfl, rfl⟩)
            | (go_at_call 41; refine (CU.out _ W3.out.bel).mono ?_; rintro e w5 ⟨rfl, hw5⟩; have W5 := Lib.hid (W3.out.keep _ _ hw5); have e5 := W5.out.bx.all; have p5 := W5.out.bp.cells; clear hw5))
          go_returns
          exact ⟨by rw [HRS.out]; rfl, W3.out.bel⟩
        have HNO : Hid (¬ (true = false ∨ h.tr < 0)) := fun e => by
          rcases e with e | e
          · cases e
          · exact htr e
        by_cases hd1 : D ≤ last
        · have HRS := Lib.hid (HK2.out HNO.out (.inl hd1))
          clear HK1 HK2 HK3 HK4
          go_wp2_with (first
            | (go_at_call 39; refine (CVh.out _).mono ?_; rintro e w' ⟨rfl, rfl⟩)
            | (go_at_call 41; refine (CU.out _ W3.out.bel).mono ?_; rintro e w5 ⟨rfl, hw5⟩; have W5 := Lib.hid (W3.out.keep _ _ hw5); have e5 := W5.out.bx.all; have p5 := W5.out.bp.cells; clear hw5))
          go_returns
          exact ⟨by rw [HRS.out]; rfl, W3.out.bel⟩
        by_cases hd2 : U ≤ D
        · have HRS := Lib.hid (HK2.out HNO.out (.inr hd2))
          clear HK1 HK2 HK3 HK4
          go_wp2_with (first
            | (go_at_call 39; refine (CVh.out _).mono ?_; rintro e w' ⟨rfl, rfl⟩)
            | (go_at_call 41; refine (CU.out _ W3.out.bel).mono ?_; rintro e w5 ⟨rfl, hw5⟩; have W5 := Lib.hid (W3.out.keep _ _ hw5); have e5 := W5.out.bx.all; have p5 := W5.out.bp.cells; clear hw5))
          go_returns
          exact ⟨by rw [HRS.out]; rfl, W5.out.bel⟩
        have HNO2 : Hid (¬ (D ≤ last ∨ U ≤ D)) := fun e => by
          rcases e with e | e
          · exact hd1 e
          · exact hd2 e
        by_cases hz : 2048 < h.da.size
        · have HRS := Lib.hid (HK3.out HNO.out HNO2.out hz)
          have hz' : (2048 : Int) < (h.da.size : Int) := by omega
          clear HK1 HK2 HK3 HK4
          go_wp2_with (first
            | (go_at_call 39; refine (CVh.out _).mono ?_; rintro e w' ⟨rfl, rfl⟩)
            | (go_at_call 41; refine (CU.out _ W3.out.bel).mono ?_; rintro e w5 ⟨rfl, hw5⟩; have W5 := Lib.hid (W3.out.keep _ _ hw5); have e5 := W5.out.bx.all; have p5 := W5.out.bp.cells; clear hw5))
          go_returns
          exact ⟨by rw [HRS.out]; rfl, W5.out.bel⟩
        · have HRS := Lib.hid (HK4.out HNO.out HNO2.out hz)
          have hz' : ¬ (2048 : Int) < (h.da.size : Int) := by omega
          clear HK1 HK2 HK3 HK4
          go_wp2_with (first
            | (go_at_call 39; refine (CVh.out _).mono ?_; rintro e w' ⟨rfl, rfl⟩)
            | (go_at_call 41; refine (CU.out _ W3.out.bel).mono ?_; rintro e w5 ⟨rfl, hw5⟩; have W5 := Lib.hid (W3.out.keep _ _ hw5); have e5 := W5.out.bx.all; have p5 := W5.out.bp.cells; clear hw5))
          go_roundw
          case rel => exact ⟨D, i + 1, rfl, by go_num, HLT.out, HRS.out, W5.out.bel, W5.out.bx⟩
          case measure => have := HLT.out; simp [intOf]; omega
      · have HRS := Lib.hid (show chkL S0 U (-1) s.l = 0 by rw [HC.out, List.drop_of_length_le (by have := HLEN.out; omega)]; rfl)
        go_wp2
        go_returns
        exact ⟨by rw [HRS.out]; rfl, HB.out.1⟩
end Go.Proofs.Ytldeflpaghbmmaa
