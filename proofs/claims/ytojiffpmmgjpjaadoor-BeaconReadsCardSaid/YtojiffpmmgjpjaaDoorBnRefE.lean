/-
  WALKS of the reference of layer 14: Elements, Octets, Encode.
-/
import Derived.Test.YtojiffpmmgjpjaaDoorBnRefC
import Derived.Test.YtojiffpmmgjpjaaDoorBnEnc2
import Derived.Test.YtojiffpmmgjpjaaDoorTmRefE
import Derived.Test.YtojiffpmmgjpjaaDoorElRef2
import Derived.Test.YtojiffpmmgjpjaaDoorWrRefW
namespace Go.Proofs.YtojiffpmmgjpjaaDoor
open Go.RowKit Go.Bn Go.Wr
attribute [local go_sem ↓ high] Bn_.loadF Bn_.storeF Bn_.v_cells Bn_.v_match Bn_.loadT Bn_.loadS Bn_.loadP
attribute [local go_sem] Bn_.C0 Bn_.C1 Bn_.C2 Bn_.C3 Bn_.C4 Bn_.C9 Bn_.C10 Bn_.loadF_new

theorem refOct14_any (z : Int) (k : Nat) (w : World) (h1 : 1 ≤ k ∧ k ≤ 6) (hz : 0 ≤ z ∧ z < 281474976710656) :
    Calls Tryd.prog 28 #[.int .i64 z, .int .i64 (k : Int)] w fun e w' => e = .returned (.string (oz (le z.toNat k))) ∧ Below w.heap.size w w' := by
  have c := octets_any z.toNat k w h1.1 h1.2 (by omega)
  rw [Int.toNat_of_nonneg hz.1] at c
  exact c
theorem refTmEnc_bn (t : Go.Tm.Tm) (h : TmW t) (h0 : chkT t = 0) (w : World) :
    Calls Tryd.prog 29 #[.agg #[.int .i64 t.c, .int .i64 t.p, .bool t.g, .int .u64 t.m]] w fun e w' => e = .returned (.string (Go.Tm.enc t.c t.p t.g t.m.toNat)) ∧ Below w.heap.size w w' := by
  have := refEncode13_any t.c t.p t.g t.m.toNat w (by have := h.2; omega) (Go.Tm.chk_ok.1 h0).1
  rw [Int.toNat_of_nonneg h.1] at this
  exact this

set_option maxRecDepth 100000 in
set_option maxHeartbeats 16000000 in
theorem refElements14_any (b : Bn) (w : World) (hw : TmW b.tm) (hb : Ok b) :
    Calls Tryd.prog 12 #[Bn_.v b] w fun e w' => ElsPost b w e w' := by
  have HI := Lib.hid (info_parts El_.info)
  have hch := hb.ch
  have hld := hb.ld
  have hsw := hb.sw
  have HOK := Lib.hid (oks_all.1 (oks_four.2 hb.ps))
  have HPL := Lib.hid (psL_len b)
  have H0 : Hid (oz (psL b 0) = ⟨#[]⟩) := rfl
  have HPS : Hid (∀ k, psL b (k + 1) = psL b k ++ prL (b.pr k)) := fun _ => rfl
  have CE := Lib.hid fun w => refTmEnc_bn b.tm hw hb.tm w
  have N1 : Hid (∀ w, Calls Tryd.prog 28 #[.int .i64 b.ch, .int .i64 1] w fun e w' => e = .returned (.string (oz (le b.ch.toNat 1))) ∧ Below w.heap.size w w') := fun w => refOct14_any b.ch 1 w (by decide) (by omega)
  have N2 : Hid (∀ w, Calls Tryd.prog 28 #[.int .i64 b.ld, .int .i64 2] w fun e w' => e = .returned (.string (oz (le b.ld.toNat 2))) ∧ Below w.heap.size w w') := fun w => refOct14_any b.ld 2 w (by decide) (by omega)
  have N3 : Hid (∀ w, Calls Tryd.prog 28 #[.int .i64 b.sc, .int .i64 1] w fun e w' => e = .returned (.string (oz (le b.sc.toNat 1))) ∧ Below w.heap.size w w') := fun w => refOct14_any b.sc 1 w (by decide) (by omega)
  have N4 : Hid (∀ w, Calls Tryd.prog 28 #[.int .i64 b.sn, .int .i64 1] w fun e w' => e = .returned (.string (oz (le b.sn.toNat 1))) ∧ Below w.heap.size w w') := fun w => refOct14_any b.sn 1 w (by decide) (by omega)
  have a1 := oz_add (le b.sc.toNat 1) (le b.sn.toNat 1) (by simp [le_len])
  have HL : Hid ((El_.flat (els5 b)).toArray = #[.int .i64 0, .string b.nm, .int .i64 3, .string (oz (le b.ch.toNat 1)), .int .i64 5, .string (Go.Tm.enc b.tm.c b.tm.p b.tm.g b.tm.m.toNat), .int .i64 11, .string (oz (le b.ld.toNat 2)), .int .i64 12, .string (oz (psL b 4))]) := rfl
  have HS : Hid (elS b = ⟨37, oz (le b.sc.toNat 1 ++ le b.sn.toNat 1)⟩) := rfl
  have H5 : Hid ((els5 b).length = 5) := rfl
  have HE0 : Hid (b.sc = 0 → els b = els5 b) := fun h => if_pos h
  have HE1 : Hid (¬ b.sc = 0 → els b = els5 b ++ [elS b]) := fun h => if_neg h
  generalize Go.Tm.enc b.tm.c b.tm.p b.tm.g b.tm.m.toNat = m at *
  generalize oz (le b.sc.toNat 1 ++ le b.sn.toNat 1) = z at *
  generalize oz (le b.ch.toNat 1) = n1 at *
  generalize oz (le b.ld.toNat 2) = n2 at *
  generalize oz (le b.sc.toNat 1) = n3 at *
  generalize oz (le b.sn.toNat 1) = n4 at *
  obtain ⟨w1, hw1⟩ : ∃ w1, w.alloc (.cells (Bn_.C b) 31) = w1 := ⟨_, rfl⟩
  have S1 := Lib.hid (show Stb w b w1 from hw1 ▸ Stb.new w b)
  have _ne : Nonempty (Of (Stb w b)) := ⟨⟨_, S1.out⟩⟩
  clear hch hld hsw hb hw
  go_enter Tryd.func12, Tryd.ntmps12
  go_wp2
  go_loopw [3, 4] (fun s i wr => ∃ k : Nat, k ≤ 4 ∧ i = .int .i64 k ∧ s = .string (oz (psL b k)) ∧ Stb w b wr) (fun _ i _ => 4 - (intOf i).toNat)
  case atStart => exact ⟨0, by omega, rfl, by rw [H0.out], S1.out⟩
  case round =>
    rename_i wr
    obtain ⟨k, hk, rfl, rfl, hst⟩ := hrel
    have HST := Lib.hid hst
    clear hst
    by_cases h4 : k < 4
    · have hok := prOk_iff.1 (HOK.out k h4)
      have HPk := Lib.hid (HPS.out k)
      have hpl := HPL.out k
      have HC := Lib.hid (fun (p : Of (Stb w b)) => p.ok.box.cellP k h4)
      generalize b.pr k = q at *
      have M1 : Hid (∀ w, Calls Tryd.prog 28 #[.int .i64 q.a, .int .i64 1] w fun e w' => e = .returned (.string (oz (le q.a.toNat 1))) ∧ Below w.heap.size w w') := fun w => refOct14_any q.a 1 w (by decide) (by omega)
      have M2 : Hid (∀ w, Calls Tryd.prog 28 #[.int .i64 q.i, .int .i64 1] w fun e w' => e = .returned (.string (oz (le q.i.toNat 1))) ∧ Below w.heap.size w w') := fun w => refOct14_any q.i 1 w (by decide) (by omega)
      have M3 : Hid (∀ w, Calls Tryd.prog 28 #[.int .i64 q.x, .int .i64 1] w fun e w' => e = .returned (.string (oz (le q.x.toNat 1))) ∧ Below w.heap.size w w') := fun w => refOct14_any q.x 1 w (by decide) (by omega)
      have M4 : Hid (∀ w, Calls Tryd.prog 28 #[.int .i64 q.t, .int .i64 2] w fun e w' => e = .returned (.string (oz (le q.t.toNat 2))) ∧ Below w.heap.size w w') := fun w => refOct14_any q.t 2 w (by decide) (by omega)
      have b1 := oz_add (psL b k) (le q.a.toNat 1) (by rw [hpl, le_len]; omega)
      have b2 := oz_add (psL b k ++ le q.a.toNat 1) (le q.i.toNat 1) (by rw [List.length_append, hpl, le_len, le_len]; omega)
      have b3 := oz_add (psL b k ++ le q.a.toNat 1 ++ le q.i.toNat 1) (le q.x.toNat 1) (by rw [List.length_append, List.length_append, hpl, le_len, le_len, le_len]; omega)
      have b4 : ∀ W, (Op.stringOp .add (oz (psL b k ++ le q.a.toNat 1 ++ le q.i.toNat 1 ++ le q.x.toNat 1)) (oz (le q.t.toNat 2))).run Tryd.prog W = .ok (.string (oz (psL b (k + 1)))) W := fun W => by
        rw [HPk.out]
        have := oz_add (psL b k ++ le q.a.toNat 1 ++ le q.i.toNat 1 ++ le q.x.toNat 1) (le q.t.toNat 2) (by simp only [List.length_append, hpl, le_len]; omega) W
        rw [this]; unfold prL; simp only [List.append_assoc]
      obtain ⟨s1, hs1⟩ : ∃ s, s = oz (psL b (k + 1)) := ⟨_, rfl⟩
      rw [← hs1] at b4
      have HS1 := Lib.hid hs1
      clear hs1 HPk
      generalize oz (psL b k ++ le q.a.toNat 1 ++ le q.i.toNat 1 ++ le q.x.toNat 1) = y3 at *
      generalize oz (psL b k ++ le q.a.toNat 1 ++ le q.i.toNat 1) = y2 at *
      generalize oz (psL b k ++ le q.a.toNat 1) = y1 at *
      generalize oz (psL b k) = y0 at *
      generalize oz (le q.a.toNat 1) = m1 at *
      generalize oz (le q.i.toNat 1) = m2 at *
      generalize oz (le q.x.toNat 1) = m3 at *
      generalize oz (le q.t.toNat 2) = m4 at *
      have i0 : (0 : Int) ≤ (k : Int) := by omega
      have i1 : (k : Int) < 4 := by omega
      have d0 := fun p => (HC.out p).1
      have d1 := fun p => (HC.out p).2.1
      have d2 := fun p => (HC.out p).2.2.1
      have d3 := fun p => (HC.out p).2.2.2
      clear hok hpl N1 N2 N3 N4 CE HOK HPL HPS HL HS H5 HE0 HE1 HI H0 HC a1 S1
      go_wp2
      refine wp_region_of (Stb w b) (by kernel_rfl) (by kernel_rfl) HST.out.drew ?_
      repeat (quiet_step (first
        | (go_at_call 28; with_reducible exact Calls.of_below Stb.keep' (M1.out _))
        | (go_at_call 28; with_reducible exact Calls.of_below Stb.keep' (M2.out _))
        | (go_at_call 28; with_reducible exact Calls.of_below Stb.keep' (M3.out _))
        | (go_at_call 28; with_reducible exact Calls.of_below Stb.keep' (M4.out _))))
      refine wpQuiet_nil ?_
      rintro _ ⟨p, rfl⟩
      go_wp2
      go_roundw
      case rel => exact ⟨k + 1, by omega, by go_num, by rw [HS1.out], p.ok⟩
      case measure => simp [intOf]; omega
    · obtain rfl : k = 4 := by omega
      generalize oz (psL b 4) = ps at *
      have q0 := HST.out.box.drew.all
      have q1 := HST.out.box.drew.loadT
      have q2 : Stb w b wr.drew := HST.out.drew
      clear HOK HPL HPS H0 S1
      go_wp2
      go_region_held3 (fun w' => (∀ j : Nat, w'.cell? ⟨w.heap.size, j, none⟩ = (Bn_.C b)[j]?) ∧ (Bn_.LoadT ⟨w.heap.size, 5, none⟩).run Tryd.prog w' = .ok (.agg #[.int .i64 b.tm.c, .int .i64 b.tm.p, .bool b.tm.g, .int .u64 b.tm.m]) w' ∧ Stb w b w') (first | exact ⟨by assumption, by assumption, by assumption⟩ | exact ⟨u3.box.all, u3.box.loadT, u3⟩ | go_keep)
        (first
        | (go_at_call 28; with_reducible refine (N1.out _).mono ?_; rintro e w3 ⟨rfl, hb⟩; have r2 := q2.keep hb; have r0 := r2.box.all; have r1 := r2.box.loadT)
        | (go_at_call 29; refine (CE.out _).mono ?_; rintro e w4 ⟨rfl, hb⟩; have s2 := r2.keep hb; have s0 := s2.box.all; have s1 := s2.box.loadT)
        | (go_at_call 28; with_reducible refine (N2.out _).mono ?_; rintro e w5 ⟨rfl, hb⟩; have t2 := s2.keep hb; have t0 := t2.box.all; have t1 := t2.box.loadT; have u := t2.lits (els5 b) (by rw [H5.out]; decide); rw [HL.out, H5.out] at u; have u3 := u.st))
      have E2 := Lib.hid u
      have e2 := u3.box.all
      clear q0 q1 q2 r0 r1 r2 s0 s1 s2 t0 t1 t2 u u3 N1 N2 CE HST
      by_cases hc : b.sc = 0
      · have hc' : (b.sc != 0) = false := by rw [hc]; rfl
        have HQ := Lib.hid (HE0.out hc)
        clear hc
        go_wp2
        go_ret
        exact elsPost_of HQ.out rfl (El_.sl_owns E2.out.own) E2.out.st.bel
      · have hc' : (b.sc != 0) = true := by simp [hc]
        have HQ := Lib.hid (HE1.out hc)
        clear hc
        have q0 := E2.out.st.box.drew.all
        have q2 := E2.out.drew
        have q3 := q2.st
        obtain ⟨i0, hi, hz0, hz1, hz2⟩ := HI.out
        go_wp2
        go_region_held3 (fun w' => (∀ j : Nat, w'.cell? ⟨w.heap.size, j, none⟩ = (Bn_.C b)[j]?) ∧ Stb w b w') (first | exact ⟨by assumption, by assumption⟩ | exact ⟨s4.box.all, s4⟩ | go_keep)
          (first
          | (go_at_call 28; with_reducible refine (N3.out _).mono ?_; rintro e w7 ⟨rfl, hb⟩; have r2 := q2.keep hb; have r3 := r2.st; have r0 := r3.box.all)
          | (go_at_call 28; with_reducible refine (N4.out _).mono ?_; rintro e w8 ⟨rfl, hb⟩; have s2 := r2.keep hb; have s3 := s2.st; have s0 := s3.box.all; obtain ⟨s4, own8, new8, le8⟩ := s2.next z)
          | (refine step_append_lies _ rfl (.tmp 61) (.tmp 72) 32 rfl (w.heap.size + 1) 49 i0 (.agg #[.int .i64 0, .string ⟨#[]⟩]) 2 24 Tryd.underlying32 hi hz0 hz1 hz2 rfl (by decide) (.slice (some ⟨w5.heap.size, 0, none⟩) 5 5) 5 (El_.flat (els5 b)) (by simp [Act.eval]) own8 ⟨w8.heap.size, 0, none⟩ 1 1 [.int .i64 37, .string z] (by simp [Act.eval]) rfl new8 (by intro u hu; simp at hu; rcases hu with rfl | rfl <;> rfl) (by decide) (by unfold maxLen; decide) (by decide) le8 _ rfl ?_; intro g cap w9 hown3 hgrow hat hlt3; have x4 := s4.keep1 (Below.grown (Below.refl (w.heap.size + 1) _) hgrow le8 (fun j hj => (own8.lt j hj).1)); have x0 := x4.box.all))
        go_wp2
        go_ret
        refine elsPost_of HQ.out ?_ (c := cap) (v0 := some ⟨g, 0, none⟩) (El_.sl_owns (base := w.heap.size + 1) ?_) x4.bel
        · rw [List.length_append, H5.out]; rfl
        · rw [List.length_append, H5.out, El_.flat_append, HS.out]
          exact hown3
end Go.Proofs.YtojiffpmmgjpjaaDoor
