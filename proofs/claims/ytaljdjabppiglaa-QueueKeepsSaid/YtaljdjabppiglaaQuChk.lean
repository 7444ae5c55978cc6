/-
  WALKS of package queue: checkNext, Check.
-/
import Derived.Test.YtaljdjabppiglaaQuFns
namespace Go.Proofs.Ytaljdjabppiglaa
open Go.RowKit Go.Qu Go.Wr Go.Ad
attribute [local go_sem ↓ high] Ix_.loadF Ix_.storeF Ix_.v_cells Ix_.v_match
attribute [local go_sem] Ix_.C0 Ix_.C1 Ix_.C2 Ix_.C3 Ix_.C4 Ix_.C5 Ix_.C6 Ix_.loadF_new Ix_.storeF_zero Oper.semAt_some

theorem vld_any (a : Int) (w : World) (h0 : 0 ≤ a) : Calls Try.prog 44 #[.int .u64 a] w fun e w' => e = .returned (.bool (vld a)) ∧ w = w' := by
  obtain ⟨n, rfl⟩ : ∃ n : Nat, a = n := ⟨a.toNat, by omega⟩
  exact valid_any n w
theorem ierr_a {x : It} (h : x.id < 1 ∨ x.cat < 0 ∨ 4 ≤ x.cat) : ierr x = 4 := if_pos h
theorem ierr_b {x : It} (h : ¬ (x.id < 1 ∨ x.cat < 0 ∨ 4 ≤ x.cat)) (h2 : vld x.to = false ∨ sgl x.fr = false) : ierr x = 4 := (if_neg h).trans (if_pos h2)
theorem ierr_c {x : It} (h : ¬ (x.id < 1 ∨ x.cat < 0 ∨ 4 ≤ x.cat)) (h2 : ¬ (vld x.to = false ∨ sgl x.fr = false)) (h3 : slt x.bo = false ∨ slt x.li = false) : ierr x = 4 := ((if_neg h).trans (if_neg h2)).trans (if_pos h3)
theorem ierr_d {x : It} (h : ¬ (x.id < 1 ∨ x.cat < 0 ∨ 4 ≤ x.cat)) (h2 : ¬ (vld x.to = false ∨ sgl x.fr = false)) (h3 : ¬ (slt x.bo = false ∨ slt x.li = false)) (h4 : 1024 < x.da.size) : ierr x = 2 := (((if_neg h).trans (if_neg h2)).trans (if_neg h3)).trans (if_pos h4)
theorem ierr_e {x : It} (h : ¬ (x.id < 1 ∨ x.cat < 0 ∨ 4 ≤ x.cat)) (h2 : ¬ (vld x.to = false ∨ sgl x.fr = false)) (h3 : ¬ (slt x.bo = false ∨ slt x.li = false)) (h4 : ¬ 1024 < x.da.size) : ierr x = 0 := (((if_neg h).trans (if_neg h2)).trans (if_neg h3)).trans (if_neg h4)
theorem cnx_bad {l : List It} {x : It} {k : Int} (h : ierr x = k) (hk : k ≠ 0) : cnx l x = k := by unfold cnx; rw [h, if_neg hk]
theorem cnx_ok {l : List It} {x : It} (h : ierr x = 0) : cnx l x = if hasId l x.id then 8 else 0 := by unfold cnx; rw [if_pos h]

set_option maxRecDepth 100000 in
set_option maxHeartbeats 4000000 in
theorem cnx_any (x : It) (sa : Option Addr) (l : List It) (c : Nat) (w : World) (hx : Wf x) (hS : It_.Sl w sa l c) (hl : l.length ≤ 1000) :
    Calls Try.prog 30 #[.slice sa l.length c, Ix_.v x] w fun e w' => e = .returned (.int .i64 (cnx l x)) ∧ Below w.heap.size w w' := by
  obtain ⟨w1, hw1⟩ : ∃ w1, w.alloc (.cells (Ix_.C x) 28) = w1 := ⟨_, rfl⟩
  have hb : Ix_.Box w1 w.heap.size x := hw1 ▸ Ix_.Box.new w x
  have B1 : Hid (Below w.heap.size w w1) := hw1 ▸ (Below.refl _ _).alloc (Nat.le_refl _) _
  have e1 := hb.all
  by_cases h1 : x.id < 1
  · rw [cnx_bad (ierr_a (.inl h1)) (by decide)]
    clear hb hS hx hl
    go_enter Try.func30, Try.ntmps30
    go_wp2
    go_returns
    exact ⟨rfl, B1.out⟩
  by_cases h2 : x.cat < 0
  · rw [cnx_bad (ierr_a (.inr (.inl h2))) (by decide)]
    clear hb hS hx hl
    go_enter Try.func30, Try.ntmps30
    go_wp2
    go_returns
    exact ⟨rfl, B1.out⟩
  by_cases h3 : 4 ≤ x.cat
  · rw [cnx_bad (ierr_a (.inr (.inr h3))) (by decide)]
    clear hb hS hx hl
    go_enter Try.func30, Try.ntmps30
    go_wp2
    go_returns
    exact ⟨rfl, B1.out⟩
  have CV := Lib.hid (fun w => vld_any x.to w hx.t0)
  have hA : ¬ (x.id < 1 ∨ x.cat < 0 ∨ 4 ≤ x.cat) := by omega
  cases hv : vld x.to
  · rw [cnx_bad (ierr_b hA (.inl hv)) (by decide)]
    rw [hv] at CV
    clear hb hS hx hl hA hv
    go_enter Try.func30, Try.ntmps30
    go_wp2_with (go_at_call 44; refine (CV.out _).mono ?_; rintro e w' ⟨rfl, rfl⟩)
    go_returns
    exact ⟨rfl, B1.out⟩
  have CG := Lib.hid (fun w => single_any x.fr w hx.f0 hx.f1)
  rw [hv] at CV
  cases hg : sgl x.fr
  · rw [cnx_bad (ierr_b hA (.inr hg)) (by decide)]
    rw [hg] at CG
    clear hb hS hx hl hA hv hg
    go_enter Try.func30, Try.ntmps30
    go_wp2_with (first
      | (go_at_call 44; refine (CV.out _).mono ?_; rintro e w' ⟨rfl, rfl⟩)
      | (go_at_call 45; refine (CG.out _).mono ?_; rintro e w' ⟨rfl, rfl⟩))
    go_returns
    exact ⟨rfl, B1.out⟩
  have hB : ¬ (vld x.to = false ∨ sgl x.fr = false) := by rw [hv, hg]; simp
  rw [hg] at CG
  have CB := Lib.hid (fun w => slot_any x.bo w)
  have CL := Lib.hid (fun w => slot_any x.li w)
  cases hs : slt x.bo
  · rw [cnx_bad (ierr_c hA hB (.inl hs)) (by decide)]
    rw [hs] at CB
    clear hb hS hx hl hA hv hg hB hs CL
    go_enter Try.func30, Try.ntmps30
    go_wp2_with (first
      | (go_at_call 44; refine (CV.out _).mono ?_; rintro e w' ⟨rfl, rfl⟩)
      | (go_at_call 46; refine (CB.out _).mono ?_; rintro e w' ⟨rfl, rfl⟩)
      | (go_at_call 45; refine (CG.out _).mono ?_; rintro e w' ⟨rfl, rfl⟩))
    go_returns
    exact ⟨rfl, B1.out⟩
  rw [hs] at CB
  cases ht : slt x.li
  · rw [cnx_bad (ierr_c hA hB (.inr ht)) (by decide)]
    rw [ht] at CL
    clear hb hS hx hl hA hv hg hB hs ht
    go_enter Try.func30, Try.ntmps30
    go_wp2_with (first
      | (go_at_call 44; refine (CV.out _).mono ?_; rintro e w' ⟨rfl, rfl⟩)
      | (go_at_call 46; with_reducible refine (CB.out _).mono ?_; rintro e w' ⟨rfl, rfl⟩)
      | (go_at_call 46; with_reducible refine (CL.out _).mono ?_; rintro e w' ⟨rfl, rfl⟩)
      | (go_at_call 45; refine (CG.out _).mono ?_; rintro e w' ⟨rfl, rfl⟩))
    go_returns
    exact ⟨rfl, B1.out⟩
  have hC : ¬ (slt x.bo = false ∨ slt x.li = false) := by rw [hs, ht]; simp
  rw [ht] at CL
  by_cases h5 : 1024 < x.da.size
  · have h5' : (1024 : Int) < (x.da.size : Int) := by omega
    rw [cnx_bad (ierr_d hA hB hC h5) (by decide)]
    clear hb hS hx hl hA hv hg hB hs ht hC h5
    go_enter Try.func30, Try.ntmps30
    go_wp2_with (first
      | (go_at_call 44; refine (CV.out _).mono ?_; rintro e w' ⟨rfl, rfl⟩)
      | (go_at_call 46; with_reducible refine (CB.out _).mono ?_; rintro e w' ⟨rfl, rfl⟩)
      | (go_at_call 46; with_reducible refine (CL.out _).mono ?_; rintro e w' ⟨rfl, rfl⟩)
      | (go_at_call 45; refine (CG.out _).mono ?_; rintro e w' ⟨rfl, rfl⟩))
    go_returns
    exact ⟨rfl, B1.out⟩
  · have h5' : ¬ (1024 : Int) < (x.da.size : Int) := by omega
    have CC := Lib.hid (qu_contains_any (fun W => Ix_.Box W w.heap.size x) 48 #[.pointer (some ⟨w.heap.size, 0, none⟩)] (fun p => p.id == x.id) (fun _ => True) (isId_tells x w.heap.size) sa l c w1 (fun W hW => hb.below hW hb.lt) (fun _ _ => trivial) (hS.below B1.out) hl)
    rw [cnx_ok (ierr_e hA hB hC h5)]
    have hI : (l.any fun p => p.id == x.id) = hasId l x.id := rfl
    rw [hI] at CC
    clear hb hS hx hl hA hv hg hB hs ht hC h5 hI
    generalize hasId l x.id = H at *
    cases H
    all_goals
      first | rw [if_neg (show ¬ false = true by decide)] | rw [if_pos rfl]
      go_enter Try.func30, Try.ntmps30
      go_wp2_with (first
        | (go_at_call 44; refine (CV.out _).mono ?_; rintro e w' ⟨rfl, rfl⟩)
        | (go_at_call 46; with_reducible refine (CB.out _).mono ?_; rintro e w' ⟨rfl, rfl⟩)
        | (go_at_call 46; with_reducible refine (CL.out _).mono ?_; rintro e w' ⟨rfl, rfl⟩)
        | (go_at_call 45; refine (CG.out _).mono ?_; rintro e w' ⟨rfl, rfl⟩)
        | (go_at_call 47; refine CC.out.mono ?_; rintro e w2 ⟨rfl, hw2⟩; have B2 := Lib.hid (B1.out.trans (hw2.mono B1.out.size)); clear hw2))
      go_returns
      exact ⟨rfl, B2.out⟩

set_option maxRecDepth 100000 in
set_option maxHeartbeats 4000000 in
theorem qu_check_any (sa : Option Addr) (l : List It) (c : Nat) (w : World) (hd : ∀ p ∈ l, Wf p) (hS : It_.Sl w sa l c) (hl : l.length ≤ 1000) :
    Calls Try.prog 12 #[.slice sa l.length c] w fun e w' => e = .returned (.int .i64 (chk l)) ∧ Below w.heap.size w w' := by
  have hle := hS.le
  have hnil := hS.nil
  by_cases h64 : 64 < l.length
  · have h64' : (64 : Int) < (l.length : Int) := by omega
    rw [show chk l = 6 from if_pos h64]
    clear hS hd hl
    go_enter Try.func12, Try.ntmps12
    go_wp2
    go_returns
    exact ⟨rfl, Below.refl _ _⟩
  have h64' : ¬ (64 : Int) < (l.length : Int) := by omega
  have HG : Hid (chk l = chkI (l.take 0) (l.drop 0)) := if_neg h64
  have HS := Lib.hid hS
  have HD := Lib.hid hd
  have HL := Lib.hid hl
  clear hS hd hl
  generalize hn : l.length = n at *
  have HN := Lib.hid hn
  clear hn
  go_enter Try.func12, Try.ntmps12
  go_wp2
  go_loopw [11] (fun z wr => ∃ i : Nat, z = .int .i64 i ∧ i ≤ n ∧ Hid (chk l = chkI (l.take i) (l.drop i)) ∧ Hid (Below w.heap.size w wr)) (fun z _ => n - (intOf z).toNat)
  case atStart => exact ⟨0, rfl, Nat.zero_le _, HG, Below.refl _ _⟩
  case round =>
    clear HG
    rename World => wr
    obtain ⟨i, rfl, hi, HA, HB⟩ := hrel
    by_cases hlt : i < n
    · have hil : i < l.length := by have := HN.out; omega
      have hlt' : (i : Int) < (n : Int) := by omega
      have i0 : (0 : Int) ≤ (i : Int) := by omega
      obtain ⟨b, off, hsa, hbl, -⟩ := HS.out.lies i hil
      have ld := it_load (HS.out.lies.below HB.out) hil hsa
      have hx : Wf l[i] := HD.out _ (List.getElem_mem hil)
      have HC := Lib.hid (chkI_at hil)
      have HST := Lib.hid (fun W hW => sl_take23 (HS.out.below (W' := W) hW) i)
      have htl : (l.take i).length = i := by rw [List.length_take]; omega
      have hd1 := fun W => head23 sa n c i (by omega) hnil W
      have CN : Hid (∀ W, Below w.heap.size w W → Calls Try.prog 30 #[.slice sa i c, Ix_.v l[i]] W fun e w' => e = .returned (.int .i64 (cnx (l.take i) l[i])) ∧ Below W.heap.size W w') := fun W hW => by
        have := cnx_any l[i] sa (l.take i) c W hx (HST.out W hW) (by have := HL.out; omega)
        rw [htl] at this; exact this
      subst hsa
      have hi1 : i ≤ 1000 := by have := HL.out; omega
      have HLT := Lib.hid hlt
      obtain ⟨w1, hw1⟩ : ∃ w1, wr.alloc (.cells (Ix_.C l[i]) 28) = w1 := ⟨_, rfl⟩
      have hz := Ix_.storeF_zero wr l[i]
      rw [hw1] at hz
      have B1 : Hid (Below w.heap.size w w1) := HB.out.trans ((show Below wr.heap.size wr w1 from hw1 ▸ (Below.refl _ _).alloc (Nat.le_refl _) _).mono HB.out.size)
      have X1 := Lib.hid (show Ix_.Box w1 wr.heap.size l[i] from hw1 ▸ Ix_.Box.new wr _)
      generalize l[i] = x at *
      generalize cnx (l.take i) x = K at *
      clear hbl hil hlt hw1 htl hx
      have CN2 := Lib.hid (fun W (hW : Below w1.heap.size w1 W) => CN.out W (B1.out.trans (hW.mono B1.out.size)))
      go_wp2
      have q0 : ∀ (q : Of (fun W => Below w1.heap.size w1 W)), (Ix_.LoadF ⟨wr.heap.size, 0, none⟩).run Try.prog q.w = .ok (Ix_.v x) q.w := fun q => (X1.out.below q.ok X1.out.lt).loadF
      have _ne : Nonempty (Of (fun W => Below w1.heap.size w1 W)) := ⟨⟨_, Below.refl _ _⟩⟩
      refine wp_region_of (fun W => Below w1.heap.size w1 W) (by kernel_rfl) (Region.lexB_of_fast (by kernel_rfl)) ⟨rfl, rfl, rfl, Nat.le_refl _, fun _ _ => rfl⟩ ?_
      repeat (go_big_quiet_step (first
        | (go_at_call 30; exact Calls.of_below (fun _ _ h hb => h.trans (hb.mono h.size)) (CN2.out _ (Of.ok _)))))
      refine wpQuiet_nil ?_
      rintro _ ⟨q, rfl⟩
      have B2 : Hid (Below w.heap.size w q.w) := B1.out.trans (q.ok.mono B1.out.size)
      generalize q.w = w2 at *
      clear q0 _ne CN CN2
      by_cases hK : K = 0
      · subst hK
        have HA2 := Lib.hid (HA.out.trans (HC.out.trans (if_pos rfl)))
        go_wp2
        go_roundw
        case rel => exact ⟨i + 1, by go_num, HLT.out, HA2, B2⟩
        case measure => have := HLT.out; simp [intOf]; omega
      · have hK' : (K != 0) = true := by simpa using hK
        have HA2 := Lib.hid (HA.out.trans (HC.out.trans (if_neg hK)))
        go_wp2
        go_returns
        exact ⟨by rw [HA2.out]; rfl, B2.out⟩
    · obtain rfl : i = n := by omega
      have HA2 := Lib.hid (HA.out.trans (chkI_end (by have := HN.out; omega)))
      go_wp2
      go_returns
      exact ⟨by rw [HA2.out]; rfl, HB.out⟩
end Go.Proofs.Ytaljdjabppiglaa
