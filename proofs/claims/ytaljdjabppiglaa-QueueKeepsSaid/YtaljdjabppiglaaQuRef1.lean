/-
  WALKS of the reference of layer 23: Item, Has, Items, Check, Small, Same, expired.
-/
import Derived.Test.YtaljdjabppiglaaQuSep
import Derived.Test.YtaljdjabppiglaaQuEq
import Derived.Test.YtaljdjabppiglaaAdRef
namespace Go.Proofs.Ytaljdjabppiglaa
open Go.RowKit Go.Qu Go.Wr Go.Ad
attribute [local go_sem ↓ high] Ix_.loadF Ix_.storeF Ix_.v_cells Ix_.v_match
attribute [local go_sem] Ix_.C0 Ix_.C1 Ix_.C2 Ix_.C3 Ix_.C4 Ix_.C5 Ix_.C6 Ix_.loadF_new Ix_.storeF_zero Oper.semAt_some fold_c Ix_.Csize

theorem r23_valid (a : Int) (w : World) (h0 : 0 ≤ a) : Calls Try.prog 51 #[.int .u64 a] w fun e w' => e = .returned (.bool (vld a)) ∧ w = w' := by
  obtain ⟨n, rfl⟩ : ∃ n : Nat, a = n := ⟨a.toNat, by omega⟩
  exact refValid5_any n w
set_option maxRecDepth 100000 in
theorem r23_single (a : Int) (w : World) (h0 : 0 ≤ a) (h1 : a < 18446744073709551616) :
    Calls Try.prog 52 #[.int .u64 a] w fun e w' => e = .returned (.bool (sgl a)) ∧ w = w' := by
  obtain ⟨n, rfl⟩ : ∃ n : Nat, a = n := ⟨a.toNat, by omega⟩
  have CV := Lib.hid (fun w => refValid5_any n w)
  have CG := Lib.hid (fun w => refGroup5_any n w (by omega))
  have hE : sgl (n : Int) = (vald n && !grp n) := by unfold sgl; rw [Int.toNat_natCast]
  rw [hE]
  clear h0 h1 hE
  cases hv : vald n
  · rw [hv] at CV
    go_enter Try.func52, Try.ntmps52
    go_wp2_with (go_at_call 51; refine (CV.out _).mono ?_; rintro e w' ⟨rfl, rfl⟩)
    go_returns
    exact ⟨rfl, rfl⟩
  · rw [hv] at CV
    rw [Bool.true_and]
    generalize grp n = G at *
    go_enter Try.func52, Try.ntmps52
    go_wp2_with (first
      | (go_at_call 51; refine (CV.out _).mono ?_; rintro e w' ⟨rfl, rfl⟩)
      | (go_at_call 55; refine (CG.out _).mono ?_; rintro e w' ⟨rfl, rfl⟩))
    go_returns
    exact ⟨rfl, rfl⟩

theorem slt_no {n : Int} (h : slt n = false) : n < 0 ∨ 16777216 < n := by unfold slt at h; simp at h; omega
theorem slt_yes {n : Int} (h : slt n = true) : ¬ n < 0 ∧ ¬ 16777216 < n := by unfold slt at h; simp at h; omega

set_option maxRecDepth 100000 in
set_option maxHeartbeats 4000000 in
theorem r23_item_any (x : It) (w : World) (hx : Wf x) :
    Calls Try.prog 38 #[Ix_.v x] w fun e w' => e = .returned (.int .i64 (ierr x)) ∧ Below w.heap.size w w' := by
  obtain ⟨w1, hw1⟩ : ∃ w1, w.alloc (.cells (Ix_.C x) 28) = w1 := ⟨_, rfl⟩
  have hb : Ix_.Box w1 w.heap.size x := hw1 ▸ Ix_.Box.new w x
  have B1 : Hid (Below w.heap.size w w1) := hw1 ▸ (Below.refl _ _).alloc (Nat.le_refl _) _
  have e1 := hb.all
  have CV := Lib.hid (fun w => r23_valid x.to w hx.t0)
  have CG := Lib.hid (fun w => r23_single x.fr w hx.f0 hx.f1)
  clear hb
  by_cases h1 : x.id < 1
  · rw [ierr_a (.inl h1)]
    clear hx CV CG
    go_enter Try.func38, Try.ntmps38
    go_wp2
    go_returns
    exact ⟨rfl, B1.out⟩
  by_cases h2 : x.cat < 0
  · rw [ierr_a (.inr (.inl h2))]
    clear hx CV CG
    go_enter Try.func38, Try.ntmps38
    go_wp2
    go_returns
    exact ⟨rfl, B1.out⟩
  by_cases h3 : 4 ≤ x.cat
  · rw [ierr_a (.inr (.inr h3))]
    clear hx CV CG
    go_enter Try.func38, Try.ntmps38
    go_wp2
    go_returns
    exact ⟨rfl, B1.out⟩
  have hA : ¬ (x.id < 1 ∨ x.cat < 0 ∨ 4 ≤ x.cat) := by omega
  cases hv : vld x.to
  · rw [ierr_b hA (.inl hv)]
    rw [hv] at CV
    clear hx hA hv CG
    go_enter Try.func38, Try.ntmps38
    go_wp2_with (go_at_call 51; refine (CV.out _).mono ?_; rintro e w' ⟨rfl, rfl⟩)
    go_returns
    exact ⟨rfl, B1.out⟩
  rw [hv] at CV
  cases hg : sgl x.fr
  · rw [ierr_b hA (.inr hg)]
    rw [hg] at CG
    clear hx hA hv hg
    go_enter Try.func38, Try.ntmps38
    go_wp2_with (first
      | (go_at_call 51; refine (CV.out _).mono ?_; rintro e w' ⟨rfl, rfl⟩)
      | (go_at_call 52; refine (CG.out _).mono ?_; rintro e w' ⟨rfl, rfl⟩))
    go_returns
    exact ⟨rfl, B1.out⟩
  have hB : ¬ (vld x.to = false ∨ sgl x.fr = false) := by rw [hv, hg]; simp
  rw [hg] at CG
  clear hx
  cases hs : slt x.bo
  · rw [ierr_c hA hB (.inl hs)]
    rcases slt_no hs with h | h
    all_goals
      try have h' : ¬ x.bo < 0 := by omega
      clear hA hv hg hB hs
      go_enter Try.func38, Try.ntmps38
      go_wp2_with (first
        | (go_at_call 51; refine (CV.out _).mono ?_; rintro e w' ⟨rfl, rfl⟩)
        | (go_at_call 52; refine (CG.out _).mono ?_; rintro e w' ⟨rfl, rfl⟩))
      go_returns
      exact ⟨rfl, B1.out⟩
  obtain ⟨hs1, hs2⟩ := slt_yes hs
  cases ht : slt x.li
  · rw [ierr_c hA hB (.inr ht)]
    rcases slt_no ht with h | h
    all_goals
      try have h' : ¬ x.li < 0 := by omega
      clear hA hv hg hB hs ht
      go_enter Try.func38, Try.ntmps38
      go_wp2_with (first
        | (go_at_call 51; refine (CV.out _).mono ?_; rintro e w' ⟨rfl, rfl⟩)
        | (go_at_call 52; refine (CG.out _).mono ?_; rintro e w' ⟨rfl, rfl⟩))
      go_returns
      exact ⟨rfl, B1.out⟩
  obtain ⟨ht1, ht2⟩ := slt_yes ht
  have hC : ¬ (slt x.bo = false ∨ slt x.li = false) := by rw [hs, ht]; simp
  by_cases h5 : 1024 < x.da.size
  · have h5' : (1024 : Int) < (x.da.size : Int) := by omega
    rw [ierr_d hA hB hC h5]
    clear hA hv hg hB hs ht hC h5
    go_enter Try.func38, Try.ntmps38
    go_wp2_with (first
      | (go_at_call 51; refine (CV.out _).mono ?_; rintro e w' ⟨rfl, rfl⟩)
      | (go_at_call 52; refine (CG.out _).mono ?_; rintro e w' ⟨rfl, rfl⟩))
    go_returns
    exact ⟨rfl, B1.out⟩
  · have h5' : ¬ (1024 : Int) < (x.da.size : Int) := by omega
    rw [ierr_e hA hB hC h5]
    clear hA hv hg hB hs ht hC h5
    go_enter Try.func38, Try.ntmps38
    go_wp2_with (first
      | (go_at_call 51; refine (CV.out _).mono ?_; rintro e w' ⟨rfl, rfl⟩)
      | (go_at_call 52; refine (CG.out _).mono ?_; rintro e w' ⟨rfl, rfl⟩))
    go_returns
    exact ⟨rfl, B1.out⟩

theorem hasTo_yes {l : List It} {k : Int} {i : Nat} (h : i < l.length) (hk : l[i].id = k) : hasId l k = true := by
  unfold hasId; rw [List.any_eq_true]; exact ⟨_, List.getElem_mem h, by simp [hk]⟩
theorem hasTo_no {l : List It} {k : Int} (h : ∀ j (hj : j < l.length), ¬ l[j].id = k) : hasId l k = false := by
  unfold hasId; rw [List.any_eq_false]
  intro x hx
  obtain ⟨j, hj, rfl⟩ := List.mem_iff_getElem.1 hx
  simpa using h j hj
set_option maxRecDepth 100000 in
set_option maxHeartbeats 4000000 in
theorem r23_has_any (sa : Option Addr) (l : List It) (c : Nat) (k : Int) (w : World) (hS : It_.Sl w sa l c) (hl : l.length ≤ 1000) :
    Calls Try.prog 14 #[.slice sa l.length c, .int .i64 k] w fun e w' => e = .returned (.bool (hasId l k)) ∧ w = w' := by
  have HS := Lib.hid hS
  have HL := Lib.hid hl
  clear hS hl
  generalize hn : l.length = n at *
  have HN := Lib.hid hn
  clear hn
  go_enter Try.func14, Try.ntmps14
  go_wp2
  go_loopw [5] (fun z wr => ∃ i : Nat, z = .int .i64 i ∧ i ≤ n ∧ Hid (∀ j (hj : j < l.length), j < i → ¬ l[j].id = k) ∧ w = wr) (fun z _ => n - (intOf z).toNat)
  case atStart => exact ⟨0, rfl, Nat.zero_le _, fun j _ hj => absurd hj (Nat.not_lt_zero _), rfl⟩
  case round =>
    obtain ⟨i, rfl, hi, HA, rfl⟩ := hrel
    by_cases hlt : i < n
    · have hil : i < l.length := by have := HN.out; omega
      have hlt' : (i : Int) < (n : Int) := by omega
      have i0 : (0 : Int) ≤ (i : Int) := by omega
      obtain ⟨b, off, hsa, hbl, c0, -⟩ := HS.out.lies i hil
      subst hsa
      have HX := Lib.hid (fun (h0 : ¬ l[i].id = k) => show ∀ j (hj : j < l.length), j < i + 1 → ¬ l[j].id = k from fun j hj hji => by
        rcases Nat.lt_succ_iff_lt_or_eq.1 hji with h | h
        · exact HA.out j hj h
        · subst h; exact h0)
      have HY := Lib.hid (fun (h0 : l[i].id = k) => hasTo_yes hil h0)
      have hi1 : i ≤ 1000 := by have := HL.out; omega
      have HLT := Lib.hid hlt
      generalize l[i] = h at *
      clear hbl hil hlt
      by_cases hk : h.id = k
      · have HZ := Lib.hid (HY.out hk)
        rw [hk] at c0
        go_wp2
        go_returns
        exact ⟨by rw [HZ.out]; rfl, rfl⟩
      · have HZ := Lib.hid (HX.out hk)
        have hk' : (h.id == k) = false := by rw [beq_eq_false_iff_ne]; exact hk
        go_wp2
        go_roundw
        case rel => exact ⟨i + 1, by go_num, HLT.out, HZ, by first | rfl | trivial⟩
        case measure => have := HLT.out; simp [intOf]; omega
    · obtain rfl : i = n := by omega
      have HZ := Lib.hid (hasTo_no (fun j hj => HA.out j hj (by have := HN.out; omega)))
      go_wp2
      go_returns
      exact ⟨by rw [HZ.out]; rfl, rfl⟩

set_option maxRecDepth 100000 in
set_option maxHeartbeats 4000000 in
theorem r23_items_any (sa : Option Addr) (l : List It) (c : Nat) (w : World) (hd : ∀ p ∈ l, Wf p) (hS : It_.Sl w sa l c) (hl : l.length ≤ 1000) :
    Calls Try.prog 40 #[.slice sa l.length c] w fun e w' => e = .returned (.int .i64 (chkI [] l)) ∧ Below w.heap.size w w' := by
  have hle := hS.le
  have hnil := hS.nil
  have HG : Hid (chkI [] l = chkI (l.take 0) (l.drop 0)) := rfl
  have HS := Lib.hid hS
  have HD := Lib.hid hd
  have HL := Lib.hid hl
  clear hS hd hl
  generalize hn : l.length = n at *
  have HN := Lib.hid hn
  clear hn
  go_enter Try.func40, Try.ntmps40
  go_wp2
  go_loopw [3] (fun z wr => ∃ i : Nat, z = .int .i64 i ∧ i ≤ n ∧ Hid (chkI [] l = chkI (l.take i) (l.drop i)) ∧ Hid (Below w.heap.size w wr)) (fun z _ => n - (intOf z).toNat)
  case atStart => exact ⟨0, rfl, Nat.zero_le _, HG, Below.refl _ _⟩
  case round =>
    clear HG
    rename World => wr
    obtain ⟨i, rfl, hi, HA, HB⟩ := hrel
    by_cases hlt : i < n
    · have hil : i < l.length := by have := HN.out; omega
      have hlt' : (i : Int) < (n : Int) := by omega
      have i0 : (0 : Int) ≤ (i : Int) := by omega
      obtain ⟨b, off, hsa, hbl, -⟩ := HS.out.lies i hil
      have ld := it_load (HS.out.lies.below HB.out) hil hsa
      have HC := Lib.hid (chkI_at hil)
      have HST := Lib.hid (fun W hW => sl_take23 (HS.out.below (W' := W) hW) i)
      have HID := Lib.hid (fun W (hW : Below w.heap.size w W) => show W.cell? ⟨b, off + i * 7, none⟩ = some (.int .i64 l[i].id) by
        obtain ⟨b', off', e', -, h0, -⟩ := HS.out.lies.below hW i hil
        rw [hsa] at e'; cases e'; exact h0)
      have htl : (l.take i).length = i := by rw [List.length_take]; omega
      have hd1 := fun W => head23 sa n c i (by omega) hnil W
      have CIT := Lib.hid (fun W => r23_item_any l[i] W (HD.out _ (List.getElem_mem hil)))
      have CN : Hid (∀ W, Below w.heap.size w W → Calls Try.prog 14 #[.slice sa i c, .int .i64 l[i].id] W fun e w' => e = .returned (.bool (hasId (l.take i) l[i].id)) ∧ W = w') := fun W hW => by
        have := r23_has_any sa (l.take i) c l[i].id W (HST.out W hW) (by have := HL.out; omega)
        rw [htl] at this; exact this
      subst hsa
      have hi1 : i ≤ 1000 := by have := HL.out; omega
      have HLT := Lib.hid hlt
      have HK1 := Lib.hid (fun (h : ¬ ierr l[i] = 0) => (HA.out.trans HC.out).trans ((if_neg (by rw [cnx_bad rfl h]; exact h)).trans (cnx_bad rfl h)))
      have HK2 := Lib.hid (fun (h : ierr l[i] = 0) (h2 : hasId (l.take i) l[i].id = true) => (HA.out.trans HC.out).trans ((if_neg (by rw [cnx_ok h, h2]; decide)).trans (show cnx (l.take i) l[i] = 8 by rw [cnx_ok h, h2]; rfl)))
      have HK3 := Lib.hid (fun (h : ierr l[i] = 0) (h2 : hasId (l.take i) l[i].id = false) => (HA.out.trans HC.out).trans (if_pos (show cnx (l.take i) l[i] = 0 by rw [cnx_ok h, h2]; rfl)))
      generalize hasId (l.take i) l[i].id = H at *
      generalize l[i] = x at *
      clear hbl hil hlt htl HC HA HD HS HST
      by_cases hK : ierr x = 0
      · rw [hK] at CIT
        have HK2 := Lib.hid (HK2.out hK)
        have HK3 := Lib.hid (HK3.out hK)
        clear HK1 hK
        go_wp2_with (go_at_call 38; refine (CIT.out _).mono ?_; rintro e w2 ⟨rfl, h⟩; have HB2 := Lib.hid (HB.out.trans (h.mono HB.out.size)); clear h)
        have q0 : ∀ (q : Of (fun W => Below w.heap.size w W)), q.w.cell? ⟨b, off + i * 7, none⟩ = some (.int .i64 x.id) := fun q => HID.out _ q.ok
        have _ne : Nonempty (Of (fun W => Below w.heap.size w W)) := ⟨⟨_, HB2.out⟩⟩
        refine wp_region_of (fun W => Below w.heap.size w W) (by kernel_rfl) (Region.lexB_of_fast (by kernel_rfl)) (HB2.out.trans ⟨rfl, rfl, rfl, Nat.le_refl _, fun _ _ => rfl⟩) ?_
        repeat (go_big_quiet_step (first
          | (go_at_call 14; with_reducible exact Calls.of_same (CN.out _ (Of.ok _)))))
        refine wpQuiet_nil ?_
        rintro _ ⟨q, rfl⟩
        have HB3 := Lib.hid q.ok
        generalize q.w = w3 at *
        clear q0 _ne CN HID
        cases H
        · have HA2 := Lib.hid (HK3.out rfl)
          go_wp2
          go_roundw
          case rel => exact ⟨i + 1, by go_num, HLT.out, HA2, HB3⟩
          case measure => have := HLT.out; simp [intOf]; omega
        · have HA2 := Lib.hid (HK2.out rfl)
          go_wp2
          go_returns
          exact ⟨by rw [HA2.out]; rfl, HB3.out⟩
      · have HA2 := Lib.hid (HK1.out hK)
        have hK' : (ierr x != 0) = true := by simpa using hK
        generalize ierr x = K at *
        go_wp2_with (go_at_call 38; refine (CIT.out _).mono ?_; rintro e w2 ⟨rfl, h⟩; have HB2 := Lib.hid (HB.out.trans (h.mono HB.out.size)); clear h)
        go_returns
        exact ⟨by rw [HA2.out]; rfl, HB2.out⟩
    · obtain rfl : i = n := by omega
      have HA2 := Lib.hid (HA.out.trans (chkI_end (by have := HN.out; omega)))
      go_wp2
      go_returns
      exact ⟨by rw [HA2.out]; rfl, HB.out⟩

set_option maxRecDepth 100000 in
theorem r23_check_any (sa : Option Addr) (l : List It) (c : Nat) (w : World) (hd : ∀ p ∈ l, Wf p) (hS : It_.Sl w sa l c) (hl : l.length ≤ 1000) :
    Calls Try.prog 17 #[.slice sa l.length c] w fun e w' => e = .returned (.int .i64 (chk l)) ∧ Below w.heap.size w w' := by
  have CI := Lib.hid (r23_items_any sa l c w hd hS hl)
  clear hd hS hl
  by_cases h64 : 64 < l.length
  · have h64' : (64 : Int) < (l.length : Int) := by omega
    rw [show chk l = 6 from if_pos h64]
    go_enter Try.func17, Try.ntmps17
    go_wp2
    go_returns
    exact ⟨rfl, Below.refl _ _⟩
  · have h64' : ¬ (64 : Int) < (l.length : Int) := by omega
    rw [show chk l = chkI [] l from if_neg h64]
    go_enter Try.func17, Try.ntmps17
    go_wp2_with (go_at_call 40; refine CI.out.mono ?_; rintro e w2 ⟨rfl, h⟩; have HB := Lib.hid h; clear h)
    go_returns
    exact ⟨rfl, HB.out⟩
end Go.Proofs.Ytaljdjabppiglaa
