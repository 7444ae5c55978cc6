/-
  THE LAW FragmentReassembles, walked.
-/
import Derived.Test.YtbcbfilpkjgclaaFgPieces
namespace Go.Proofs.Ytbcbfilpkjgclaa
open Go.RowKit Go.Fg
attribute [local go_sem ↓ high] Pw_.loadF Pw_.storeF Pw_.v_cells Pw_.v_match Xw_.loadF Xw_.storeF Xw_.v_cells Xw_.v_match
attribute [local go_sem] Pw_.C0 Pw_.C1 Pw_.C2 Pw_.C3 Xw_.C0 Xw_.C1 Xw_.C2 Xw_.C3 Xw_.C4 Pw_.loadF_new Xw_.loadF_new Pw_.storeF_zero Pw_.neq Pw_.eql Pw_.guard Pw_.guard_lit Pw_.eql_lit Pw_.neq_lit

/-- What lies at the loop's head: the state in its variable, the pieces. -/
structure Cst (W : World) (g : Nat) (v1 : Option Addr) (n1 : Nat) (L : List ByteArray) (y : Pt) (wr : World) : Prop where
  bel : Below W.heap.size W wr
  bp : Pw_.Box wr g y
  sl : Ss_.Sl wr v1 L n1
theorem Cst.keep {W wr w' : World} {g n1 : Nat} {v1 : Option Addr} {L : List ByteArray} {y : Pt} (h : Cst W g v1 n1 L y wr) (hb : Below wr.heap.size wr w') : Cst W g v1 n1 L y w' :=
  ⟨h.bel.trans (hb.mono h.bel.size), h.bp.below hb h.bp.lt, h.sl.below hb⟩
theorem Cst.put {W wr : World} {g n1 : Nat} {v1 : Option Addr} {L : List ByteArray} {y : Pt} (h : Cst W g v1 n1 L y wr) (hg : W.heap.size ≤ g) (hf : ∀ b off, v1 = some ⟨b, off, none⟩ → b ≠ g) (z : Pt) : Cst W g v1 n1 L z (wr.setRow g (Pw_.C z)) :=
  ⟨below_setRow18 h.bel hg _, h.bp.setRow z, h.sl.lies.block (by simp [World.setRow]) (fun b off e => Pw_.setRow_other (hf b off e) _), h.sl.le, h.sl.nil⟩

theorem st_size {p : Pt} {s : ByteArray} {t q : Int} {i : Nat} (hp : p.s.size ≤ 5000) (hs : s.size ≤ 2048) : (st p s t q i).s.size ≤ 5000 := by
  unfold st
  split
  · exact hp
  · split
    · exact Nat.le_trans (pre_le _ _ _) (Nat.le_trans hs (by decide))
    · exact Nat.zero_le _
/-- Adding the piece i, and once more. -/
theorem re_add (p : Pt) (s : ByteArray) (t q : Int) (hp : p.s.size ≤ 5000) (hs : s.size ≤ 2048) (hq : 0 ≤ q ∧ q < 4096) (i : Nat) (hi : i < cn s.size t) (w : World) :
    Calls Try.prog 13 #[Pw_.v (st p s t q i), Xw_.v (px s t q i)] w fun e w' => e = .returned (.tuple #[Pw_.v (st p s t q (i + 1)), .int .i64 (lastC s t i), .string (lastD s t i)]) ∧ Below w.heap.size w w' := by
  have c := fgAdd_any (st p s t q i) (px s t q i) w (st_size hp hs) (Nat.le_trans (pc_le_n _ _ _) (Nat.le_trans hs (by decide)))
  obtain ⟨a1, a2, a3⟩ := add_px (t := t) p hs hq hi
  unfold AdPost at c
  rwa [a1, a2, a3] at c
theorem re_again (p : Pt) (s : ByteArray) (t q : Int) (hp : p.s.size ≤ 5000) (hs : s.size ≤ 2048) (hq : 0 ≤ q ∧ q < 4096) (i : Nat) (hi : i < cn s.size t) (w : World) :
    Calls Try.prog 13 #[Pw_.v (st p s t q (i + 1)), Xw_.v (px s t q i)] w fun e w' => e = .returned (.tuple #[Pw_.v (st p s t q (i + 1)), .int .i64 (if i = 0 then lastC s t i else 2), .string (if i = 0 then lastD s t i else ⟨#[]⟩)]) ∧ Below w.heap.size w w' := by
  have c := fgAdd_any (st p s t q (i + 1)) (px s t q i) w (st_size hp hs) (Nat.le_trans (pc_le_n _ _ _) (Nat.le_trans hs (by decide)))
  obtain ⟨a1, a2, a3⟩ := add_again (t := t) p hs hq hi
  unfold AdPost at c
  rwa [a1, a2, a3] at c
theorem rem_small (a : Int) : -4096 < a.tmod 4096 ∧ a.tmod 4096 < 4096 := by
  rw [Int.tmod_eq_emod]
  split <;> omega
theorem lst_more {s : ByteArray} {t : Int} {i : Nat} (h : i + 1 < cn s.size t) : lastC s t i = 0 ∧ lastD s t i = ⟨#[]⟩ := ⟨if_pos h, if_pos h⟩
theorem lst_end {s : ByteArray} {t : Int} {i : Nat} (h : ¬ i + 1 < cn s.size t) : lastC s t i = 1 ∧ lastD s t i = s := ⟨if_neg h, if_neg h⟩

set_option maxRecDepth 100000 in
set_option maxHeartbeats 16000000 in
/-- The loop and what is behind it, the number being in range. -/
theorem reas_walk (p : Pt) (s : ByteArray) (a0 a1 q : Int) (W : World) (hs : s.size ≤ 2048) (hp : p.s.size ≤ 5000) (hq : 0 ≤ q ∧ q < 4096)
    (h0 : (a0.tmod 4096 < 0 ∧ wrap64 (-(a0.tmod 4096)) = q) ∨ (¬ a0.tmod 4096 < 0 ∧ a0.tmod 4096 = q)) :
    Calls Try.prog 6 #[Pw_.v p, .string s, .agg #[.int .i64 a0, .int .i64 a1]] W fun e w' => e = .returned (.bool true) ∧ Below W.heap.size W w' := by
  have AW := Lib.hid awake18_any
  obtain ⟨w1, hw1⟩ : ∃ w1, W.alloc (.cells (Pw_.C p) 29) = w1 := ⟨_, rfl⟩
  obtain ⟨w2, hw2⟩ : ∃ w2, w1.alloc (.cells #[.int .i64 a0, .int .i64 a1] 36) = w2 := ⟨_, rfl⟩
  have hz1 : w1.heap.size = W.heap.size + 1 := by rw [← hw1]; simp
  have b1 : Below W.heap.size W w1 := hw1 ▸ (Below.refl _ _).alloc (Nat.le_refl _) _
  have B2 : Hid (Below W.heap.size W w2) := hw2 ▸ b1.alloc b1.size _
  have P2 : Hid (Pw_.Box w2 W.heap.size p) := hw2 ▸ (show Pw_.Box w1 W.heap.size p from hw1 ▸ Pw_.Box.new W p).allocC _
  have ep := P2.out.all
  have ea : w2.cell? ⟨W.heap.size + 1, 0, none⟩ = some (.int .i64 a0) := by rw [← hw2, ← hz1]; simp
  have eb : w2.cell? ⟨W.heap.size + 1, 1, none⟩ = some (.int .i64 a1) := by rw [← hw2, ← hz1]; simp
  have g1 : ¬ (2048 : Int) < (s.size : Int) := by omega
  have g2 : ¬ (5000 : Int) < (p.s.size : Int) := by omega
  have C1 : Hid (Calls Try.prog 9 #[.string s, .int .i64 a1] w2 fun e w' => ∃ v0 c, e = .returned (.slice v0 (cn s.size a1) c) ∧ Ss_.Sl w' v0 (pcs s a1) c ∧ Below w2.heap.size w2 w' ∧ ∀ b off, v0 = some ⟨b, off, none⟩ → w2.heap.size ≤ b) := by
    have c := fgSplit_own s a1 w2 (Nat.le_trans hs (by decide))
    unfold SpOwn at c
    rw [pcs_len] at c
    exact c
  have CA := Lib.hid fun i h w => re_add p s a1 q hp hs hq i h w
  have CB := Lib.hid fun i h w => re_again p s a1 q hp hs hq i h w
  have HT0 : Hid (st p s a1 q 0 = p) := st_zero _ _ _ _
  have HTM := Lib.hid fun i h => @st_mid s a1 q i p h
  have HTE := Lib.hid fun i h => @st_end s a1 q i p h
  have HLM := Lib.hid fun i h => @lst_more s a1 i h
  have HLE := Lib.hid fun i h => @lst_end s a1 i h
  have HX : Hid (∀ i, px s a1 q i = ⟨q, i, decide (i + 1 < cn s.size a1), false, pc s (kz s.size a1) i⟩) := fun i => rfl
  have HG : Hid (∀ (wr : World) v1 n1 i, i < cn s.size a1 → Ss_.Sl wr v1 (pcs s a1) n1 → ∃ b off, v1 = some ⟨b, off, none⟩ ∧ wr.cell? ⟨b, off + i, none⟩ = some (.string (pc s (kz s.size a1) i))) := fun wr v1 n1 i hi h => by
    have hi' : i < (pcs s a1).length := by rw [pcs_len]; exact hi
    obtain ⟨b, off, e, -, c⟩ := h.lies i hi'
    exact ⟨b, off, e, by rw [← pcs_get hi']; exact c⟩
  have hn1 := cn_pos s.size a1
  have hn16 := cn_le s.size a1
  generalize pc s (kz s.size a1) = pcf at *
  generalize pcs s a1 = L at *
  generalize st p s a1 q = T at *
  generalize px s a1 q = X at *
  generalize lastC s a1 = lc at *
  generalize lastD s a1 = ld at *
  generalize cn s.size a1 = m at *
  have HN1 := Lib.hid hn1
  have HN16 := Lib.hid hn16
  have HSZ : Hid (W.heap.size + 2 = w2.heap.size) := by
    show W.heap.size + 2 = w2.heap.size
    rw [← hw2]; simp [hz1]
  have g3 : ¬ (16 : Int) < (m : Int) := by omega
  have g4 : decide ((0 : Int) < (m : Int)) = true := decide_eq_true (by omega)
  have g4' : decide (0 < m) = true := decide_eq_true (by omega)
  have g5 : (0 : Int) < (m : Int) := by omega
  have hss : (s.toList == s.toList) = true := by simp
  clear hs hp hq hn1 hn16 b1
  generalize hr : a0.tmod 4096 = r at h0
  rcases h0 with ⟨hneg, hqr⟩ | ⟨hneg, hqr⟩
  all_goals
    go_enter Try.func6, Try.ntmps6
    go_wp2_with (go_at_call 9; refine C1.out.mono ?_; rintro e w3 ⟨v1, n1, rfl, hs, h, hf⟩; have S3 := Lib.hid hs; have B3 := Lib.hid h; have HF := Lib.hid hf; clear h hs hf)
    have C3 : Hid (Cst W W.heap.size v1 n1 L (T 0) w3) := ⟨B2.out.trans (B3.out.mono B2.out.size), by rw [HT0.out]; exact P2.out.below B3.out P2.out.lt, S3.out⟩
    have HFR : Hid (∀ b off, v1 = some ⟨b, off, none⟩ → b ≠ W.heap.size) := fun b off e => by
      have h1 := HF.out b off e
      have h2 := HSZ.out
      omega
    clear hr hneg ep ea eb HF HSZ S3 B3 P2 B2 C1 hw1 hw2 hz1 g1 g2
    go_loopw [9] (fun i wr => ∃ k : Nat, k ≤ m ∧ i = .int .i64 k ∧ Cst W W.heap.size v1 n1 L (T k) wr) (fun i _ => m - (intOf i).toNat)
    case atStart => exact ⟨0, Nat.zero_le _, rfl, C3.out⟩
    case round =>
      rename World => wr
      obtain ⟨k, hk, rfl, hc⟩ := hrel
      have HC := Lib.hid hc
      clear hc C3
      by_cases hlt : k < m
      · obtain ⟨b, off, rfl, c0⟩ := HG.out wr _ _ k hlt HC.out.sl
        have HLT := Lib.hid hlt
        have i0 : (0 : Int) ≤ (k : Int) := by omega
        have i1 : (k : Int) < (m : Int) := by omega
        have hk16 := HN16.out
        have hw' : wrap64 ((k : Int) + 1) = k + 1 := IntWalk.wrap64_in _ (by omega)
        have CAk := Lib.hid (CA.out k hlt)
        have CBk := Lib.hid (CB.out k hlt)
        have HXk := Lib.hid (HX.out k)
        have HTMk := Lib.hid (HTM.out k)
        have HTEk := Lib.hid (HTE.out k)
        have HLMk := Lib.hid (HLM.out k)
        have HLEk := Lib.hid (HLE.out k)
        obtain ⟨wa, hwa⟩ : ∃ wa, wr.alloc (.cells (Xw_.C (X k)) 31) = wa := ⟨_, rfl⟩
        have hba : Below wr.heap.size wr wa := hwa ▸ (Below.refl _ _).alloc (Nat.le_refl _) _
        have XA := Lib.hid (show Xw_.Box wa wr.heap.size (X k) from hwa ▸ Xw_.Box.new wr (X k))
        have HST : Hid ((Xw_.StoreF ⟨wr.heap.size, 0, none⟩ (Xw_.v (X k))).run Try.prog (wr.alloc (.cells #[.int .i64 0, .int .i64 0, .bool false, .bool false, .string ⟨#[]⟩] 31)) = .ok () wa) := hwa ▸ Xw_.storeF_zero wr (X k)
        have CC := Lib.hid (HC.out.keep hba)
        have lp := CC.out.bp.loadF
        have lx := XA.out.loadF
        clear hba hwa hk
        by_cases hm : k + 1 < m <;> by_cases hk0 : k = 0
        all_goals
          first
            | (have d2 : decide ((k : Int) + 1 < (m : Int)) = true := decide_eq_true (by omega)
               have dl : ((k : Int) + 1 == (m : Int)) = false := by rw [beq_eq_false_iff_ne]; omega
               obtain ⟨l1, l2⟩ := HLMk.out hm
               have y0 : (Pw_.C (T (k + 1)))[0]? = some (.bool true) := by rw [Pw_.C0, HTMk.out hm]
               obtain ⟨y, hT⟩ : ∃ y, T (k + 1) = y := ⟨_, rfl⟩
               have hst : (Xw_.StoreF ⟨wr.heap.size, 0, none⟩ (.agg #[.int .i64 q, .int .i64 (k : Int), .bool true, .bool false, .string (pcf k)])).run Try.prog (wr.alloc (.cells #[.int .i64 0, .int .i64 0, .bool false, .bool false, .string ⟨#[]⟩] 31)) = .ok () wa := by
                 have := HST.out
                 rw [HXk.out, decide_eq_true hm] at this
                 exact this
               rw [l1, l2, hT] at CAk CBk
               rw [hT] at y0)
            | (have d2 : decide ((k : Int) + 1 < (m : Int)) = false := decide_eq_false (by omega)
               have dl : ((k : Int) + 1 == (m : Int)) = true := by rw [beq_iff_eq]; omega
               obtain ⟨l1, l2⟩ := HLEk.out hm
               have hT := HTEk.out hm
               have hst : (Xw_.StoreF ⟨wr.heap.size, 0, none⟩ (.agg #[.int .i64 q, .int .i64 (k : Int), .bool false, .bool false, .string (pcf k)])).run Try.prog (wr.alloc (.cells #[.int .i64 0, .int .i64 0, .bool false, .bool false, .string ⟨#[]⟩] 31)) = .ok () wa := by
                 have := HST.out
                 rw [HXk.out, decide_eq_false hm] at this
                 exact this
               rw [l1, l2, hT] at CAk CBk)
          first
            | (rw [if_pos hk0, if_pos hk0] at CBk
               have k1 : decide ((0 : Int) < (k : Int)) = false := decide_eq_false (by omega)
               have k2 : decide (0 < k) = false := decide_eq_false (by omega)
               have k3 : ((k : Int) == 0) = true := by rw [beq_iff_eq]; omega
               have k4 : (k == 0) = true := by rw [beq_iff_eq]; exact hk0)
            | (rw [if_neg hk0, if_neg hk0] at CBk
               have k1 : decide ((0 : Int) < (k : Int)) = true := decide_eq_true (by omega)
               have k2 : decide (0 < k) = true := decide_eq_true (by omega)
               have k3 : ((k : Int) == 0) = false := by rw [beq_eq_false_iff_ne]; omega
               have k4 : (k == 0) = false := by rw [beq_eq_false_iff_ne]; exact hk0)
          clear hm hk0 hk16 HST l1 l2
          first
            | (rw [Pw_.C0] at y0
               rw [← Pw_.C0] at y0
               have HT := Lib.hid hT
               clear hT
               go_wp2_with fail
               refine (CAk.out wa).mono ?_
               rintro e wb ⟨rfl, h⟩
               have CC1 := Lib.hid (CC.out.keep h)
               have XB := Lib.hid (XA.out.below h XA.out.lt)
               clear h lp lx hst CC XA CAk
               obtain ⟨wc, hwc⟩ : ∃ wc, wb.alloc (.cells (Pw_.C y) 29) = wc := ⟨_, rfl⟩
               have bc : Below wb.heap.size wb wc := hwc ▸ (Below.refl _ _).alloc (Nat.le_refl _) _
               have QC := Lib.hid (show Pw_.Box wc wb.heap.size y from hwc ▸ Pw_.Box.new wb y)
               have CC2 := Lib.hid (CC1.out.keep bc)
               have XC := Lib.hid (XB.out.below bc XB.out.lt)
               have lq := QC.out.loadF
               have lx2 := XC.out.loadF
               clear bc CC1 XB
               go_wp2_with fail
               refine (CBk.out wc).mono ?_
               rintro e wd ⟨rfl, h⟩
               have CC3 := Lib.hid (CC2.out.keep h)
               have QD := Lib.hid (QC.out.below h QC.out.lt)
               clear h lq lx2 CC2 QC XC hwc CBk
               obtain ⟨we, hwe⟩ : ∃ we, wd.alloc (.cells (Pw_.C y) 29) = we := ⟨_, rfl⟩
               have be : Below wd.heap.size wd we := hwe ▸ (Below.refl _ _).alloc (Nat.le_refl _) _
               have CC4 := Lib.hid (CC3.out.keep be)
               have QE := Lib.hid (QD.out.below be QD.out.lt)
               have lq5 := QE.out.loadF
               have eq5 := QE.out.all
               have lr5 := (show Pw_.Box we wd.heap.size y from hwe ▸ Pw_.Box.new wd y).loadF
               have st5 := CC4.out.bp.storeF y
               clear be CC3 QD QE
               go_wp2
               go_roundw
               case rel => exact ⟨k + 1, HLT.out, by go_num, by rw [HT.out]; exact CC4.out.put (Nat.le_refl _) HFR.out _⟩
               case measure => have := HLT.out; simp [intOf]; omega)
            | (clear d2
               have d2 : decide ((k : Int) + 1 < (m : Int)) = false := by rw [decide_eq_false_iff_not]; rw [beq_iff_eq] at dl; omega
               have HT := Lib.hid hT
               clear hT
               go_wp2_with fail
               refine (CAk.out wa).mono ?_
               rintro e wb ⟨rfl, h⟩
               have CC1 := Lib.hid (CC.out.keep h)
               have XB := Lib.hid (XA.out.below h XA.out.lt)
               clear h lp lx hst CC XA CAk
               obtain ⟨wc, hwc⟩ : ∃ wc, wb.alloc (.cells (Pw_.C zp) 29) = wc := ⟨_, rfl⟩
               have bc : Below wb.heap.size wb wc := hwc ▸ (Below.refl _ _).alloc (Nat.le_refl _) _
               have QC := Lib.hid (show Pw_.Box wc wb.heap.size zp from hwc ▸ Pw_.Box.new wb zp)
               have CC2 := Lib.hid (CC1.out.keep bc)
               have XC := Lib.hid (XB.out.below bc XB.out.lt)
               have lq := QC.out.loadF
               have lx2 := XC.out.loadF
               clear bc CC1 XB
               go_wp2_with fail
               refine (CBk.out wc).mono ?_
               rintro e wd ⟨rfl, h⟩
               have CC3 := Lib.hid (CC2.out.keep h)
               have QD := Lib.hid (QC.out.below h QC.out.lt)
               clear h lq lx2 CC2 QC XC hwc CBk
               obtain ⟨we, hwe⟩ : ∃ we, wd.alloc (.cells (Pw_.C zp) 29) = we := ⟨_, rfl⟩
               have be : Below wd.heap.size wd we := hwe ▸ (Below.refl _ _).alloc (Nat.le_refl _) _
               have CC4 := Lib.hid (CC3.out.keep be)
               have QE := Lib.hid (QD.out.below be QD.out.lt)
               have lq5 := QE.out.loadF
               have eq5 := QE.out.all
               have lr5 := (show Pw_.Box we wd.heap.size zp from hwe ▸ Pw_.Box.new wd zp).loadF
               have st5 := CC4.out.bp.storeF zp
               clear be CC3 QD QE
               go_wp2
               go_roundw
               case rel => exact ⟨k + 1, HLT.out, by go_num, by rw [HT.out]; exact CC4.out.put (Nat.le_refl _) HFR.out _⟩
               case measure => have := HLT.out; simp [intOf]; omega)
      · obtain rfl : k = m := by omega
        have HB := Lib.hid HC.out.bel
        clear hk hlt
        go_wp2_with (go_at_call 7; refine (AW.out _).mono ?_; rintro e w7 ⟨rfl, h⟩; have B7 := Lib.hid (HB.out.trans (h.mono HB.out.size)); clear h)
        go_returns
        exact ⟨rfl, B7.out⟩
end Go.Proofs.Ytbcbfilpkjgclaa
