/-
  BODIES READ BACK, the whole: Decode of what Encode returns, Encode of what Decode returns, kinds of frames (layer 15).
-/
import Derived.Test.YtcpfkikifhcdmaaMgRt
namespace Go.Proofs.Ytcpfkikifhcdmaa
open Go.RowKit Go.Mg Go.Wr Go.Ad

theorem fv_od (b : Bd) (a : Int) (j : Nat) : fv { b with od := a } j = fv b j := rfl
theorem fv_bK (c : Int) (j : Nat) (hj : j < 14) : fv (bK c) j = 0 := by
  rcases (show j = 0 ∨ j = 1 ∨ j = 2 ∨ j = 3 ∨ j = 4 ∨ j = 5 ∨ j = 6 ∨ j = 7 ∨ j = 8 ∨ j = 9 ∨ j = 10 ∨ j = 11 ∨ j = 12 ∨ j = 13 by omega) with rfl | rfl | rfl | rfl | rfl | rfl | rfl | rfl | rfl | rfl | rfl | rfl | rfl | rfl <;> rfl
/-- Behind the name. -/
def g1 (u : Int) (q : Bd × Sg) : Bd × Sg := if hs u 8 = true then rNm q else q
def g2 (u : Int) (q : Bd × Sg) : Bd × Sg := rQ (bits .andNot .i64 u 4096) 14 (g1 u q)
def g3 (u : Int) (q : Bd × Sg) : Bd × Sg := if hs u 64 = true then rOd (g2 u q) else g2 u q
theorem rFd_g (u : Int) (q : Bd × Sg) : rFd u q = rQ (bits .and .i64 u 4096) 14 (g3 u q) := rfl
theorem rFd_bad (u : Int) (b : Bd) (σ : Sg) (h : ¬ σ.1 = 0) : (rFd u (b, σ)).2 = σ := by
  have e1 : (g1 u (b, σ)).2 = σ := by
    unfold g1; split
    · unfold rNm; simp only; rw [rN_bad15 h]; simp only; rw [rT_bad h]
    · rfl
  have e2 : (g2 u (b, σ)).2 = σ := by
    unfold g2
    rw [show g1 u (b, σ) = ((g1 u (b, σ)).1, σ) from Prod.ext rfl e1]
    exact rQ_bad _ _ _ _ h
  have e3 : (g3 u (b, σ)).2 = σ := by
    unfold g3; split
    · unfold rOd; simp only; rw [e2, rA_bad h]
    · exact e2
  rw [rFd_g, show g3 u (b, σ) = ((g3 u (b, σ)).1, σ) from Prod.ext rfl e3]
  exact rQ_bad _ _ _ _ h
theorem rFd_kd (u : Int) (q : Bd × Sg) : (rFd u q).1.kd = q.1.kd := by
  have e1 : (g1 u q).1.kd = q.1.kd := by unfold g1; split <;> rfl
  have e3 : (g3 u q).1.kd = (g2 u q).1.kd := by unfold g3; split <;> rfl
  rw [rFd_g, rQ_kd, e3, g2, rQ_kd, e1]
theorem rFd_inv {c : Int} (hk : isK c) (q : Bd × Sg) (h : (rFd (us c) q).2.1 = 0) : q.2.1 = 0 ∧ q.2.2 = wF (us c) (rFd (us c) q).1 ++ (rFd (us c) q).2.2 := by
  have hp := parts hk
  generalize us c = u at *
  obtain ⟨h3, e3⟩ := rQ_inv (bits .and .i64 u 4096) 14 (Nat.le_refl _) (g3 u q) h
  -- the address
  have k2 : (g2 u q).2.1 = 0 ∧ (g2 u q).2.2 = (if hs u 64 = true then be (rFd u q).1.od.toNat else []) ++ (g3 u q).2.2 := by
    have ho : (rFd u q).1.od = (g3 u q).1.od := by rw [rFd_g, rQ_od]
    rw [ho]
    unfold g3 at h3 ⊢
    split
    · rename_i hc
      rw [if_pos hc] at h3
      exact rA_inv h3
    · rename_i hc
      rw [if_neg hc] at h3
      exact ⟨h3, rfl⟩
  obtain ⟨h2, e2⟩ := k2
  obtain ⟨h1, e1⟩ := rQ_inv (bits .andNot .i64 u 4096) 14 (Nat.le_refl _) (g1 u q) h2
  have eA : wN (bits .andNot .i64 u 4096) (rFd u q).1 14 = wN (bits .andNot .i64 u 4096) (rQ (bits .andNot .i64 u 4096) 14 (g1 u q)).1 14 := by
    refine wN_congr _ _ _ _ fun j hj hs => ?_
    rw [rFd_g, rQ_fv _ 14 (Nat.le_refl _) _ j hj (.inr ((hp j hj).1 hs))]
    unfold g3
    split
    · exact fv_od _ _ _
    · rfl
  -- the name
  have k0 : q.2.1 = 0 ∧ q.2.2 = (if hs u 8 = true then ow (rFd u q).1.nm.size 1 ++ (rFd u q).1.nm.data.toList else []) ++ (g1 u q).2.2 := by
    have hn : (rFd u q).1.nm = (g1 u q).1.nm := by
      have e : (g3 u q).1.nm = (g2 u q).1.nm := by unfold g3; split <;> rfl
      rw [rFd_g, rQ_nm, e, g2, rQ_nm]
    rw [hn]
    unfold g1 at h1 ⊢
    split
    · rename_i hc
      rw [if_pos hc] at h1
      obtain ⟨t1, t2, t3⟩ := rT_inv h1
      obtain ⟨n1, n2⟩ := rN_inv t1
      refine ⟨n1, n2.trans ?_⟩
      have hz : ((rNm q).1.nm.size : Int) = (rN 1 q.2).1 := by
        show ((rT (rN 1 q.2).1.toNat (rN 1 q.2).2).1.size : Int) = _
        rw [t3, Int.toNat_of_nonneg (rN_nonneg 1 q.2)]
      rw [hz, List.append_assoc]
      exact congrArg _ t2
    · rename_i hc
      rw [if_neg hc] at h1
      exact ⟨h1, rfl⟩
  obtain ⟨h0, e0⟩ := k0
  refine ⟨h0, ?_⟩
  unfold wF
  rw [e0, e1, eA]
  show _ ++ (_ ++ (g2 u q).2.2) = _
  rw [e2, e3]
  simp only [List.append_assoc]
  rfl
theorem rFd_fwd2 {b : Bd} (hk : isK b.kd) (hu : usB b = b) (hf : ∀ j, j < 14 → 0 ≤ fv b j ∧ fv b j < (pow (fz j) : Nat)) (hfn : b.nm.size ≤ 255) (hfo : 0 ≤ b.od ∧ b.od < 281474976710656) (m : List UInt8) : rFd (us b.kd) (bK b.kd, (0, wF (us b.kd) b ++ m)) = (b, (0, m)) := by
  obtain ⟨un, u8, u64⟩ := unused hk hu
  have hp := parts hk
  generalize us b.kd = u at *
  generalize hA : (if hs u 64 = true then be b.od.toNat else []) = A
  have e1 : g1 u (bK b.kd, (0, wF u b ++ m)) = ({ bK b.kd with nm := b.nm }, (0, wN (bits .andNot .i64 u 4096) b 14 ++ (A ++ (wN (bits .and .i64 u 4096) b 14 ++ m)))) := by
    unfold wF g1
    rw [hA]
    cases h8 : hs u 8
    · have := u8 h8
      rw [if_neg Bool.false_ne_true, if_neg Bool.false_ne_true, List.nil_append]
      simp only [List.append_assoc]
      congr 1
      rw [this]; rfl
    · rw [if_pos rfl, if_pos rfl]
      unfold rNm
      simp only [List.append_assoc]
      have p1 : (pow 1 : Nat) = 256 := by decide
      rw [rN_ow (k := 1) (v := (b.nm.size : Int)) (by omega) (by rw [p1]; omega)]
      simp only
      rw [rT_fwd (by rw [Int.toNat_natCast])]
  have e2 : (g2 u (bK b.kd, (0, wF u b ++ m))).2 = (0, A ++ (wN (bits .and .i64 u 4096) b 14 ++ m)) ∧ ∀ j, j < 14 → fv (g2 u (bK b.kd, (0, wF u b ++ m))).1 j = if (bits .and .i64 (bits .andNot .i64 u 4096) (fk j) != 0) = true then fv b j else 0 := by
    unfold g2
    rw [e1]
    obtain ⟨r1, r2⟩ := rQ_fwd (bits .andNot .i64 u 4096) b hf 14 (Nat.le_refl _) { bK b.kd with nm := b.nm } (A ++ (wN (bits .and .i64 u 4096) b 14 ++ m))
    refine ⟨r1, fun j hj => (r2 j hj).trans ?_⟩
    by_cases hc : (bits .and .i64 (bits .andNot .i64 u 4096) (fk j) != 0) = true
    · rw [if_pos ⟨hj, hc⟩, if_pos hc]
    · rw [if_neg (fun h => hc h.2), if_neg hc]
      exact fv_bK b.kd j hj
  have e2k : (g2 u (bK b.kd, (0, wF u b ++ m))).1.kd = b.kd ∧ (g2 u (bK b.kd, (0, wF u b ++ m))).1.nm = b.nm ∧ (g2 u (bK b.kd, (0, wF u b ++ m))).1.od = 0 := by
    unfold g2
    rw [rQ_kd, rQ_nm, rQ_od, e1]
    exact ⟨rfl, rfl, rfl⟩
  generalize hq : g2 u (bK b.kd, (0, wF u b ++ m)) = q2 at *
  obtain ⟨y2, σ2⟩ := q2
  obtain ⟨r1, r2⟩ := e2
  obtain ⟨k1, k2, k3⟩ := e2k
  simp only at r1 r2 k1 k2 k3
  subst r1
  have e3 : (g3 u (bK b.kd, (0, wF u b ++ m))) = ({ y2 with od := b.od }, (0, wN (bits .and .i64 u 4096) b 14 ++ m)) := by
    unfold g3
    rw [hq]
    cases h6 : hs u 64
    · rw [h6, if_neg Bool.false_ne_true] at hA
      rw [if_neg Bool.false_ne_true, ← hA, List.nil_append, u64 h6]
      congr 1
      rw [← k3]
    · rw [h6, if_pos rfl] at hA
      rw [if_pos rfl, ← hA]
      unfold rOd
      simp only
      rw [rA_fwd hfo.1 hfo.2]
  rw [rFd_g, e3]
  obtain ⟨s1, s2⟩ := rQ_fwd (bits .and .i64 u 4096) b hf 14 (Nat.le_refl _) { y2 with od := b.od } m
  refine Prod.ext ?_ s1
  refine bd_ext ?_ ?_ ?_ fun j hj => ?_
  · rw [rQ_kd]; exact k1
  · rw [rQ_nm]; exact k2
  · rw [rQ_od]
  · rw [s2 j hj]
    by_cases hc : (bits .and .i64 (bits .and .i64 u 4096) (fk j) != 0) = true
    · rw [if_pos ⟨hj, hc⟩]
    · rw [if_neg (fun h => hc h.2)]
      refine (show fv y2 j = fv b j from ?_)
      rw [r2 j hj]
      by_cases hc2 : (bits .and .i64 (bits .andNot .i64 u 4096) (fk j) != 0) = true
      · rw [if_pos hc2]
      · rw [if_neg hc2]
        refine (un j hj ?_).symm
        rw [(hp j hj).2]
        rw [Bool.not_eq_true] at hc hc2
        rw [hc, hc2]; rfl

theorem rFd_fwd {b : Bd} (hw : BdW b) (h : chk b = 0) (m : List UInt8) : rFd (us b.kd) (bK b.kd, (0, wF (us b.kd) b ++ m)) = (b, (0, m)) := by
  have hf := fit hw h
  obtain ⟨hk, hu, -, -⟩ := chk_ok.1 h
  exact rFd_fwd2 hk hu (fun j hj => fv_fit hf j hj) (by have := hf.nm; omega) hf.od m

/-! Decode and Encode. -/
theorem enM_zero {σ : Sg} : enM σ = 0 ↔ σ = (0, []) := by
  obtain ⟨e, l⟩ := σ
  unfold enM
  simp only
  by_cases h : e = 0
  · rw [if_pos h]
    by_cases hl : 0 < l.length
    · rw [if_pos hl]
      constructor
      · intro h2; exact absurd h2 (by decide)
      · intro h2; rw [Prod.mk.injEq] at h2; rw [h2.2] at hl; exact absurd hl (by decide)
    · rw [if_neg hl]
      have : l = [] := List.length_eq_zero_iff.1 (by omega)
      exact ⟨fun _ => by rw [h, this], fun _ => rfl⟩
  · rw [if_neg h]
    exact ⟨fun h2 => absurd h2 h, fun h2 => absurd (by rw [Prod.mk.injEq] at h2; exact h2.1) h⟩
theorem rF_bad (x : Int) (hx : x ≠ 0) (σ : Sg) : ¬ (rF x σ).1 = 0 := by
  unfold rF
  split
  · exact hx
  · assumption
/-- What is accepted. -/
theorem dec_zero {k : Int} {s : ByteArray} (h : dcE k s = 0) : chk (dcB k s) = 0 ∧ BdW (dcB k s) ∧ enc (dcB k s) = s ∧ fst k ≠ 0 ∧ frk (dcB k s).kd = fst k := by
  have hB : dcB k s = (rdq (fst k) (rK s)).1 := if_pos h
  rw [hB]
  unfold dcE at h
  by_cases hf : fst k = 0
  · rw [if_pos hf] at h; exact absurd h (by decide)
  rw [if_neg hf] at h
  by_cases he : enM (rdq (fst k) (rK s)).2 = 0
  case neg => rw [if_neg he] at h; exact absurd h he
  rw [if_pos he] at h
  have hw := rdq_w (fst k) (rK s)
  have he' := enM_zero.1 he
  have hkd : (rdq (fst k) (rK s)).1.kd = (rK s).1 := rFd_kd _ _
  have hk : isK (rK s).1 := by rw [← hkd]; exact (chk_ok.1 h).1
  obtain ⟨h1, h2⟩ := rFd_inv hk (bK (rK s).1, if frk (rK s).1 = fst k then (rK s).2 else rF 3 (rK s).2) (by
    have := congrArg Prod.fst he'
    exact this)
  have hfr : frk (rK s).1 = fst k := by
    by_cases hc : frk (rK s).1 = fst k
    · exact hc
    · simp only at h1
      rw [if_neg hc] at h1
      exact absurd h1 (rF_bad 3 (by decide) _)
  simp only at h1 h2
  rw [if_pos hfr] at h1 h2
  obtain ⟨n1, n2⟩ := rN_inv (k := 1) (σ := (0, s.data.toList)) h1
  refine ⟨h, hw, ?_, hf, by rw [hkd]; exact hfr⟩
  have ho : octs (rdq (fst k) (rK s)).1 = s.data.toList := by
    unfold octs
    have hkd' : isK (rdq (fst k) (rK s)).1.kd := by rw [hkd]; exact hk
    rw [← wF_rst hkd', hkd]
    refine Eq.trans ?_ n2.symm
    show _ = ow (rK s).1 1 ++ (rK s).2.2
    rw [h2]
    have e0 : (rFd (us (rK s).1) (bK (rK s).1, (rK s).2)).2.2 = [] := by
      have := congrArg Prod.snd he'
      unfold rdq at this
      rw [if_pos hfr] at this
      exact this
    rw [e0, List.append_nil]
    unfold rdq
    rw [if_pos hfr]
  unfold enc
  rw [if_pos h, ho, oz_of]
/-- Reading the octets of a valid body. -/
theorem rK_enc {b : Bd} (hw : BdW b) (h : chk b = 0) : rK (enc b) = (b.kd, (0, wF (us b.kd) b)) := by
  have hf := (fit hw h).kd
  have hk := (chk_ok.1 h).1
  unfold rK enc
  rw [if_pos h, oz_list]
  unfold octs
  rw [← wF_rst hk]
  have p1 : (pow 1 : Nat) = 256 := by decide
  exact rN_ow (by omega) (by rw [p1]; omega)
theorem dec_enc {b : Bd} (hw : BdW b) (h : chk b = 0) (k : Int) (hc : car k b.kd = true) : dcE k (enc b) = 0 ∧ dcB k (enc b) = b := by
  obtain ⟨h1, h2⟩ := (car_iff k b.kd).1 hc
  have e := rFd_fwd hw h []
  rw [List.append_nil] at e
  have hq : rdq (fst k) (rK (enc b)) = (b, (0, [])) := by
    rw [rK_enc hw h]
    unfold rdq
    rw [if_pos h2]
    exact e
  have hE : dcE k (enc b) = 0 := by
    unfold dcE
    rw [if_neg h1, hq]
    simp only
    rw [if_pos (enM_zero.2 rfl)]
    exact h
  refine ⟨hE, ?_⟩
  unfold dcB
  rw [if_pos hE, hq]
theorem dec_other {b : Bd} (hw : BdW b) (h : chk b = 0) (k : Int) (hc : car k b.kd = false) : dcE k (enc b) = 3 ∧ dcB k (enc b) = zb := by
  have hn : ¬ (fst k ≠ 0 ∧ frk b.kd = fst k) := fun h2 => by rw [(car_iff k b.kd).2 h2] at hc; cases hc
  have hE : dcE k (enc b) = 3 := by
    unfold dcE
    by_cases h1 : fst k = 0
    · rw [if_pos h1]
    · rw [if_neg h1, rK_enc hw h]
      have h2 : ¬ frk b.kd = fst k := fun e => hn ⟨h1, e⟩
      have e : (rdq (fst k) (b.kd, (0, wF (us b.kd) b))).2 = (3, wF (us b.kd) b) := by
        unfold rdq
        rw [if_neg h2]
        exact rFd_bad _ _ _ (by show ¬ (3 : Int) = 0; decide)
      rw [e]
      rfl
  exact ⟨hE, if_neg (by rw [hE]; decide)⟩
theorem dec_bad {k : Int} {s : ByteArray} (h : ¬ dcE k s = 0) : dcB k s = zb := if_neg h
end Go.Proofs.Ytcpfkikifhcdmaa
