/-
  BODIES READ BACK: what is read is what was written, and what is accepted was written so (layer 15).
-/
import Derived.Test.YtcpfkikifhcdmaaMgDec
namespace Go.Proofs.Ytcpfkikifhcdmaa
open Go.RowKit Go.Mg Go.Wr Go.Ad

theorem val_inj : ∀ a b : List UInt8, a.length = b.length → val a = val b → a = b
  | [], [], _, _ => rfl
  | x :: a, y :: b, hl, h => by
    rw [val, val] at h
    have hx := x.toNat_lt
    have hy := y.toNat_lt
    have e : x = y := by apply UInt8.toNat_inj.1; omega
    rw [val_inj a b (by simpa using hl) (by omega), e]
theorem le_val (l : List UInt8) : le (val l) l.length = l := val_inj _ _ (le_len _ _) (val_le_of_lt (val_lt l))

/-! One step, back and forth. -/
theorem rN_inv {k : Nat} {σ : Sg} (h : (rN k σ).2.1 = 0) : σ.1 = 0 ∧ σ.2 = ow (rN k σ).1 k ++ (rN k σ).2.2 := by
  unfold rN at h ⊢
  split at h
  · rename_i h0
    split at h
    · rename_i hl
      rw [if_pos h0, if_pos hl]
      refine ⟨h0, ?_⟩
      simp only
      unfold ow
      rw [Int.toNat_natCast, show le (val (σ.2.take k)) k = σ.2.take k from ?_, List.take_append_drop]
      have := le_val (σ.2.take k)
      rwa [List.length_take, Nat.min_eq_left hl] at this
    · simp only at h; exact absurd h (by decide)
  · rename_i h0; exact absurd h h0
theorem rN_ow {k : Nat} {v : Int} {r : List UInt8} (h0 : 0 ≤ v) (h1 : v < (pow k : Nat)) : rN k (0, ow v k ++ r) = (v, (0, r)) := by
  unfold rN
  have hl := ow_len v k
  simp only [if_true]
  rw [if_pos (by rw [List.length_append, hl]; omega), List.take_left' hl, List.drop_left' hl]
  unfold ow
  rw [val_le_of_lt (by omega), Int.toNat_of_nonneg h0]
theorem rN_bad15 {k : Nat} {σ : Sg} (h : ¬ σ.1 = 0) : rN k σ = (0, σ) := by unfold rN; rw [if_neg h]
theorem rT_inv {n : Nat} {σ : Sg} (h : (rT n σ).2.1 = 0) : σ.1 = 0 ∧ σ.2 = (rT n σ).1.data.toList ++ (rT n σ).2.2 ∧ (rT n σ).1.size = n := by
  unfold rT at h ⊢
  split at h
  · rename_i h0
    split at h
    · rename_i hl
      rw [if_pos h0, if_pos hl]
      refine ⟨h0, ?_, ?_⟩
      · simp only
        show σ.2 = (bz (σ.2.take n)).data.toList ++ _
        unfold bz
        simp
      · simp only
        rw [bz_size, List.length_take, Nat.min_eq_left hl]
    · simp only at h; exact absurd h (by decide)
  · rename_i h0; exact absurd h h0
theorem rT_fwd {s : ByteArray} {n : Nat} {r : List UInt8} (h : s.size = n) : rT n (0, s.data.toList ++ r) = (s, (0, r)) := by
  have hl : s.data.toList.length = n := by rw [← h]; exact Array.length_toList
  unfold rT
  simp only [if_true]
  rw [if_pos (by rw [List.length_append, hl]; omega), List.take_left' hl, List.drop_left' hl]
  unfold bz
  simp
theorem rT_bad {n : Nat} {σ : Sg} (h : ¬ σ.1 = 0) : (rT n σ).2 = σ := by unfold rT; rw [if_neg h]
theorem be_bev {l : List UInt8} (h : l.length = 6) : be (bev l) = l := by
  unfold be
  rw [bev_val]
  have := le_val l.reverse
  rw [List.length_reverse, h] at this
  rw [this, List.reverse_reverse]
theorem rA_inv {σ : Sg} (h : (rA σ).2.1 = 0) : σ.1 = 0 ∧ σ.2 = be (rA σ).1.toNat ++ (rA σ).2.2 := by
  unfold rA at h ⊢
  split at h
  · rename_i h0
    split at h
    · rename_i hl
      rw [if_pos h0, if_pos hl]
      refine ⟨h0, ?_⟩
      simp only
      rw [Int.toNat_natCast, be_bev (by rw [List.length_take, Nat.min_eq_left hl]), List.take_append_drop]
    · simp only at h; exact absurd h (by decide)
  · rename_i h0; exact absurd h h0
theorem rA_fwd {a : Int} {r : List UInt8} (h0 : 0 ≤ a) (h1 : a < 281474976710656) : rA (0, be a.toNat ++ r) = (a, (0, r)) := by
  unfold rA
  have hl := be_len a.toNat
  simp only [if_true]
  rw [if_pos (by rw [List.length_append, hl]; omega), List.take_left' hl, List.drop_left' hl, bev_be (by omega), Int.toNat_of_nonneg h0]
theorem rA_bad {σ : Sg} (h : ¬ σ.1 = 0) : (rA σ).2 = σ := by unfold rA; rw [if_neg h]

/-! Places. -/
theorem fv_setN (b : Bd) (k j : Nat) (hk : k < 14) (hj : j < 14) (u : Int) : fv (setN b k u) j = if j = k then u else fv b j := by
  rcases (show k = 0 ∨ k = 1 ∨ k = 2 ∨ k = 3 ∨ k = 4 ∨ k = 5 ∨ k = 6 ∨ k = 7 ∨ k = 8 ∨ k = 9 ∨ k = 10 ∨ k = 11 ∨ k = 12 ∨ k = 13 by omega) with rfl | rfl | rfl | rfl | rfl | rfl | rfl | rfl | rfl | rfl | rfl | rfl | rfl | rfl <;>
  rcases (show j = 0 ∨ j = 1 ∨ j = 2 ∨ j = 3 ∨ j = 4 ∨ j = 5 ∨ j = 6 ∨ j = 7 ∨ j = 8 ∨ j = 9 ∨ j = 10 ∨ j = 11 ∨ j = 12 ∨ j = 13 by omega) with rfl | rfl | rfl | rfl | rfl | rfl | rfl | rfl | rfl | rfl | rfl | rfl | rfl | rfl <;> rfl
theorem setN_kd (b : Bd) (k : Nat) (u : Int) : (setN b k u).kd = b.kd := by unfold setN; split <;> rfl
theorem setN_nm (b : Bd) (k : Nat) (u : Int) : (setN b k u).nm = b.nm := by unfold setN; split <;> rfl
theorem rQ_kd (s : Int) (k : Nat) (q : Bd × Sg) : (rQ s k q).1.kd = q.1.kd := by
  induction k with
  | zero => rfl
  | succ k ih => rw [rQ]; split <;> simp only [setN_kd, ih]
theorem rQ_nm (s : Int) (k : Nat) (q : Bd × Sg) : (rQ s k q).1.nm = q.1.nm := by
  induction k with
  | zero => rfl
  | succ k ih => rw [rQ]; split <;> simp only [setN_nm, ih]
/-- A place that the set has not, or that comes later, stays. -/
theorem rQ_fv (s : Int) (k : Nat) (hk : k ≤ 14) (q : Bd × Sg) (j : Nat) (hj : j < 14) (h : k ≤ j ∨ (bits .and .i64 s (fk j) != 0) = false) : fv (rQ s k q).1 j = fv q.1 j := by
  induction k with
  | zero => rfl
  | succ k ih =>
    have ih' := ih (by omega) (by rcases h with h | h; exact .inl (by omega); exact .inr h)
    rw [rQ]
    split
    · rename_i hc
      simp only
      rw [fv_setN _ k j (by omega) hj, if_neg, ih']
      intro e
      subst e
      rcases h with h | h
      · omega
      · rw [h] at hc; cases hc
    · exact ih'
theorem wN_congr (s : Int) (a b : Bd) (k : Nat) (h : ∀ j, j < k → (bits .and .i64 s (fk j) != 0) = true → fv a j = fv b j) : wN s a k = wN s b k := by
  induction k with
  | zero => rfl
  | succ k ih =>
    rw [wN, wN, ih (fun j hj => h j (by omega))]
    split
    · rename_i hc; rw [h k (by omega) hc]
    · rfl
theorem rQ_bad (s : Int) (k : Nat) (b : Bd) (σ : Sg) (h : ¬ σ.1 = 0) : (rQ s k (b, σ)).2 = σ := by
  induction k with
  | zero => rfl
  | succ k ih =>
    rw [rQ]
    split
    · simp only; rw [ih, rN_bad15 h]
    · exact ih
theorem rQ_inv (s : Int) (k : Nat) (hk : k ≤ 14) (q : Bd × Sg) (h : (rQ s k q).2.1 = 0) : q.2.1 = 0 ∧ q.2.2 = wN s (rQ s k q).1 k ++ (rQ s k q).2.2 := by
  induction k with
  | zero => exact ⟨h, rfl⟩
  | succ k ih =>
    rw [rQ] at h ⊢
    rw [wN]
    split at h
    · rename_i hc
      simp only at h
      obtain ⟨h1, h2⟩ := rN_inv h
      obtain ⟨h3, h4⟩ := ih (by omega) h1
      rw [if_pos hc, if_pos hc]
      refine ⟨h3, ?_⟩
      simp only
      rw [fv_setN _ k k (by omega) (by omega), if_pos rfl, List.append_assoc, ← h2, wN_congr s (setN (rQ s k q).1 k _) (rQ s k q).1 k (fun j hj _ => by rw [fv_setN _ k j (by omega) (by omega), if_neg (by omega)])]
      exact h4
    · rename_i hc
      obtain ⟨h3, h4⟩ := ih (by omega) h
      rw [if_neg hc, if_neg hc, List.append_nil]
      exact ⟨h3, h4⟩
/-- Reading what was written for b. -/
theorem rQ_fwd (s : Int) (b : Bd) (hf : ∀ j, j < 14 → 0 ≤ fv b j ∧ fv b j < (pow (fz j) : Nat)) (k : Nat) (hk : k ≤ 14) (y : Bd) (m : List UInt8) :
    (rQ s k (y, (0, wN s b k ++ m))).2 = (0, m) ∧ ∀ j, j < 14 → fv (rQ s k (y, (0, wN s b k ++ m))).1 j = if j < k ∧ (bits .and .i64 s (fk j) != 0) = true then fv b j else fv y j := by
  induction k generalizing m with
  | zero => exact ⟨rfl, fun j _ => by rw [if_neg (by omega)]; rfl⟩
  | succ k ih =>
    rw [wN, List.append_assoc, rQ]
    split
    · rename_i hc
      obtain ⟨h1, h2⟩ := ih (by omega) (ow (fv b k) (fz k) ++ m)
      have hv := hf k (by omega)
      have hr := rN_ow (k := fz k) (r := m) hv.1 hv.2
      rw [h1, hr]
      refine ⟨rfl, fun j hj => ?_⟩
      simp only
      rw [fv_setN _ k j (by omega) hj, h2 j hj]
      by_cases e : j = k
      · subst e; rw [if_pos rfl, if_pos ⟨by omega, hc⟩]
      · rw [if_neg e]
        by_cases e2 : j < k ∧ (bits .and .i64 s (fk j) != 0) = true
        · rw [if_pos e2, if_pos ⟨by omega, e2.2⟩]
        · rw [if_neg e2, if_neg (fun h => e2 ⟨by omega, h.2⟩)]
    · rename_i hc
      rw [List.nil_append]
      obtain ⟨h1, h2⟩ := ih (by omega) m
      refine ⟨h1, fun j hj => ?_⟩
      rw [h2 j hj]
      by_cases e2 : j < k ∧ (bits .and .i64 s (fk j) != 0) = true
      · rw [if_pos e2, if_pos ⟨by omega, e2.2⟩]
      · rw [if_neg e2, if_neg]
        rintro ⟨h3, h4⟩
        by_cases e : j = k
        · subst e; exact hc h4
        · exact e2 ⟨by omega, h4⟩

/-! The sets of the kinds. -/
theorem parts {c : Int} (h : isK c) : ∀ j, j < 14 → ((bits .and .i64 (bits .andNot .i64 (us c) 4096) (fk j) != 0) = true → (bits .and .i64 (bits .and .i64 (us c) 4096) (fk j) != 0) = false) ∧
    ((bits .and .i64 (us c) (fk j) != 0) = ((bits .and .i64 (bits .andNot .i64 (us c) 4096) (fk j) != 0) || (bits .and .i64 (bits .and .i64 (us c) 4096) (fk j) != 0))) := by
  rcases kinds h with rfl | rfl | rfl | rfl | rfl | rfl | rfl | rfl | rfl | rfl | rfl | rfl <;> decide +kernel
theorem unused {b : Bd} (hk : isK b.kd) (hu : usB b = b) : (∀ j, j < 14 → (bits .and .i64 (us b.kd) (fk j) != 0) = false → fv b j = 0) ∧ (hs (us b.kd) 8 = false → b.nm = ⟨#[]⟩) ∧ (hs (us b.kd) 64 = false → b.od = 0) := by
  generalize hd : b.kd = k at hk
  refine ⟨fun j hj h => ?_, fun h => ?_, fun h => ?_⟩
  · rw [← hu]
    unfold usB
    rw [hd]
    rcases kinds hk with rfl | rfl | rfl | rfl | rfl | rfl | rfl | rfl | rfl | rfl | rfl | rfl <;>
    rcases (show j = 0 ∨ j = 1 ∨ j = 2 ∨ j = 3 ∨ j = 4 ∨ j = 5 ∨ j = 6 ∨ j = 7 ∨ j = 8 ∨ j = 9 ∨ j = 10 ∨ j = 11 ∨ j = 12 ∨ j = 13 by omega) with rfl | rfl | rfl | rfl | rfl | rfl | rfl | rfl | rfl | rfl | rfl | rfl | rfl | rfl <;> first | rfl | exact absurd h (by decide)
  · rw [← hu]
    unfold usB
    rw [hd]
    rcases kinds hk with rfl | rfl | rfl | rfl | rfl | rfl | rfl | rfl | rfl | rfl | rfl | rfl <;> first | rfl | exact absurd h (by decide)
  · rw [← hu]
    unfold usB
    rw [hd]
    rcases kinds hk with rfl | rfl | rfl | rfl | rfl | rfl | rfl | rfl | rfl | rfl | rfl | rfl <;> first | rfl | exact absurd h (by decide)
theorem bd_ext {a b : Bd} (h1 : a.kd = b.kd) (h2 : a.nm = b.nm) (h3 : a.od = b.od) (h : ∀ j, j < 14 → fv a j = fv b j) : a = b := by
  have g0 : a.pf = b.pf := h 0 (by decide)
  have g1 : a.pp = b.pp := h 1 (by decide)
  have g2 : a.pl = b.pl := h 2 (by decide)
  have g3 : a.sp = b.sp := h 3 (by decide)
  have g4 : a.ct = b.ct := h 4 (by decide)
  have g5 : a.st = b.st := h 5 (by decide)
  have g6 : a.hn = b.hn := h 6 (by decide)
  have g7 : a.ls = b.ls := h 7 (by decide)
  have g8 : a.dv = b.dv := h 8 (by decide)
  have g9 : a.ai = b.ai := h 9 (by decide)
  have g10 : a.sr = b.sr := h 10 (by decide)
  have g11 : a.sz = b.sz := h 11 (by decide)
  have g12 : a.ch = b.ch := h 12 (by decide)
  have g13 : a.cn = b.cn := h 13 (by decide)
  exact (ext_iff a b).2 ⟨h1, g3, g5, g6, h2, g7, g8, h3, g9, g4, g10, g11, g12, g13, g0, g1, g2⟩
end Go.Proofs.Ytcpfkikifhcdmaa
