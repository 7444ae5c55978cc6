/-
  OF THE STEPS: what Read does with the octets is what the reference hands back (layer 10).
  OF THE STEPS: whole headers and short ones, class by class (layer 10).
  THE REFERENCE'S Read OF HEADERS is the program's steps (layer 10).
-/
import Derived.Test.YtkhnhlahfedkhaaDoorHdRfF
import Derived.Test.YtkhnhlahfedkhaaDoorHdRfL
namespace Go.Proofs.YtkhnhlahfedkhaaDoor
open Go.RowKit Go.Hd Go.Wr Go.Ad

/-! ### The steps over a text -/
def pcs (s : ByteArray) (a b : Nat) : List UInt8 := (s.extract a b).data.toList
theorem pcs_eq (s : ByteArray) (a b : Nat) (_ : a ≤ b) : pcs s a b = (s.data.toList.drop a).take (b - a) := by
  unfold pcs
  rw [ByteArray.data_extract, Array.toList_extract, List.extract_eq_take_drop]
theorem rN_at (s : ByteArray) (a b k : Nat) (hk : b = a + k) (h : b ≤ s.size) : rN k (0, s.data.toList.drop a) = (nv s a b, (0, s.data.toList.drop b)) := by
  subst hk
  have hl := ba_len s
  unfold rN
  simp only [if_true]
  rw [if_pos (by rw [List.length_drop]; omega), List.drop_drop]
  unfold nv
  have := pcs_eq s a (a + k) (by omega)
  unfold pcs at this
  rw [this, show a + k - a = k by omega]
theorem rN_short (s : ByteArray) (a k : Nat) (h : s.size < a + k) (hk : a ≤ s.size) : (rN k (0, s.data.toList.drop a)).2.1 = 1 := by
  have hl := ba_len s
  unfold rN
  simp only [if_true]
  rw [if_neg (by rw [List.length_drop]; omega)]
theorem rA_at (s : ByteArray) (a b : Nat) (hk : b = a + 6) (h : b ≤ s.size) : rA (0, s.data.toList.drop a) = (av s a b, (0, s.data.toList.drop b)) := by
  subst hk
  have hl := ba_len s
  unfold rA
  simp only [if_true]
  rw [if_pos (by rw [List.length_drop]; omega), List.drop_drop]
  unfold av
  have := pcs_eq s a (a + 6) (by omega)
  unfold pcs at this
  rw [this, show a + 6 - a = 6 by omega]
theorem nv_oc (s : ByteArray) (i : Nat) (h : i < s.size) : nv s i (i + 1) = (oc s i : Int) := by
  have hl := ba_len s
  unfold nv
  have := pcs_eq s i (i + 1) (by omega)
  unfold pcs at this
  rw [this, show i + 1 - i = 1 by omega]
  unfold oc
  rw [List.drop_eq_getElem_cons (by omega), List.getD_eq_getElem?_getD, List.getElem?_eq_getElem (by omega)]
  simp [val]

/-! ### Errors stay, and are 1 -/
def e01 (σ : Sg) : Prop := σ.1 = 0 ∨ σ.1 = 1
theorem rN_e01 {k : Nat} {σ : Sg} (h : e01 σ) : e01 (rN k σ).2 := by
  unfold rN e01 at *
  split
  · split
    · exact .inl rfl
    · exact .inr rfl
  · exact h
theorem rA_e01 {σ : Sg} (h : e01 σ) : e01 (rA σ).2 := by
  unfold rA e01 at *
  split
  · split
    · exact .inl rfl
    · exact .inr rfl
  · exact h
theorem rR_e01 (x : Fr × Sg) (h : e01 x.2) : e01 (rR x).2 := by
  have h1 : e01 (s1 x).2 := rA_e01 h
  have h2 : ∀ y, e01 y.2 → e01 (r2 y).2 := fun y hy => by unfold r2; split; exact rA_e01 hy; exact hy
  have h3 : ∀ y, e01 y.2 → e01 (r3 y).2 := fun y hy => by unfold r3; split; exact rA_e01 hy; exact hy
  have h4 : ∀ y, e01 y.2 → e01 (r4 y).2 := fun y hy => by unfold r4; split; exact rN_e01 hy; exact hy
  have h5 : ∀ y, e01 y.2 → e01 (r5 y).2 := fun y hy => by unfold r5; split; exact rN_e01 hy; exact hy
  have h6 : ∀ y, e01 y.2 → e01 (r6 y).2 := fun y hy => by
    unfold r6
    split
    · split
      · exact rN_e01 hy
      · exact rN_e01 (rN_e01 hy)
    · exact hy
  exact h6 _ (h5 _ (h4 _ (h3 _ (h2 _ h1))))
theorem rN_bad {k : Nat} {σ : Sg} (h : ¬ σ.1 = 0) : (rN k σ).2 = σ := by unfold rN; rw [if_neg h]
theorem rA_bad {σ : Sg} (h : ¬ σ.1 = 0) : (rA σ).2 = σ := by unfold rA; rw [if_neg h]
theorem rR_bad (x : Fr × Sg) (h : ¬ x.2.1 = 0) : (rR x).2 = x.2 := by
  have h1 : ∀ y : Fr × Sg, ¬ y.2.1 = 0 → (s1 y).2 = y.2 := fun y hy => rA_bad hy
  have h2 : ∀ y : Fr × Sg, ¬ y.2.1 = 0 → (r2 y).2 = y.2 := fun y hy => by unfold r2; split; exact rA_bad hy; rfl
  have h3 : ∀ y : Fr × Sg, ¬ y.2.1 = 0 → (r3 y).2 = y.2 := fun y hy => by unfold r3; split; exact rA_bad hy; rfl
  have h4 : ∀ y : Fr × Sg, ¬ y.2.1 = 0 → (r4 y).2 = y.2 := fun y hy => by unfold r4; split; exact rN_bad hy; rfl
  have h5 : ∀ y : Fr × Sg, ¬ y.2.1 = 0 → (r5 y).2 = y.2 := fun y hy => by unfold r5; split; exact rN_bad hy; rfl
  have h6 : ∀ y : Fr × Sg, ¬ y.2.1 = 0 → (r6 y).2 = y.2 := fun y hy => by
    unfold r6
    split
    · split
      · exact rN_bad hy
      · exact (rN_bad (k := 5) (σ := (rN 2 y.2).2) (by rw [rN_bad hy]; exact hy)).trans (rN_bad hy)
    · rfl
  have k1 := h1 x h
  have k2 := (h2 (s1 x) (by rw [k1]; exact h)).trans k1
  have k3 := (h3 (r2 (s1 x)) (by rw [k2]; exact h)).trans k2
  have k4 := (h4 _ (by rw [k3]; exact h)).trans k3
  have k5 := (h5 _ (by rw [k4]; exact h)).trans k4
  exact (h6 _ (by rw [k5]; exact h)).trans k5
theorem rdP_bad {σ : Sg} {e : Int} (h : (rR (rS σ)).2.1 = e) (he : ¬ e = 0) : (rdP σ).1 = Fr_.zf ∧ (rdP σ).2.1 = e := by
  have hP : rdP σ = if (rF (chk (rR (rS σ)).1) (rR (rS σ)).2).1 = 0 then ((rR (rS σ)).1, rF (chk (rR (rS σ)).1) (rR (rS σ)).2) else (Fr_.zf, rF (chk (rR (rS σ)).1) (rR (rS σ)).2) := rfl
  have hF : rF (chk (rR (rS σ)).1) (rR (rS σ)).2 = (rR (rS σ)).2 := by unfold rF; rw [if_neg (by rw [h]; exact he)]
  rw [hF] at hP
  rw [if_neg (by rw [h]; exact he)] at hP
  rw [hP]
  exact ⟨rfl, h⟩
theorem rdP_chk {σ : Sg} {g : Fr} {R : List UInt8} (h : rR (rS σ) = (g, (0, R))) (hc : ¬ chk g = 0) : (rdP σ).1 = Fr_.zf ∧ (rdP σ).2.1 = chk g := by
  have hP : rdP σ = if (rF (chk (rR (rS σ)).1) (rR (rS σ)).2).1 = 0 then ((rR (rS σ)).1, rF (chk (rR (rS σ)).1) (rR (rS σ)).2) else (Fr_.zf, rF (chk (rR (rS σ)).1) (rR (rS σ)).2) := rfl
  rw [h] at hP
  have hF : rF (chk g) (0, R) = (chk g, R) := by unfold rF; rw [if_pos rfl]
  simp only [hF] at hP
  rw [if_neg hc] at hP
  rw [hP]
  exact ⟨rfl, rfl⟩
end Go.Proofs.YtkhnhlahfedkhaaDoor

namespace Go.Proofs.YtkhnhlahfedkhaaDoor
open Go.RowKit Go.Hd Go.Wr Go.Ad

theorem flag_hs : ∀ n : Fin 256, hs (n.val : Int) 1 = bt n.val 1 ∧ hs (n.val : Int) 2 = bt n.val 2 ∧ hs (n.val : Int) 4 = bt n.val 4 ∧ hs (n.val : Int) 8 = bt n.val 8 ∧ hs (n.val : Int) 16 = bt n.val 16 ∧ hs (n.val : Int) 32 = bt n.val 32 ∧ (bits .and .i64 (n.val : Int) 192).tdiv 64 = (n.val : Int) / 64 := by decide +kernel
theorem flag_bt {n : Nat} (h : n < 256) : hs (n : Int) 1 = bt n 1 ∧ hs (n : Int) 2 = bt n 2 ∧ hs (n : Int) 4 = bt n 4 ∧ hs (n : Int) 8 = bt n 8 ∧ hs (n : Int) 16 = bt n 16 ∧ hs (n : Int) 32 = bt n 32 ∧ (bits .and .i64 (n : Int) 192).tdiv 64 = (n : Int) / 64 := flag_hs ⟨n, h⟩

theorem rF_bad {x : Int} {σ : Sg} (h : ¬ σ.1 = 0) : rF x σ = σ := if_neg h
theorem rS_bad2 {σ τ : Sg} (h : (if isK (rN 1 σ).1 then (rN 1 σ).2 else rF 3 (rN 1 σ).2) = τ) (ht : ¬ τ.1 = 0) : (rS σ).2 = τ := by
  unfold rS
  simp only
  rw [h]
  have h1 : (rN 1 τ).2 = τ := rN_bad ht
  have h2 : (if bits .andNot .i64 (rN 1 τ).1 (us (rN 1 σ).1) = 0 then (rN 1 τ).2 else rF 3 (rN 1 τ).2) = τ := by
    rw [h1, rF_bad ht]; split <;> rfl
  rw [h2]
  exact rN_bad ht
theorem rS_bad4 {σ τ υ : Sg} (h : (if isK (rN 1 σ).1 then (rN 1 σ).2 else rF 3 (rN 1 σ).2) = τ) (h' : (if bits .andNot .i64 (rN 1 τ).1 (us (rN 1 σ).1) = 0 then (rN 1 τ).2 else rF 3 (rN 1 τ).2) = υ) (hu : ¬ υ.1 = 0) : (rS σ).2 = υ := by
  unfold rS
  simp only
  rw [h, h']
  exact rN_bad hu
theorem rN_0 (s : ByteArray) (k : Int) (ek : (oc s 0 : Int) = k) (h : 1 ≤ s.size) : rN 1 (0, s.data.toList) = (k, (0, s.data.toList.drop 1)) := by
  have := rN_at s 0 1 1 rfl h
  rw [List.drop_zero, nv_oc s 0 (by omega), ek] at this
  exact this
theorem rN_1 (s : ByteArray) (n : Nat) (en : oc s 1 = n) (h : 2 ≤ s.size) : rN 1 (0, s.data.toList.drop 1) = ((n : Int), (0, s.data.toList.drop 2)) := by
  have := rN_at s 1 2 1 rfl h
  rw [nv_oc s 1 (by omega), en] at this
  exact this
/-- Where the steps of Read end at once. -/
theorem rS_empty (s : ByteArray) (h : s.size = 0) : (rS (0, s.data.toList)).2.1 = 1 := by
  have hl := ba_len s
  have e : s.data.toList = [] := List.eq_nil_of_length_eq_zero (by omega)
  rw [e]
  decide +kernel
theorem rS_nokind (s : ByteArray) (k : Int) (ek : (oc s 0 : Int) = k) (h : 1 ≤ s.size) (hk : ¬ isK k) : (rS (0, s.data.toList)).2.1 = 3 := by
  have h1 := rN_0 s k ek h
  have := rS_bad2 (σ := (0, s.data.toList)) (τ := (3, s.data.toList.drop 1)) (by rw [h1]; simp only; rw [if_neg hk]; rfl) (show ¬ (3 : Int) = 0 by decide)
  rw [this]
theorem rS_one (s : ByteArray) (k : Int) (ek : (oc s 0 : Int) = k) (h : s.size = 1) (hk : isK k) : (rS (0, s.data.toList)).2.1 = 1 := by
  have h1 := rN_0 s k ek (by omega)
  have h2 := rN_short s 1 1 (by omega) (by omega)
  have h3 : (rS (0, s.data.toList)).2 = (rN 1 (0, s.data.toList.drop 1)).2 := rS_bad4 (τ := (0, s.data.toList.drop 1)) (by rw [h1]; simp only; rw [if_pos hk]) (by rw [rF_bad (by rw [h2]; decide)]; split <;> rfl) (by rw [h2]; decide)
  rw [h3, h2]
theorem rS_flags (s : ByteArray) (k : Int) (n : Nat) (ek : (oc s 0 : Int) = k) (en : oc s 1 = n) (h : 2 ≤ s.size) (hk : isK k) (hn : ¬ bits .andNot .i64 (n : Int) (us k) = 0) : (rS (0, s.data.toList)).2.1 = 3 := by
  have h1 := rN_0 s k ek (by omega)
  have h2 := rN_1 s n en h
  have h3 : (rS (0, s.data.toList)).2 = (3, s.data.toList.drop 2) := rS_bad4 (τ := (0, s.data.toList.drop 1)) (by rw [h1]; simp only; rw [if_pos hk]) (by rw [h1, h2]; simp only; rw [if_neg hn]; rfl) (show ¬ (3 : Int) = 0 by decide)
  rw [h3]
theorem rS_form (s : ByteArray) (k : Int) (n : Nat) (ek : (oc s 0 : Int) = k) (en : oc s 1 = n) (h : 2 ≤ s.size) (hk : isK k) (hn : bits .andNot .i64 (n : Int) (us k) = 0) : rS (0, s.data.toList) = (f0 k (n : Int) (rN 2 (0, s.data.toList.drop 2)).1, (rN 2 (0, s.data.toList.drop 2)).2) := by
  unfold rS
  rw [rN_0 s k ek (by omega)]
  simp only
  rw [if_pos hk, rN_1 s n en h]
  simp only
  rw [if_pos hn]
  rfl
theorem rS_short (s : ByteArray) (k : Int) (n : Nat) (ek : (oc s 0 : Int) = k) (en : oc s 1 = n) (h : 2 ≤ s.size) (h4 : s.size < 4) (hk : isK k) (hn : bits .andNot .i64 (n : Int) (us k) = 0) : (rS (0, s.data.toList)).2.1 = 1 := by
  rw [rS_form s k n ek en h hk hn]
  exact rN_short s 2 2 (by omega) (by omega)
theorem rS_whole (s : ByteArray) (k : Int) (n : Nat) (ek : (oc s 0 : Int) = k) (en : oc s 1 = n) (h : 4 ≤ s.size) (hk : isK k) (hn : bits .andNot .i64 (n : Int) (us k) = 0) : rS (0, s.data.toList) = (f0 k (n : Int) (nv s 2 4), (0, s.data.toList.drop 4)) := by
  rw [rS_form s k n ek en (by omega) hk hn, rN_at s 2 4 2 rfl h]

/-! ### Short headers -/
theorem rN_len {k : Nat} {σ : Sg} (h : (rN k σ).2.1 = 0) : σ.1 = 0 ∧ σ.2.length = (rN k σ).2.2.length + k := by
  obtain ⟨L, R, e, hl, q⟩ := rN_ok h
  rw [q, e]
  exact ⟨rfl, by simp only [List.length_append]; omega⟩
theorem rA_len {σ : Sg} (h : (rA σ).2.1 = 0) : σ.1 = 0 ∧ σ.2.length = (rA σ).2.2.length + 6 := by
  obtain ⟨L, R, e, hl, q⟩ := rA_ok h
  rw [q, e]
  exact ⟨rfl, by simp only [List.length_append]; omega⟩
theorem short_of {x : Fr × Sg} (he : e01 x.2) (h : ¬ (rR x).2.1 = 0) : (rR x).2.1 = 1 := by
  rcases rR_e01 x he with h0 | h1
  · exact absurd h0 h
  · exact h1
theorem sn1 {y : Fr × Sg} (h : (s1 y).2.1 = 0) : y.2.1 = 0 ∧ y.2.2.length = (s1 y).2.2.length + 6 := rA_len h
theorem sn2 {y : Fr × Sg} (h : (s2 y).2.1 = 0) : y.2.1 = 0 ∧ y.2.2.length = (s2 y).2.2.length + 6 := rA_len h
theorem sn3 {y : Fr × Sg} (h : (s3 y).2.1 = 0) : y.2.1 = 0 ∧ y.2.2.length = (s3 y).2.2.length + 6 := rA_len h
theorem sn4 {y : Fr × Sg} (h : (s4 y).2.1 = 0) : y.2.1 = 0 ∧ y.2.2.length = (s4 y).2.2.length + 2 := rN_len h
theorem sn5 {y : Fr × Sg} (h : (s5 y).2.1 = 0) : y.2.1 = 0 ∧ y.2.2.length = (s5 y).2.2.length + 1 := rN_len h
theorem sn6 {y : Fr × Sg} (h : (s6 y).2.1 = 0) : y.2.1 = 0 ∧ y.2.2.length = (s6 y).2.2.length + 2 := rN_len h
theorem sn7 {y : Fr × Sg} (h : (s7 y).2.1 = 0) : y.2.1 = 0 ∧ y.2.2.length = (s7 y).2.2.length + 5 := rN_len h

set_option maxHeartbeats 2000000 in
theorem whole_mg (s : ByteArray) (k : Int) (n : Nat) (ek : (oc s 0 : Int) = k) (en : oc s 1 = n) (hk : isK k) (hn : bits .andNot .i64 (n : Int) (us k) = 0) (c1 : fro k) (c2 : nb k) (c3 : ¬ pl k) (c4 : ¬ k = 18) (hz : 24 ≤ s.size) : rR (rS (0, s.data.toList)) = (fOf s, (0, s.data.toList.drop 24)) := by
  have hx := rS_whole s k n ek en (by omega) hk hn
  obtain ⟨x, ex⟩ : ∃ x, x = rS (0, s.data.toList) := ⟨_, rfl⟩
  rw [← ex] at hx ⊢
  have hx1 : x.1 = f0 k (n : Int) (nv s 2 4) := congrArg Prod.fst hx
  have q0 : x.2 = (0, s.data.toList.drop 4) := congrArg Prod.snd hx
  have kx : x.1.kd = k := fstp Fr.kd hx1 rfl
  clear hx ex
  obtain ⟨hb1, hb2, hb4, hb8, hb16, hb32, hb64⟩ := flag_bt (n := n) (en ▸ oc_lt s 1)
  rw [rR_mg (show hs (us x.1.kd) 256 = true by rw [kx]; exact (hs_from hk).trans (decide_eq_true c1)) (show hs (us x.1.kd) 512 = true by rw [kx]; exact (hs_third hk).trans (decide_eq_true c2)) (show hs (us x.1.kd) 1024 = true by rw [kx]; exact (hs_seq hk).trans (decide_eq_true c2)) (show hs (us x.1.kd) 4096 = false by rw [kx]; exact (hs_cat hk).trans (decide_eq_false c3)) (show hs (us x.1.kd) 8192 = false by rw [kx]; exact (hs_key hk).trans (decide_eq_false c4))]
  have q1 : (s1 x).2 = (0, s.data.toList.drop 10) := by
    show (rA x.2).2 = _
    rw [q0, rA_at s 4 10 rfl (by omega)]
  have vta : (s1 x).1.ta = av s 4 10 := by
    show (rA x.2).1 = _
    rw [q0, rA_at s 4 10 rfl (by omega)]
  have q2 : (s2 (s1 x)).2 = (0, s.data.toList.drop 16) := by
    show (rA (s1 x).2).2 = _
    rw [q1, rA_at s 10 16 rfl (by omega)]
  have vfa : (s2 (s1 x)).1.fa = av s 10 16 := by
    show (rA (s1 x).2).1 = _
    rw [q1, rA_at s 10 16 rfl (by omega)]
  have q3 : (s3 (s2 (s1 x))).2 = (0, s.data.toList.drop 22) := by
    show (rA (s2 (s1 x)).2).2 = _
    rw [q2, rA_at s 16 22 rfl (by omega)]
  have vth : (s3 (s2 (s1 x))).1.th = av s 16 22 := by
    show (rA (s2 (s1 x)).2).1 = _
    rw [q2, rA_at s 16 22 rfl (by omega)]
  have q4 : (s4 (s3 (s2 (s1 x)))).2 = (0, s.data.toList.drop 24) := by
    show (rN 2 (s3 (s2 (s1 x))).2).2 = _
    rw [q3, rN_at s 22 24 2 rfl (by omega)]
  have vsq : (s4 (s3 (s2 (s1 x)))).1.sq = nv s 22 24 / 16 := by
    show (rN 2 (s3 (s2 (s1 x))).2).1.tdiv 16 = _
    rw [q3, rN_at s 22 24 2 rfl (by omega)]
    exact Int.tdiv_eq_ediv_of_nonneg (nv_lt (by omega)).1
  have vfg : (s4 (s3 (s2 (s1 x)))).1.fg = nv s 22 24 % 16 := by
    show (rN 2 (s3 (s2 (s1 x))).2).1.tmod 16 = _
    rw [q3, rN_at s 22 24 2 rfl (by omega)]
    exact Int.tmod_eq_emod_of_nonneg (nv_lt (by omega)).1
  have tlrt : bt n 1 = (fOf s).rt := by rw [← en]; rfl
  have tlmo : bt n 2 = (fOf s).mo := by rw [← en]; rfl
  have tlpw : bt n 4 = (fOf s).pw := by rw [← en]; rfl
  have tlst : bt n 8 = (fOf s).st := by rw [← en]; rfl
  have tlla : bt n 16 = (fOf s).la := by rw [← en]; rfl
  have tljo : bt n 32 = (fOf s).jo := by rw [← en]; rfl
  have tlpo : (n : Int) / 64 = (fOf s).po := by rw [← en]; rfl
  have hf := fr_ext (a := (s4 (s3 (s2 (s1 x)))).1) (b := fOf s) ((s4_kd _).trans ((s3_kd _).trans ((s2_kd _).trans ((s1_kd _).trans ((fstp Fr.kd hx1 rfl : x.1.kd = k).trans ek.symm))))) ((s4_rt _).trans ((s3_rt _).trans ((s2_rt _).trans ((s1_rt _).trans ((fstp Fr.rt hx1 rfl : x.1.rt = hs (n : Int) 1).trans (hb1.trans tlrt)))))) ((s4_mo _).trans ((s3_mo _).trans ((s2_mo _).trans ((s1_mo _).trans ((fstp Fr.mo hx1 rfl : x.1.mo = hs (n : Int) 2).trans (hb2.trans tlmo)))))) ((s4_pw _).trans ((s3_pw _).trans ((s2_pw _).trans ((s1_pw _).trans ((fstp Fr.pw hx1 rfl : x.1.pw = hs (n : Int) 4).trans (hb4.trans tlpw)))))) ((s4_st _).trans ((s3_st _).trans ((s2_st _).trans ((s1_st _).trans ((fstp Fr.st hx1 rfl : x.1.st = hs (n : Int) 8).trans (hb8.trans tlst)))))) ((s4_la _).trans ((s3_la _).trans ((s2_la _).trans ((s1_la _).trans ((fstp Fr.la hx1 rfl : x.1.la = hs (n : Int) 16).trans (hb16.trans tlla)))))) ((s4_jo _).trans ((s3_jo _).trans ((s2_jo _).trans ((s1_jo _).trans ((fstp Fr.jo hx1 rfl : x.1.jo = hs (n : Int) 32).trans (hb32.trans tljo)))))) ((s4_po _).trans ((s3_po _).trans ((s2_po _).trans ((s1_po _).trans ((fstp Fr.po hx1 rfl : x.1.po = (bits .and .i64 (n : Int) 192).tdiv 64).trans (hb64.trans tlpo)))))) ((s4_du _).trans ((s3_du _).trans ((s2_du _).trans ((s1_du _).trans ((fstp Fr.du hx1 rfl : x.1.du = nv s 2 4).trans rfl))))) ((s4_ta _).trans ((s3_ta _).trans ((s2_ta _).trans (vta.trans rfl)))) ((s4_fa _).trans ((s3_fa _).trans (vfa.trans (if_pos (ek.symm ▸ c1)).symm))) ((s4_th _).trans (vth.trans (if_pos (ek.symm ▸ c2)).symm)) (vsq.trans (if_pos (ek.symm ▸ c2)).symm) (vfg.trans (if_pos (ek.symm ▸ c2)).symm) ((s4_ct _).trans ((s3_ct _).trans ((s2_ct _).trans ((s1_ct _).trans ((fstp Fr.ct hx1 rfl : x.1.ct = 0).trans (if_neg (ek.symm ▸ c3)).symm))))) ((s4_ky _).trans ((s3_ky _).trans ((s2_ky _).trans ((s1_ky _).trans ((fstp Fr.ky hx1 rfl : x.1.ky = 0).trans (if_neg (ek.symm ▸ c4)).symm))))) ((s4_cn _).trans ((s3_cn _).trans ((s2_cn _).trans ((s1_cn _).trans ((fstp Fr.cn hx1 rfl : x.1.cn = 0).trans (if_neg (ek.symm ▸ c4)).symm))))) ((s4_bo _).trans ((s3_bo _).trans ((s2_bo _).trans ((s1_bo _).trans ((fstp Fr.bo hx1 rfl : x.1.bo = ⟨#[]⟩).trans rfl)))))
  exact Prod.ext hf q4

theorem short_mg (s : ByteArray) (k : Int) (n : Nat) (ek : (oc s 0 : Int) = k) (en : oc s 1 = n) (hk : isK k) (hn : bits .andNot .i64 (n : Int) (us k) = 0) (c1 : fro k) (c2 : nb k) (c3 : ¬ pl k) (c4 : ¬ k = 18) (h2 : 2 ≤ s.size) (hz : s.size < 24) : (rR (rS (0, s.data.toList))).2.1 = 1 := by
  by_cases h4 : s.size < 4
  · have h := rS_short s k n ek en h2 h4 hk hn
    rw [rR_bad _ (by rw [h]; decide), h]
  have hx := rS_whole s k n ek en (by omega) hk hn
  obtain ⟨x, ex⟩ : ∃ x, x = rS (0, s.data.toList) := ⟨_, rfl⟩
  rw [← ex] at hx ⊢
  have hx1 : x.1 = f0 k (n : Int) (nv s 2 4) := congrArg Prod.fst hx
  have q0 : x.2 = (0, s.data.toList.drop 4) := congrArg Prod.snd hx
  have kx : x.1.kd = k := fstp Fr.kd hx1 rfl
  have hl := ba_len s
  have l0 : x.2.2.length = s.size - 4 := by rw [q0, List.length_drop, hl]
  clear hx ex
  refine short_of (by rw [q0]; exact .inl rfl) (fun h => ?_)
  rw [rR_mg (show hs (us x.1.kd) 256 = true by rw [kx]; exact (hs_from hk).trans (decide_eq_true c1)) (show hs (us x.1.kd) 512 = true by rw [kx]; exact (hs_third hk).trans (decide_eq_true c2)) (show hs (us x.1.kd) 1024 = true by rw [kx]; exact (hs_seq hk).trans (decide_eq_true c2)) (show hs (us x.1.kd) 4096 = false by rw [kx]; exact (hs_cat hk).trans (decide_eq_false c3)) (show hs (us x.1.kd) 8192 = false by rw [kx]; exact (hs_key hk).trans (decide_eq_false c4))] at h
  have n4 := sn4 (y := s3 (s2 (s1 x))) h
  have n3 := sn3 (y := s2 (s1 x)) n4.1
  have n2 := sn2 (y := s1 x) n3.1
  have n1 := sn1 (y := x) n2.1
  omega

set_option maxHeartbeats 2000000 in
theorem whole_rts (s : ByteArray) (k : Int) (n : Nat) (ek : (oc s 0 : Int) = k) (en : oc s 1 = n) (hk : isK k) (hn : bits .andNot .i64 (n : Int) (us k) = 0) (c1 : fro k) (c2 : ¬ nb k) (c3 : ¬ pl k) (c4 : ¬ k = 18) (hz : 16 ≤ s.size) : rR (rS (0, s.data.toList)) = (fOf s, (0, s.data.toList.drop 16)) := by
  have hx := rS_whole s k n ek en (by omega) hk hn
  obtain ⟨x, ex⟩ : ∃ x, x = rS (0, s.data.toList) := ⟨_, rfl⟩
  rw [← ex] at hx ⊢
  have hx1 : x.1 = f0 k (n : Int) (nv s 2 4) := congrArg Prod.fst hx
  have q0 : x.2 = (0, s.data.toList.drop 4) := congrArg Prod.snd hx
  have kx : x.1.kd = k := fstp Fr.kd hx1 rfl
  clear hx ex
  obtain ⟨hb1, hb2, hb4, hb8, hb16, hb32, hb64⟩ := flag_bt (n := n) (en ▸ oc_lt s 1)
  rw [rR_rts (show hs (us x.1.kd) 256 = true by rw [kx]; exact (hs_from hk).trans (decide_eq_true c1)) (show hs (us x.1.kd) 512 = false by rw [kx]; exact (hs_third hk).trans (decide_eq_false c2)) (show hs (us x.1.kd) 1024 = false by rw [kx]; exact (hs_seq hk).trans (decide_eq_false c2)) (show hs (us x.1.kd) 4096 = false by rw [kx]; exact (hs_cat hk).trans (decide_eq_false c3)) (show hs (us x.1.kd) 8192 = false by rw [kx]; exact (hs_key hk).trans (decide_eq_false c4))]
  have q1 : (s1 x).2 = (0, s.data.toList.drop 10) := by
    show (rA x.2).2 = _
    rw [q0, rA_at s 4 10 rfl (by omega)]
  have vta : (s1 x).1.ta = av s 4 10 := by
    show (rA x.2).1 = _
    rw [q0, rA_at s 4 10 rfl (by omega)]
  have q2 : (s2 (s1 x)).2 = (0, s.data.toList.drop 16) := by
    show (rA (s1 x).2).2 = _
    rw [q1, rA_at s 10 16 rfl (by omega)]
  have vfa : (s2 (s1 x)).1.fa = av s 10 16 := by
    show (rA (s1 x).2).1 = _
    rw [q1, rA_at s 10 16 rfl (by omega)]
  have tlrt : bt n 1 = (fOf s).rt := by rw [← en]; rfl
  have tlmo : bt n 2 = (fOf s).mo := by rw [← en]; rfl
  have tlpw : bt n 4 = (fOf s).pw := by rw [← en]; rfl
  have tlst : bt n 8 = (fOf s).st := by rw [← en]; rfl
  have tlla : bt n 16 = (fOf s).la := by rw [← en]; rfl
  have tljo : bt n 32 = (fOf s).jo := by rw [← en]; rfl
  have tlpo : (n : Int) / 64 = (fOf s).po := by rw [← en]; rfl
  have hf := fr_ext (a := (s2 (s1 x)).1) (b := fOf s) ((s2_kd _).trans ((s1_kd _).trans ((fstp Fr.kd hx1 rfl : x.1.kd = k).trans ek.symm))) ((s2_rt _).trans ((s1_rt _).trans ((fstp Fr.rt hx1 rfl : x.1.rt = hs (n : Int) 1).trans (hb1.trans tlrt)))) ((s2_mo _).trans ((s1_mo _).trans ((fstp Fr.mo hx1 rfl : x.1.mo = hs (n : Int) 2).trans (hb2.trans tlmo)))) ((s2_pw _).trans ((s1_pw _).trans ((fstp Fr.pw hx1 rfl : x.1.pw = hs (n : Int) 4).trans (hb4.trans tlpw)))) ((s2_st _).trans ((s1_st _).trans ((fstp Fr.st hx1 rfl : x.1.st = hs (n : Int) 8).trans (hb8.trans tlst)))) ((s2_la _).trans ((s1_la _).trans ((fstp Fr.la hx1 rfl : x.1.la = hs (n : Int) 16).trans (hb16.trans tlla)))) ((s2_jo _).trans ((s1_jo _).trans ((fstp Fr.jo hx1 rfl : x.1.jo = hs (n : Int) 32).trans (hb32.trans tljo)))) ((s2_po _).trans ((s1_po _).trans ((fstp Fr.po hx1 rfl : x.1.po = (bits .and .i64 (n : Int) 192).tdiv 64).trans (hb64.trans tlpo)))) ((s2_du _).trans ((s1_du _).trans ((fstp Fr.du hx1 rfl : x.1.du = nv s 2 4).trans rfl))) ((s2_ta _).trans (vta.trans rfl)) (vfa.trans (if_pos (ek.symm ▸ c1)).symm) ((s2_th _).trans ((s1_th _).trans ((fstp Fr.th hx1 rfl : x.1.th = 0).trans (if_neg (ek.symm ▸ c2)).symm))) ((s2_sq _).trans ((s1_sq _).trans ((fstp Fr.sq hx1 rfl : x.1.sq = 0).trans (if_neg (ek.symm ▸ c2)).symm))) ((s2_fg _).trans ((s1_fg _).trans ((fstp Fr.fg hx1 rfl : x.1.fg = 0).trans (if_neg (ek.symm ▸ c2)).symm))) ((s2_ct _).trans ((s1_ct _).trans ((fstp Fr.ct hx1 rfl : x.1.ct = 0).trans (if_neg (ek.symm ▸ c3)).symm))) ((s2_ky _).trans ((s1_ky _).trans ((fstp Fr.ky hx1 rfl : x.1.ky = 0).trans (if_neg (ek.symm ▸ c4)).symm))) ((s2_cn _).trans ((s1_cn _).trans ((fstp Fr.cn hx1 rfl : x.1.cn = 0).trans (if_neg (ek.symm ▸ c4)).symm))) ((s2_bo _).trans ((s1_bo _).trans ((fstp Fr.bo hx1 rfl : x.1.bo = ⟨#[]⟩).trans rfl)))
  exact Prod.ext hf q2

theorem short_rts (s : ByteArray) (k : Int) (n : Nat) (ek : (oc s 0 : Int) = k) (en : oc s 1 = n) (hk : isK k) (hn : bits .andNot .i64 (n : Int) (us k) = 0) (c1 : fro k) (c2 : ¬ nb k) (c3 : ¬ pl k) (c4 : ¬ k = 18) (h2 : 2 ≤ s.size) (hz : s.size < 16) : (rR (rS (0, s.data.toList))).2.1 = 1 := by
  by_cases h4 : s.size < 4
  · have h := rS_short s k n ek en h2 h4 hk hn
    rw [rR_bad _ (by rw [h]; decide), h]
  have hx := rS_whole s k n ek en (by omega) hk hn
  obtain ⟨x, ex⟩ : ∃ x, x = rS (0, s.data.toList) := ⟨_, rfl⟩
  rw [← ex] at hx ⊢
  have hx1 : x.1 = f0 k (n : Int) (nv s 2 4) := congrArg Prod.fst hx
  have q0 : x.2 = (0, s.data.toList.drop 4) := congrArg Prod.snd hx
  have kx : x.1.kd = k := fstp Fr.kd hx1 rfl
  have hl := ba_len s
  have l0 : x.2.2.length = s.size - 4 := by rw [q0, List.length_drop, hl]
  clear hx ex
  refine short_of (by rw [q0]; exact .inl rfl) (fun h => ?_)
  rw [rR_rts (show hs (us x.1.kd) 256 = true by rw [kx]; exact (hs_from hk).trans (decide_eq_true c1)) (show hs (us x.1.kd) 512 = false by rw [kx]; exact (hs_third hk).trans (decide_eq_false c2)) (show hs (us x.1.kd) 1024 = false by rw [kx]; exact (hs_seq hk).trans (decide_eq_false c2)) (show hs (us x.1.kd) 4096 = false by rw [kx]; exact (hs_cat hk).trans (decide_eq_false c3)) (show hs (us x.1.kd) 8192 = false by rw [kx]; exact (hs_key hk).trans (decide_eq_false c4))] at h
  have n2 := sn2 (y := s1 x) h
  have n1 := sn1 (y := x) n2.1
  omega

set_option maxHeartbeats 2000000 in
theorem whole_cts (s : ByteArray) (k : Int) (n : Nat) (ek : (oc s 0 : Int) = k) (en : oc s 1 = n) (hk : isK k) (hn : bits .andNot .i64 (n : Int) (us k) = 0) (c1 : ¬ fro k) (c2 : ¬ nb k) (c3 : ¬ pl k) (c4 : ¬ k = 18) (hz : 10 ≤ s.size) : rR (rS (0, s.data.toList)) = (fOf s, (0, s.data.toList.drop 10)) := by
  have hx := rS_whole s k n ek en (by omega) hk hn
  obtain ⟨x, ex⟩ : ∃ x, x = rS (0, s.data.toList) := ⟨_, rfl⟩
  rw [← ex] at hx ⊢
  have hx1 : x.1 = f0 k (n : Int) (nv s 2 4) := congrArg Prod.fst hx
  have q0 : x.2 = (0, s.data.toList.drop 4) := congrArg Prod.snd hx
  have kx : x.1.kd = k := fstp Fr.kd hx1 rfl
  clear hx ex
  obtain ⟨hb1, hb2, hb4, hb8, hb16, hb32, hb64⟩ := flag_bt (n := n) (en ▸ oc_lt s 1)
  rw [rR_cts (show hs (us x.1.kd) 256 = false by rw [kx]; exact (hs_from hk).trans (decide_eq_false c1)) (show hs (us x.1.kd) 512 = false by rw [kx]; exact (hs_third hk).trans (decide_eq_false c2)) (show hs (us x.1.kd) 1024 = false by rw [kx]; exact (hs_seq hk).trans (decide_eq_false c2)) (show hs (us x.1.kd) 4096 = false by rw [kx]; exact (hs_cat hk).trans (decide_eq_false c3)) (show hs (us x.1.kd) 8192 = false by rw [kx]; exact (hs_key hk).trans (decide_eq_false c4))]
  have q1 : (s1 x).2 = (0, s.data.toList.drop 10) := by
    show (rA x.2).2 = _
    rw [q0, rA_at s 4 10 rfl (by omega)]
  have vta : (s1 x).1.ta = av s 4 10 := by
    show (rA x.2).1 = _
    rw [q0, rA_at s 4 10 rfl (by omega)]
  have tlrt : bt n 1 = (fOf s).rt := by rw [← en]; rfl
  have tlmo : bt n 2 = (fOf s).mo := by rw [← en]; rfl
  have tlpw : bt n 4 = (fOf s).pw := by rw [← en]; rfl
  have tlst : bt n 8 = (fOf s).st := by rw [← en]; rfl
  have tlla : bt n 16 = (fOf s).la := by rw [← en]; rfl
  have tljo : bt n 32 = (fOf s).jo := by rw [← en]; rfl
  have tlpo : (n : Int) / 64 = (fOf s).po := by rw [← en]; rfl
  have hf := fr_ext (a := (s1 x).1) (b := fOf s) ((s1_kd _).trans ((fstp Fr.kd hx1 rfl : x.1.kd = k).trans ek.symm)) ((s1_rt _).trans ((fstp Fr.rt hx1 rfl : x.1.rt = hs (n : Int) 1).trans (hb1.trans tlrt))) ((s1_mo _).trans ((fstp Fr.mo hx1 rfl : x.1.mo = hs (n : Int) 2).trans (hb2.trans tlmo))) ((s1_pw _).trans ((fstp Fr.pw hx1 rfl : x.1.pw = hs (n : Int) 4).trans (hb4.trans tlpw))) ((s1_st _).trans ((fstp Fr.st hx1 rfl : x.1.st = hs (n : Int) 8).trans (hb8.trans tlst))) ((s1_la _).trans ((fstp Fr.la hx1 rfl : x.1.la = hs (n : Int) 16).trans (hb16.trans tlla))) ((s1_jo _).trans ((fstp Fr.jo hx1 rfl : x.1.jo = hs (n : Int) 32).trans (hb32.trans tljo))) ((s1_po _).trans ((fstp Fr.po hx1 rfl : x.1.po = (bits .and .i64 (n : Int) 192).tdiv 64).trans (hb64.trans tlpo))) ((s1_du _).trans ((fstp Fr.du hx1 rfl : x.1.du = nv s 2 4).trans rfl)) (vta.trans rfl) ((s1_fa _).trans ((fstp Fr.fa hx1 rfl : x.1.fa = 0).trans (if_neg (ek.symm ▸ c1)).symm)) ((s1_th _).trans ((fstp Fr.th hx1 rfl : x.1.th = 0).trans (if_neg (ek.symm ▸ c2)).symm)) ((s1_sq _).trans ((fstp Fr.sq hx1 rfl : x.1.sq = 0).trans (if_neg (ek.symm ▸ c2)).symm)) ((s1_fg _).trans ((fstp Fr.fg hx1 rfl : x.1.fg = 0).trans (if_neg (ek.symm ▸ c2)).symm)) ((s1_ct _).trans ((fstp Fr.ct hx1 rfl : x.1.ct = 0).trans (if_neg (ek.symm ▸ c3)).symm)) ((s1_ky _).trans ((fstp Fr.ky hx1 rfl : x.1.ky = 0).trans (if_neg (ek.symm ▸ c4)).symm)) ((s1_cn _).trans ((fstp Fr.cn hx1 rfl : x.1.cn = 0).trans (if_neg (ek.symm ▸ c4)).symm)) ((s1_bo _).trans ((fstp Fr.bo hx1 rfl : x.1.bo = ⟨#[]⟩).trans rfl))
  exact Prod.ext hf q1

theorem short_cts (s : ByteArray) (k : Int) (n : Nat) (ek : (oc s 0 : Int) = k) (en : oc s 1 = n) (hk : isK k) (hn : bits .andNot .i64 (n : Int) (us k) = 0) (c1 : ¬ fro k) (c2 : ¬ nb k) (c3 : ¬ pl k) (c4 : ¬ k = 18) (h2 : 2 ≤ s.size) (hz : s.size < 10) : (rR (rS (0, s.data.toList))).2.1 = 1 := by
  by_cases h4 : s.size < 4
  · have h := rS_short s k n ek en h2 h4 hk hn
    rw [rR_bad _ (by rw [h]; decide), h]
  have hx := rS_whole s k n ek en (by omega) hk hn
  obtain ⟨x, ex⟩ : ∃ x, x = rS (0, s.data.toList) := ⟨_, rfl⟩
  rw [← ex] at hx ⊢
  have hx1 : x.1 = f0 k (n : Int) (nv s 2 4) := congrArg Prod.fst hx
  have q0 : x.2 = (0, s.data.toList.drop 4) := congrArg Prod.snd hx
  have kx : x.1.kd = k := fstp Fr.kd hx1 rfl
  have hl := ba_len s
  have l0 : x.2.2.length = s.size - 4 := by rw [q0, List.length_drop, hl]
  clear hx ex
  refine short_of (by rw [q0]; exact .inl rfl) (fun h => ?_)
  rw [rR_cts (show hs (us x.1.kd) 256 = false by rw [kx]; exact (hs_from hk).trans (decide_eq_false c1)) (show hs (us x.1.kd) 512 = false by rw [kx]; exact (hs_third hk).trans (decide_eq_false c2)) (show hs (us x.1.kd) 1024 = false by rw [kx]; exact (hs_seq hk).trans (decide_eq_false c2)) (show hs (us x.1.kd) 4096 = false by rw [kx]; exact (hs_cat hk).trans (decide_eq_false c3)) (show hs (us x.1.kd) 8192 = false by rw [kx]; exact (hs_key hk).trans (decide_eq_false c4))] at h
  have n1 := sn1 (y := x) h
  omega

set_option maxHeartbeats 2000000 in
theorem whole_null (s : ByteArray) (k : Int) (n : Nat) (ek : (oc s 0 : Int) = k) (en : oc s 1 = n) (hk : isK k) (hn : bits .andNot .i64 (n : Int) (us k) = 0) (c1 : fro k) (c2 : nb k) (c3 : pl k) (c4 : ¬ k = 18) (hz : 25 ≤ s.size) : rR (rS (0, s.data.toList)) = (fOf s, (0, s.data.toList.drop 25)) := by
  have hx := rS_whole s k n ek en (by omega) hk hn
  obtain ⟨x, ex⟩ : ∃ x, x = rS (0, s.data.toList) := ⟨_, rfl⟩
  rw [← ex] at hx ⊢
  have hx1 : x.1 = f0 k (n : Int) (nv s 2 4) := congrArg Prod.fst hx
  have q0 : x.2 = (0, s.data.toList.drop 4) := congrArg Prod.snd hx
  have kx : x.1.kd = k := fstp Fr.kd hx1 rfl
  clear hx ex
  obtain ⟨hb1, hb2, hb4, hb8, hb16, hb32, hb64⟩ := flag_bt (n := n) (en ▸ oc_lt s 1)
  rw [rR_null (show hs (us x.1.kd) 256 = true by rw [kx]; exact (hs_from hk).trans (decide_eq_true c1)) (show hs (us x.1.kd) 512 = true by rw [kx]; exact (hs_third hk).trans (decide_eq_true c2)) (show hs (us x.1.kd) 1024 = true by rw [kx]; exact (hs_seq hk).trans (decide_eq_true c2)) (show hs (us x.1.kd) 4096 = true by rw [kx]; exact (hs_cat hk).trans (decide_eq_true c3)) (show hs (us x.1.kd) 8192 = false by rw [kx]; exact (hs_key hk).trans (decide_eq_false c4))]
  have q1 : (s1 x).2 = (0, s.data.toList.drop 10) := by
    show (rA x.2).2 = _
    rw [q0, rA_at s 4 10 rfl (by omega)]
  have vta : (s1 x).1.ta = av s 4 10 := by
    show (rA x.2).1 = _
    rw [q0, rA_at s 4 10 rfl (by omega)]
  have q2 : (s2 (s1 x)).2 = (0, s.data.toList.drop 16) := by
    show (rA (s1 x).2).2 = _
    rw [q1, rA_at s 10 16 rfl (by omega)]
  have vfa : (s2 (s1 x)).1.fa = av s 10 16 := by
    show (rA (s1 x).2).1 = _
    rw [q1, rA_at s 10 16 rfl (by omega)]
  have q3 : (s3 (s2 (s1 x))).2 = (0, s.data.toList.drop 22) := by
    show (rA (s2 (s1 x)).2).2 = _
    rw [q2, rA_at s 16 22 rfl (by omega)]
  have vth : (s3 (s2 (s1 x))).1.th = av s 16 22 := by
    show (rA (s2 (s1 x)).2).1 = _
    rw [q2, rA_at s 16 22 rfl (by omega)]
  have q4 : (s4 (s3 (s2 (s1 x)))).2 = (0, s.data.toList.drop 24) := by
    show (rN 2 (s3 (s2 (s1 x))).2).2 = _
    rw [q3, rN_at s 22 24 2 rfl (by omega)]
  have vsq : (s4 (s3 (s2 (s1 x)))).1.sq = nv s 22 24 / 16 := by
    show (rN 2 (s3 (s2 (s1 x))).2).1.tdiv 16 = _
    rw [q3, rN_at s 22 24 2 rfl (by omega)]
    exact Int.tdiv_eq_ediv_of_nonneg (nv_lt (by omega)).1
  have vfg : (s4 (s3 (s2 (s1 x)))).1.fg = nv s 22 24 % 16 := by
    show (rN 2 (s3 (s2 (s1 x))).2).1.tmod 16 = _
    rw [q3, rN_at s 22 24 2 rfl (by omega)]
    exact Int.tmod_eq_emod_of_nonneg (nv_lt (by omega)).1
  have q5 : (s5 (s4 (s3 (s2 (s1 x))))).2 = (0, s.data.toList.drop 25) := by
    show (rN 1 (s4 (s3 (s2 (s1 x)))).2).2 = _
    rw [q4, rN_at s 24 25 1 rfl (by omega)]
  have vct : (s5 (s4 (s3 (s2 (s1 x))))).1.ct = (oc s 24 : Int) := by
    show (rN 1 (s4 (s3 (s2 (s1 x)))).2).1 = _
    rw [q4, rN_at s 24 25 1 rfl (by omega)]
    exact nv_oc s 24 (by omega)
  have tlrt : bt n 1 = (fOf s).rt := by rw [← en]; rfl
  have tlmo : bt n 2 = (fOf s).mo := by rw [← en]; rfl
  have tlpw : bt n 4 = (fOf s).pw := by rw [← en]; rfl
  have tlst : bt n 8 = (fOf s).st := by rw [← en]; rfl
  have tlla : bt n 16 = (fOf s).la := by rw [← en]; rfl
  have tljo : bt n 32 = (fOf s).jo := by rw [← en]; rfl
  have tlpo : (n : Int) / 64 = (fOf s).po := by rw [← en]; rfl
  have hf := fr_ext (a := (s5 (s4 (s3 (s2 (s1 x))))).1) (b := fOf s) ((s5_kd _).trans ((s4_kd _).trans ((s3_kd _).trans ((s2_kd _).trans ((s1_kd _).trans ((fstp Fr.kd hx1 rfl : x.1.kd = k).trans ek.symm)))))) ((s5_rt _).trans ((s4_rt _).trans ((s3_rt _).trans ((s2_rt _).trans ((s1_rt _).trans ((fstp Fr.rt hx1 rfl : x.1.rt = hs (n : Int) 1).trans (hb1.trans tlrt))))))) ((s5_mo _).trans ((s4_mo _).trans ((s3_mo _).trans ((s2_mo _).trans ((s1_mo _).trans ((fstp Fr.mo hx1 rfl : x.1.mo = hs (n : Int) 2).trans (hb2.trans tlmo))))))) ((s5_pw _).trans ((s4_pw _).trans ((s3_pw _).trans ((s2_pw _).trans ((s1_pw _).trans ((fstp Fr.pw hx1 rfl : x.1.pw = hs (n : Int) 4).trans (hb4.trans tlpw))))))) ((s5_st _).trans ((s4_st _).trans ((s3_st _).trans ((s2_st _).trans ((s1_st _).trans ((fstp Fr.st hx1 rfl : x.1.st = hs (n : Int) 8).trans (hb8.trans tlst))))))) ((s5_la _).trans ((s4_la _).trans ((s3_la _).trans ((s2_la _).trans ((s1_la _).trans ((fstp Fr.la hx1 rfl : x.1.la = hs (n : Int) 16).trans (hb16.trans tlla))))))) ((s5_jo _).trans ((s4_jo _).trans ((s3_jo _).trans ((s2_jo _).trans ((s1_jo _).trans ((fstp Fr.jo hx1 rfl : x.1.jo = hs (n : Int) 32).trans (hb32.trans tljo))))))) ((s5_po _).trans ((s4_po _).trans ((s3_po _).trans ((s2_po _).trans ((s1_po _).trans ((fstp Fr.po hx1 rfl : x.1.po = (bits .and .i64 (n : Int) 192).tdiv 64).trans (hb64.trans tlpo))))))) ((s5_du _).trans ((s4_du _).trans ((s3_du _).trans ((s2_du _).trans ((s1_du _).trans ((fstp Fr.du hx1 rfl : x.1.du = nv s 2 4).trans rfl)))))) ((s5_ta _).trans ((s4_ta _).trans ((s3_ta _).trans ((s2_ta _).trans (vta.trans rfl))))) ((s5_fa _).trans ((s4_fa _).trans ((s3_fa _).trans (vfa.trans (if_pos (ek.symm ▸ c1)).symm)))) ((s5_th _).trans ((s4_th _).trans (vth.trans (if_pos (ek.symm ▸ c2)).symm))) ((s5_sq _).trans (vsq.trans (if_pos (ek.symm ▸ c2)).symm)) ((s5_fg _).trans (vfg.trans (if_pos (ek.symm ▸ c2)).symm)) (vct.trans (if_pos (ek.symm ▸ c3)).symm) ((s5_ky _).trans ((s4_ky _).trans ((s3_ky _).trans ((s2_ky _).trans ((s1_ky _).trans ((fstp Fr.ky hx1 rfl : x.1.ky = 0).trans (if_neg (ek.symm ▸ c4)).symm)))))) ((s5_cn _).trans ((s4_cn _).trans ((s3_cn _).trans ((s2_cn _).trans ((s1_cn _).trans ((fstp Fr.cn hx1 rfl : x.1.cn = 0).trans (if_neg (ek.symm ▸ c4)).symm)))))) ((s5_bo _).trans ((s4_bo _).trans ((s3_bo _).trans ((s2_bo _).trans ((s1_bo _).trans ((fstp Fr.bo hx1 rfl : x.1.bo = ⟨#[]⟩).trans rfl))))))
  exact Prod.ext hf q5

theorem short_null (s : ByteArray) (k : Int) (n : Nat) (ek : (oc s 0 : Int) = k) (en : oc s 1 = n) (hk : isK k) (hn : bits .andNot .i64 (n : Int) (us k) = 0) (c1 : fro k) (c2 : nb k) (c3 : pl k) (c4 : ¬ k = 18) (h2 : 2 ≤ s.size) (hz : s.size < 25) : (rR (rS (0, s.data.toList))).2.1 = 1 := by
  by_cases h4 : s.size < 4
  · have h := rS_short s k n ek en h2 h4 hk hn
    rw [rR_bad _ (by rw [h]; decide), h]
  have hx := rS_whole s k n ek en (by omega) hk hn
  obtain ⟨x, ex⟩ : ∃ x, x = rS (0, s.data.toList) := ⟨_, rfl⟩
  rw [← ex] at hx ⊢
  have hx1 : x.1 = f0 k (n : Int) (nv s 2 4) := congrArg Prod.fst hx
  have q0 : x.2 = (0, s.data.toList.drop 4) := congrArg Prod.snd hx
  have kx : x.1.kd = k := fstp Fr.kd hx1 rfl
  have hl := ba_len s
  have l0 : x.2.2.length = s.size - 4 := by rw [q0, List.length_drop, hl]
  clear hx ex
  refine short_of (by rw [q0]; exact .inl rfl) (fun h => ?_)
  rw [rR_null (show hs (us x.1.kd) 256 = true by rw [kx]; exact (hs_from hk).trans (decide_eq_true c1)) (show hs (us x.1.kd) 512 = true by rw [kx]; exact (hs_third hk).trans (decide_eq_true c2)) (show hs (us x.1.kd) 1024 = true by rw [kx]; exact (hs_seq hk).trans (decide_eq_true c2)) (show hs (us x.1.kd) 4096 = true by rw [kx]; exact (hs_cat hk).trans (decide_eq_true c3)) (show hs (us x.1.kd) 8192 = false by rw [kx]; exact (hs_key hk).trans (decide_eq_false c4))] at h
  have n5 := sn5 (y := s4 (s3 (s2 (s1 x)))) h
  have n4 := sn4 (y := s3 (s2 (s1 x))) n5.1
  have n3 := sn3 (y := s2 (s1 x)) n4.1
  have n2 := sn2 (y := s1 x) n3.1
  have n1 := sn1 (y := x) n2.1
  omega

set_option maxHeartbeats 2000000 in
theorem whole_nokey (s : ByteArray) (k : Int) (n : Nat) (ek : (oc s 0 : Int) = k) (en : oc s 1 = n) (hk : isK k) (hn : bits .andNot .i64 (n : Int) (us k) = 0) (c1 : fro k) (c2 : nb k) (c3 : pl k) (c4 : k = 18) (hz : 27 ≤ s.size) (hky : nv s 25 27 = 0) : rR (rS (0, s.data.toList)) = (fOf s, (0, s.data.toList.drop 27)) := by
  have hx := rS_whole s k n ek en (by omega) hk hn
  obtain ⟨x, ex⟩ : ∃ x, x = rS (0, s.data.toList) := ⟨_, rfl⟩
  rw [← ex] at hx ⊢
  have hx1 : x.1 = f0 k (n : Int) (nv s 2 4) := congrArg Prod.fst hx
  have q0 : x.2 = (0, s.data.toList.drop 4) := congrArg Prod.snd hx
  have kx : x.1.kd = k := fstp Fr.kd hx1 rfl
  clear hx ex
  obtain ⟨hb1, hb2, hb4, hb8, hb16, hb32, hb64⟩ := flag_bt (n := n) (en ▸ oc_lt s 1)
  have hD := rR_data (show hs (us x.1.kd) 256 = true by rw [kx]; exact (hs_from hk).trans (decide_eq_true c1)) (show hs (us x.1.kd) 512 = true by rw [kx]; exact (hs_third hk).trans (decide_eq_true c2)) (show hs (us x.1.kd) 1024 = true by rw [kx]; exact (hs_seq hk).trans (decide_eq_true c2)) (show hs (us x.1.kd) 4096 = true by rw [kx]; exact (hs_cat hk).trans (decide_eq_true c3)) (show hs (us x.1.kd) 8192 = true by rw [kx]; exact (hs_key hk).trans (decide_eq_true c4))
  have q1 : (s1 x).2 = (0, s.data.toList.drop 10) := by
    show (rA x.2).2 = _
    rw [q0, rA_at s 4 10 rfl (by omega)]
  have vta : (s1 x).1.ta = av s 4 10 := by
    show (rA x.2).1 = _
    rw [q0, rA_at s 4 10 rfl (by omega)]
  have q2 : (s2 (s1 x)).2 = (0, s.data.toList.drop 16) := by
    show (rA (s1 x).2).2 = _
    rw [q1, rA_at s 10 16 rfl (by omega)]
  have vfa : (s2 (s1 x)).1.fa = av s 10 16 := by
    show (rA (s1 x).2).1 = _
    rw [q1, rA_at s 10 16 rfl (by omega)]
  have q3 : (s3 (s2 (s1 x))).2 = (0, s.data.toList.drop 22) := by
    show (rA (s2 (s1 x)).2).2 = _
    rw [q2, rA_at s 16 22 rfl (by omega)]
  have vth : (s3 (s2 (s1 x))).1.th = av s 16 22 := by
    show (rA (s2 (s1 x)).2).1 = _
    rw [q2, rA_at s 16 22 rfl (by omega)]
  have q4 : (s4 (s3 (s2 (s1 x)))).2 = (0, s.data.toList.drop 24) := by
    show (rN 2 (s3 (s2 (s1 x))).2).2 = _
    rw [q3, rN_at s 22 24 2 rfl (by omega)]
  have vsq : (s4 (s3 (s2 (s1 x)))).1.sq = nv s 22 24 / 16 := by
    show (rN 2 (s3 (s2 (s1 x))).2).1.tdiv 16 = _
    rw [q3, rN_at s 22 24 2 rfl (by omega)]
    exact Int.tdiv_eq_ediv_of_nonneg (nv_lt (by omega)).1
  have vfg : (s4 (s3 (s2 (s1 x)))).1.fg = nv s 22 24 % 16 := by
    show (rN 2 (s3 (s2 (s1 x))).2).1.tmod 16 = _
    rw [q3, rN_at s 22 24 2 rfl (by omega)]
    exact Int.tmod_eq_emod_of_nonneg (nv_lt (by omega)).1
  have q5 : (s5 (s4 (s3 (s2 (s1 x))))).2 = (0, s.data.toList.drop 25) := by
    show (rN 1 (s4 (s3 (s2 (s1 x)))).2).2 = _
    rw [q4, rN_at s 24 25 1 rfl (by omega)]
  have vct : (s5 (s4 (s3 (s2 (s1 x))))).1.ct = (oc s 24 : Int) := by
    show (rN 1 (s4 (s3 (s2 (s1 x)))).2).1 = _
    rw [q4, rN_at s 24 25 1 rfl (by omega)]
    exact nv_oc s 24 (by omega)
  have z6 : (rN 2 (s5 (s4 (s3 (s2 (s1 x))))).2).1 = nv s 25 27 := by rw [q5, rN_at s 25 27 2 rfl (by omega)]
  have q6 : (s6 (s5 (s4 (s3 (s2 (s1 x)))))).2 = (0, s.data.toList.drop 27) := by
    show (rN 2 (s5 (s4 (s3 (s2 (s1 x))))).2).2 = _
    rw [q5, rN_at s 25 27 2 rfl (by omega)]
  have vky : (s6 (s5 (s4 (s3 (s2 (s1 x)))))).1.ky = nv s 25 27 := by
    show (rN 2 (s5 (s4 (s3 (s2 (s1 x))))).2).1 = _
    rw [q5, rN_at s 25 27 2 rfl (by omega)]
  rw [if_pos (z6.trans hky)] at hD
  rw [hD]
  have tlrt : bt n 1 = (fOf s).rt := by rw [← en]; rfl
  have tlmo : bt n 2 = (fOf s).mo := by rw [← en]; rfl
  have tlpw : bt n 4 = (fOf s).pw := by rw [← en]; rfl
  have tlst : bt n 8 = (fOf s).st := by rw [← en]; rfl
  have tlla : bt n 16 = (fOf s).la := by rw [← en]; rfl
  have tljo : bt n 32 = (fOf s).jo := by rw [← en]; rfl
  have tlpo : (n : Int) / 64 = (fOf s).po := by rw [← en]; rfl
  have hf := fr_ext (a := (s6 (s5 (s4 (s3 (s2 (s1 x)))))).1) (b := fOf s) ((s6_kd _).trans ((s5_kd _).trans ((s4_kd _).trans ((s3_kd _).trans ((s2_kd _).trans ((s1_kd _).trans ((fstp Fr.kd hx1 rfl : x.1.kd = k).trans ek.symm))))))) ((s6_rt _).trans ((s5_rt _).trans ((s4_rt _).trans ((s3_rt _).trans ((s2_rt _).trans ((s1_rt _).trans ((fstp Fr.rt hx1 rfl : x.1.rt = hs (n : Int) 1).trans (hb1.trans tlrt)))))))) ((s6_mo _).trans ((s5_mo _).trans ((s4_mo _).trans ((s3_mo _).trans ((s2_mo _).trans ((s1_mo _).trans ((fstp Fr.mo hx1 rfl : x.1.mo = hs (n : Int) 2).trans (hb2.trans tlmo)))))))) ((s6_pw _).trans ((s5_pw _).trans ((s4_pw _).trans ((s3_pw _).trans ((s2_pw _).trans ((s1_pw _).trans ((fstp Fr.pw hx1 rfl : x.1.pw = hs (n : Int) 4).trans (hb4.trans tlpw)))))))) ((s6_st _).trans ((s5_st _).trans ((s4_st _).trans ((s3_st _).trans ((s2_st _).trans ((s1_st _).trans ((fstp Fr.st hx1 rfl : x.1.st = hs (n : Int) 8).trans (hb8.trans tlst)))))))) ((s6_la _).trans ((s5_la _).trans ((s4_la _).trans ((s3_la _).trans ((s2_la _).trans ((s1_la _).trans ((fstp Fr.la hx1 rfl : x.1.la = hs (n : Int) 16).trans (hb16.trans tlla)))))))) ((s6_jo _).trans ((s5_jo _).trans ((s4_jo _).trans ((s3_jo _).trans ((s2_jo _).trans ((s1_jo _).trans ((fstp Fr.jo hx1 rfl : x.1.jo = hs (n : Int) 32).trans (hb32.trans tljo)))))))) ((s6_po _).trans ((s5_po _).trans ((s4_po _).trans ((s3_po _).trans ((s2_po _).trans ((s1_po _).trans ((fstp Fr.po hx1 rfl : x.1.po = (bits .and .i64 (n : Int) 192).tdiv 64).trans (hb64.trans tlpo)))))))) ((s6_du _).trans ((s5_du _).trans ((s4_du _).trans ((s3_du _).trans ((s2_du _).trans ((s1_du _).trans ((fstp Fr.du hx1 rfl : x.1.du = nv s 2 4).trans rfl))))))) ((s6_ta _).trans ((s5_ta _).trans ((s4_ta _).trans ((s3_ta _).trans ((s2_ta _).trans (vta.trans rfl)))))) ((s6_fa _).trans ((s5_fa _).trans ((s4_fa _).trans ((s3_fa _).trans (vfa.trans (if_pos (ek.symm ▸ c1)).symm))))) ((s6_th _).trans ((s5_th _).trans ((s4_th _).trans (vth.trans (if_pos (ek.symm ▸ c2)).symm)))) ((s6_sq _).trans ((s5_sq _).trans (vsq.trans (if_pos (ek.symm ▸ c2)).symm))) ((s6_fg _).trans ((s5_fg _).trans (vfg.trans (if_pos (ek.symm ▸ c2)).symm))) ((s6_ct _).trans (vct.trans (if_pos (ek.symm ▸ c3)).symm)) (vky.trans (if_pos (ek.symm ▸ c4)).symm) ((s6_cn _).trans ((s5_cn _).trans ((s4_cn _).trans ((s3_cn _).trans ((s2_cn _).trans ((s1_cn _).trans ((fstp Fr.cn hx1 rfl : x.1.cn = 0).trans ((if_pos hky).symm.trans (if_pos (ek.symm ▸ c4)).symm)))))))) ((s6_bo _).trans ((s5_bo _).trans ((s4_bo _).trans ((s3_bo _).trans ((s2_bo _).trans ((s1_bo _).trans ((fstp Fr.bo hx1 rfl : x.1.bo = ⟨#[]⟩).trans rfl)))))))
  exact Prod.ext hf q6

theorem short_nokey (s : ByteArray) (k : Int) (n : Nat) (ek : (oc s 0 : Int) = k) (en : oc s 1 = n) (hk : isK k) (hn : bits .andNot .i64 (n : Int) (us k) = 0) (c1 : fro k) (c2 : nb k) (c3 : pl k) (c4 : k = 18) (h2 : 2 ≤ s.size) (hz : s.size < 27) : (rR (rS (0, s.data.toList))).2.1 = 1 := by
  by_cases h4 : s.size < 4
  · have h := rS_short s k n ek en h2 h4 hk hn
    rw [rR_bad _ (by rw [h]; decide), h]
  have hx := rS_whole s k n ek en (by omega) hk hn
  obtain ⟨x, ex⟩ : ∃ x, x = rS (0, s.data.toList) := ⟨_, rfl⟩
  rw [← ex] at hx ⊢
  have hx1 : x.1 = f0 k (n : Int) (nv s 2 4) := congrArg Prod.fst hx
  have q0 : x.2 = (0, s.data.toList.drop 4) := congrArg Prod.snd hx
  have kx : x.1.kd = k := fstp Fr.kd hx1 rfl
  have hl := ba_len s
  have l0 : x.2.2.length = s.size - 4 := by rw [q0, List.length_drop, hl]
  clear hx ex
  refine short_of (by rw [q0]; exact .inl rfl) (fun h => ?_)
  rw [rR_data (show hs (us x.1.kd) 256 = true by rw [kx]; exact (hs_from hk).trans (decide_eq_true c1)) (show hs (us x.1.kd) 512 = true by rw [kx]; exact (hs_third hk).trans (decide_eq_true c2)) (show hs (us x.1.kd) 1024 = true by rw [kx]; exact (hs_seq hk).trans (decide_eq_true c2)) (show hs (us x.1.kd) 4096 = true by rw [kx]; exact (hs_cat hk).trans (decide_eq_true c3)) (show hs (us x.1.kd) 8192 = true by rw [kx]; exact (hs_key hk).trans (decide_eq_true c4))] at h
  split at h
  · skip
    have n6 := sn6 (y := s5 (s4 (s3 (s2 (s1 x))))) h
    have n5 := sn5 (y := s4 (s3 (s2 (s1 x)))) n6.1
    have n4 := sn4 (y := s3 (s2 (s1 x))) n5.1
    have n3 := sn3 (y := s2 (s1 x)) n4.1
    have n2 := sn2 (y := s1 x) n3.1
    have n1 := sn1 (y := x) n2.1
    omega
  · skip
    have n7 := sn7 (y := s6 (s5 (s4 (s3 (s2 (s1 x)))))) h
    have n6 := sn6 (y := s5 (s4 (s3 (s2 (s1 x))))) n7.1
    have n5 := sn5 (y := s4 (s3 (s2 (s1 x)))) n6.1
    have n4 := sn4 (y := s3 (s2 (s1 x))) n5.1
    have n3 := sn3 (y := s2 (s1 x)) n4.1
    have n2 := sn2 (y := s1 x) n3.1
    have n1 := sn1 (y := x) n2.1
    omega

set_option maxHeartbeats 2000000 in
theorem whole_keyed (s : ByteArray) (k : Int) (n : Nat) (ek : (oc s 0 : Int) = k) (en : oc s 1 = n) (hk : isK k) (hn : bits .andNot .i64 (n : Int) (us k) = 0) (c1 : fro k) (c2 : nb k) (c3 : pl k) (c4 : k = 18) (hz : 32 ≤ s.size) (hky : ¬ nv s 25 27 = 0) : rR (rS (0, s.data.toList)) = (fOf s, (0, s.data.toList.drop 32)) := by
  have hx := rS_whole s k n ek en (by omega) hk hn
  obtain ⟨x, ex⟩ : ∃ x, x = rS (0, s.data.toList) := ⟨_, rfl⟩
  rw [← ex] at hx ⊢
  have hx1 : x.1 = f0 k (n : Int) (nv s 2 4) := congrArg Prod.fst hx
  have q0 : x.2 = (0, s.data.toList.drop 4) := congrArg Prod.snd hx
  have kx : x.1.kd = k := fstp Fr.kd hx1 rfl
  clear hx ex
  obtain ⟨hb1, hb2, hb4, hb8, hb16, hb32, hb64⟩ := flag_bt (n := n) (en ▸ oc_lt s 1)
  have hD := rR_data (show hs (us x.1.kd) 256 = true by rw [kx]; exact (hs_from hk).trans (decide_eq_true c1)) (show hs (us x.1.kd) 512 = true by rw [kx]; exact (hs_third hk).trans (decide_eq_true c2)) (show hs (us x.1.kd) 1024 = true by rw [kx]; exact (hs_seq hk).trans (decide_eq_true c2)) (show hs (us x.1.kd) 4096 = true by rw [kx]; exact (hs_cat hk).trans (decide_eq_true c3)) (show hs (us x.1.kd) 8192 = true by rw [kx]; exact (hs_key hk).trans (decide_eq_true c4))
  have q1 : (s1 x).2 = (0, s.data.toList.drop 10) := by
    show (rA x.2).2 = _
    rw [q0, rA_at s 4 10 rfl (by omega)]
  have vta : (s1 x).1.ta = av s 4 10 := by
    show (rA x.2).1 = _
    rw [q0, rA_at s 4 10 rfl (by omega)]
  have q2 : (s2 (s1 x)).2 = (0, s.data.toList.drop 16) := by
    show (rA (s1 x).2).2 = _
    rw [q1, rA_at s 10 16 rfl (by omega)]
  have vfa : (s2 (s1 x)).1.fa = av s 10 16 := by
    show (rA (s1 x).2).1 = _
    rw [q1, rA_at s 10 16 rfl (by omega)]
  have q3 : (s3 (s2 (s1 x))).2 = (0, s.data.toList.drop 22) := by
    show (rA (s2 (s1 x)).2).2 = _
    rw [q2, rA_at s 16 22 rfl (by omega)]
  have vth : (s3 (s2 (s1 x))).1.th = av s 16 22 := by
    show (rA (s2 (s1 x)).2).1 = _
    rw [q2, rA_at s 16 22 rfl (by omega)]
  have q4 : (s4 (s3 (s2 (s1 x)))).2 = (0, s.data.toList.drop 24) := by
    show (rN 2 (s3 (s2 (s1 x))).2).2 = _
    rw [q3, rN_at s 22 24 2 rfl (by omega)]
  have vsq : (s4 (s3 (s2 (s1 x)))).1.sq = nv s 22 24 / 16 := by
    show (rN 2 (s3 (s2 (s1 x))).2).1.tdiv 16 = _
    rw [q3, rN_at s 22 24 2 rfl (by omega)]
    exact Int.tdiv_eq_ediv_of_nonneg (nv_lt (by omega)).1
  have vfg : (s4 (s3 (s2 (s1 x)))).1.fg = nv s 22 24 % 16 := by
    show (rN 2 (s3 (s2 (s1 x))).2).1.tmod 16 = _
    rw [q3, rN_at s 22 24 2 rfl (by omega)]
    exact Int.tmod_eq_emod_of_nonneg (nv_lt (by omega)).1
  have q5 : (s5 (s4 (s3 (s2 (s1 x))))).2 = (0, s.data.toList.drop 25) := by
    show (rN 1 (s4 (s3 (s2 (s1 x)))).2).2 = _
    rw [q4, rN_at s 24 25 1 rfl (by omega)]
  have vct : (s5 (s4 (s3 (s2 (s1 x))))).1.ct = (oc s 24 : Int) := by
    show (rN 1 (s4 (s3 (s2 (s1 x)))).2).1 = _
    rw [q4, rN_at s 24 25 1 rfl (by omega)]
    exact nv_oc s 24 (by omega)
  have z6 : (rN 2 (s5 (s4 (s3 (s2 (s1 x))))).2).1 = nv s 25 27 := by rw [q5, rN_at s 25 27 2 rfl (by omega)]
  have q6 : (s6 (s5 (s4 (s3 (s2 (s1 x)))))).2 = (0, s.data.toList.drop 27) := by
    show (rN 2 (s5 (s4 (s3 (s2 (s1 x))))).2).2 = _
    rw [q5, rN_at s 25 27 2 rfl (by omega)]
  have vky : (s6 (s5 (s4 (s3 (s2 (s1 x)))))).1.ky = nv s 25 27 := by
    show (rN 2 (s5 (s4 (s3 (s2 (s1 x))))).2).1 = _
    rw [q5, rN_at s 25 27 2 rfl (by omega)]
  have q7 : (s7 (s6 (s5 (s4 (s3 (s2 (s1 x))))))).2 = (0, s.data.toList.drop 32) := by
    show (rN 5 (s6 (s5 (s4 (s3 (s2 (s1 x)))))).2).2 = _
    rw [q6, rN_at s 27 32 5 rfl (by omega)]
  have vcn : (s7 (s6 (s5 (s4 (s3 (s2 (s1 x))))))).1.cn = nv s 27 32 := by
    show (rN 5 (s6 (s5 (s4 (s3 (s2 (s1 x)))))).2).1 = _
    rw [q6, rN_at s 27 32 5 rfl (by omega)]
  rw [if_neg (fun h => hky (z6.symm.trans h))] at hD
  rw [hD]
  have tlrt : bt n 1 = (fOf s).rt := by rw [← en]; rfl
  have tlmo : bt n 2 = (fOf s).mo := by rw [← en]; rfl
  have tlpw : bt n 4 = (fOf s).pw := by rw [← en]; rfl
  have tlst : bt n 8 = (fOf s).st := by rw [← en]; rfl
  have tlla : bt n 16 = (fOf s).la := by rw [← en]; rfl
  have tljo : bt n 32 = (fOf s).jo := by rw [← en]; rfl
  have tlpo : (n : Int) / 64 = (fOf s).po := by rw [← en]; rfl
  have hf := fr_ext (a := (s7 (s6 (s5 (s4 (s3 (s2 (s1 x))))))).1) (b := fOf s) ((s7_kd _).trans ((s6_kd _).trans ((s5_kd _).trans ((s4_kd _).trans ((s3_kd _).trans ((s2_kd _).trans ((s1_kd _).trans ((fstp Fr.kd hx1 rfl : x.1.kd = k).trans ek.symm)))))))) ((s7_rt _).trans ((s6_rt _).trans ((s5_rt _).trans ((s4_rt _).trans ((s3_rt _).trans ((s2_rt _).trans ((s1_rt _).trans ((fstp Fr.rt hx1 rfl : x.1.rt = hs (n : Int) 1).trans (hb1.trans tlrt))))))))) ((s7_mo _).trans ((s6_mo _).trans ((s5_mo _).trans ((s4_mo _).trans ((s3_mo _).trans ((s2_mo _).trans ((s1_mo _).trans ((fstp Fr.mo hx1 rfl : x.1.mo = hs (n : Int) 2).trans (hb2.trans tlmo))))))))) ((s7_pw _).trans ((s6_pw _).trans ((s5_pw _).trans ((s4_pw _).trans ((s3_pw _).trans ((s2_pw _).trans ((s1_pw _).trans ((fstp Fr.pw hx1 rfl : x.1.pw = hs (n : Int) 4).trans (hb4.trans tlpw))))))))) ((s7_st _).trans ((s6_st _).trans ((s5_st _).trans ((s4_st _).trans ((s3_st _).trans ((s2_st _).trans ((s1_st _).trans ((fstp Fr.st hx1 rfl : x.1.st = hs (n : Int) 8).trans (hb8.trans tlst))))))))) ((s7_la _).trans ((s6_la _).trans ((s5_la _).trans ((s4_la _).trans ((s3_la _).trans ((s2_la _).trans ((s1_la _).trans ((fstp Fr.la hx1 rfl : x.1.la = hs (n : Int) 16).trans (hb16.trans tlla))))))))) ((s7_jo _).trans ((s6_jo _).trans ((s5_jo _).trans ((s4_jo _).trans ((s3_jo _).trans ((s2_jo _).trans ((s1_jo _).trans ((fstp Fr.jo hx1 rfl : x.1.jo = hs (n : Int) 32).trans (hb32.trans tljo))))))))) ((s7_po _).trans ((s6_po _).trans ((s5_po _).trans ((s4_po _).trans ((s3_po _).trans ((s2_po _).trans ((s1_po _).trans ((fstp Fr.po hx1 rfl : x.1.po = (bits .and .i64 (n : Int) 192).tdiv 64).trans (hb64.trans tlpo))))))))) ((s7_du _).trans ((s6_du _).trans ((s5_du _).trans ((s4_du _).trans ((s3_du _).trans ((s2_du _).trans ((s1_du _).trans ((fstp Fr.du hx1 rfl : x.1.du = nv s 2 4).trans rfl)))))))) ((s7_ta _).trans ((s6_ta _).trans ((s5_ta _).trans ((s4_ta _).trans ((s3_ta _).trans ((s2_ta _).trans (vta.trans rfl))))))) ((s7_fa _).trans ((s6_fa _).trans ((s5_fa _).trans ((s4_fa _).trans ((s3_fa _).trans (vfa.trans (if_pos (ek.symm ▸ c1)).symm)))))) ((s7_th _).trans ((s6_th _).trans ((s5_th _).trans ((s4_th _).trans (vth.trans (if_pos (ek.symm ▸ c2)).symm))))) ((s7_sq _).trans ((s6_sq _).trans ((s5_sq _).trans (vsq.trans (if_pos (ek.symm ▸ c2)).symm)))) ((s7_fg _).trans ((s6_fg _).trans ((s5_fg _).trans (vfg.trans (if_pos (ek.symm ▸ c2)).symm)))) ((s7_ct _).trans ((s6_ct _).trans (vct.trans (if_pos (ek.symm ▸ c3)).symm))) ((s7_ky _).trans (vky.trans (if_pos (ek.symm ▸ c4)).symm)) (vcn.trans ((if_neg hky).symm.trans (if_pos (ek.symm ▸ c4)).symm)) ((s7_bo _).trans ((s6_bo _).trans ((s5_bo _).trans ((s4_bo _).trans ((s3_bo _).trans ((s2_bo _).trans ((s1_bo _).trans ((fstp Fr.bo hx1 rfl : x.1.bo = ⟨#[]⟩).trans rfl))))))))
  exact Prod.ext hf q7

theorem short_keyed (s : ByteArray) (k : Int) (n : Nat) (ek : (oc s 0 : Int) = k) (en : oc s 1 = n) (hk : isK k) (hn : bits .andNot .i64 (n : Int) (us k) = 0) (c1 : fro k) (c2 : nb k) (c3 : pl k) (c4 : k = 18) (h2 : 2 ≤ s.size) (hz : s.size < 32) (h27 : 27 ≤ s.size) (hky : ¬ nv s 25 27 = 0) : (rR (rS (0, s.data.toList))).2.1 = 1 := by
  by_cases h4 : s.size < 4
  · have h := rS_short s k n ek en h2 h4 hk hn
    rw [rR_bad _ (by rw [h]; decide), h]
  have hx := rS_whole s k n ek en (by omega) hk hn
  obtain ⟨x, ex⟩ : ∃ x, x = rS (0, s.data.toList) := ⟨_, rfl⟩
  rw [← ex] at hx ⊢
  have hx1 : x.1 = f0 k (n : Int) (nv s 2 4) := congrArg Prod.fst hx
  have q0 : x.2 = (0, s.data.toList.drop 4) := congrArg Prod.snd hx
  have kx : x.1.kd = k := fstp Fr.kd hx1 rfl
  have hl := ba_len s
  have l0 : x.2.2.length = s.size - 4 := by rw [q0, List.length_drop, hl]
  clear hx ex
  refine short_of (by rw [q0]; exact .inl rfl) (fun h => ?_)
  rw [rR_data (show hs (us x.1.kd) 256 = true by rw [kx]; exact (hs_from hk).trans (decide_eq_true c1)) (show hs (us x.1.kd) 512 = true by rw [kx]; exact (hs_third hk).trans (decide_eq_true c2)) (show hs (us x.1.kd) 1024 = true by rw [kx]; exact (hs_seq hk).trans (decide_eq_true c2)) (show hs (us x.1.kd) 4096 = true by rw [kx]; exact (hs_cat hk).trans (decide_eq_true c3)) (show hs (us x.1.kd) 8192 = true by rw [kx]; exact (hs_key hk).trans (decide_eq_true c4))] at h
  have q1 : (s1 x).2 = (0, s.data.toList.drop 10) := by
    show (rA x.2).2 = _
    rw [q0, rA_at s 4 10 rfl (by omega)]
  have q2 : (s2 (s1 x)).2 = (0, s.data.toList.drop 16) := by
    show (rA (s1 x).2).2 = _
    rw [q1, rA_at s 10 16 rfl (by omega)]
  have q3 : (s3 (s2 (s1 x))).2 = (0, s.data.toList.drop 22) := by
    show (rA (s2 (s1 x)).2).2 = _
    rw [q2, rA_at s 16 22 rfl (by omega)]
  have q4 : (s4 (s3 (s2 (s1 x)))).2 = (0, s.data.toList.drop 24) := by
    show (rN 2 (s3 (s2 (s1 x))).2).2 = _
    rw [q3, rN_at s 22 24 2 rfl (by omega)]
  have q5 : (s5 (s4 (s3 (s2 (s1 x))))).2 = (0, s.data.toList.drop 25) := by
    show (rN 1 (s4 (s3 (s2 (s1 x)))).2).2 = _
    rw [q4, rN_at s 24 25 1 rfl (by omega)]
  have z6 : (rN 2 (s5 (s4 (s3 (s2 (s1 x))))).2).1 = nv s 25 27 := by rw [q5, rN_at s 25 27 2 rfl (by omega)]
  rw [if_neg (fun h => hky (z6.symm.trans h))] at h
  have n7 := sn7 (y := s6 (s5 (s4 (s3 (s2 (s1 x)))))) h
  have n6 := sn6 (y := s5 (s4 (s3 (s2 (s1 x))))) n7.1
  have n5 := sn5 (y := s4 (s3 (s2 (s1 x)))) n6.1
  have n4 := sn4 (y := s3 (s2 (s1 x))) n5.1
  have n3 := sn3 (y := s2 (s1 x)) n4.1
  have n2 := sn2 (y := s1 x) n3.1
  have n1 := sn1 (y := x) n2.1
  omega
end Go.Proofs.YtkhnhlahfedkhaaDoor

namespace Go.Proofs.YtkhnhlahfedkhaaDoor
open Go.RowKit Go.Hd Go.Wr Go.Ad

/-! ### The flags' octet -/
def fok (n : Nat) (u fl : Int) (p : Bool) : Bool := (decide (bits .andNot .i64 (n : Int) u = 0)) == ((p || (n : Int) / 64 == 0) && (List.range 6).all (fun i => !((n : Int) / 2 ^ i % 2 == 1 && fl / 2 ^ i % 2 == 0)))
theorem fok_mg : ∀ n : Fin 256, fok n.val 18181 5 false = true := by decide +kernel
theorem fok_rts : ∀ n : Fin 256, fok n.val 256 0 false = true := by decide +kernel
theorem fok_blk : ∀ n : Fin 256, fok n.val 16640 0 false = true := by decide +kernel
theorem fok_no : ∀ n : Fin 256, fok n.val 0 0 false = true := by decide +kernel
theorem fok_data : ∀ n : Fin 256, fok n.val 32767 63 true = true := by decide +kernel
theorem fok_null : ∀ n : Fin 256, fok n.val 6109 29 true = true := by decide +kernel
theorem fok_of {k : Int} (hk : isK k) {n : Nat} (h : n < 256) : fok n (us k) (flg k) (decide (pl k)) = true := by
  rcases kinds hk with rfl | rfl | rfl | rfl | rfl | rfl | rfl | rfl | rfl | rfl | rfl | rfl | rfl | rfl | rfl | rfl | rfl | rfl | rfl
  all_goals first
    | exact fok_mg ⟨n, h⟩
    | exact fok_no ⟨n, h⟩
    | exact fok_rts ⟨n, h⟩
    | exact fok_blk ⟨n, h⟩
    | exact fok_data ⟨n, h⟩
    | exact fok_null ⟨n, h⟩
theorem flags_iff {k : Int} (hk : isK k) {n : Nat} (h : n < 256) : bits .andNot .i64 (n : Int) (us k) = 0 ↔ ((pl k ∨ (n : Int) / 64 = 0) ∧ ∀ i, i < 6 → ¬ bb n k i) := by
  have e := fok_of hk h
  unfold fok at e
  have e' := beq_iff_eq.1 e
  have hB : ((decide (pl k) || (n : Int) / 64 == 0) = true) ↔ (pl k ∨ (n : Int) / 64 = 0) := by simp
  have hC : ((List.range 6).all (fun i => !((n : Int) / 2 ^ i % 2 == 1 && flg k / 2 ^ i % 2 == 0)) = true) ↔ ∀ i, i < 6 → ¬ bb n k i := by
    rw [List.all_eq_true]
    constructor
    · intro h i hi hb
      have := h i (List.mem_range.2 hi)
      rw [hb.1, hb.2] at this
      exact absurd this (by decide)
    · intro h i hi
      have hb := h i (List.mem_range.1 hi)
      rw [Bool.not_eq_true', Bool.and_eq_false_iff]
      by_cases h1 : (n : Int) / 2 ^ i % 2 = 1
      · right
        rw [beq_eq_false_iff_ne]
        exact fun h2 => hb ⟨h1, h2⟩
      · left
        rw [beq_eq_false_iff_ne]
        exact h1
  rw [← hB, ← hC, ← Bool.and_eq_true, ← e']
  exact decide_eq_true_iff.symm

/-- What the reference's Read hands back. -/
def RefIs (s : ByteArray) : Prop :=
  ∃ z : Int, ((rdP (0, s.data.toList)).2.1 = 0 → z = (s.size : Int) - ((rdP (0, s.data.toList)).2.2.length : Int)) ∧
    ∀ w, Calls Tryd.prog 43 #[.string s] w fun e w' => e = .returned (.tuple #[Fr_.v (rdP (0, s.data.toList)).1, .int .i64 z, .int .i64 (rdP (0, s.data.toList)).2.1]) ∧ Below w.heap.size w w'
theorem refIs_err {s : ByteArray} {e : Int} (he : ¬ e = 0) (h : (rdP (0, s.data.toList)).1 = Fr_.zf ∧ (rdP (0, s.data.toList)).2.1 = e) (hc : ∀ w, Calls Tryd.prog 43 #[.string s] w fun x w' => x = .returned (.tuple #[Fr_.v Fr_.zf, .int .i64 0, .int .i64 e]) ∧ Below w.heap.size w w') : RefIs s := by
  refine ⟨0, fun h0 => absurd (h.2.symm.trans h0) he, ?_⟩
  rw [h.1, h.2]
  exact hc
theorem refIs_ok {s : ByteArray} {S : Nat} (hS : S ≤ s.size) (h : rdP (0, s.data.toList) = (fOf s, (0, s.data.toList.drop S))) (hc : ∀ w, Calls Tryd.prog 43 #[.string s] w fun x w' => x = .returned (.tuple #[Fr_.v (fOf s), .int .i64 (S : Int), .int .i64 0]) ∧ Below w.heap.size w w') : RefIs s := by
  refine ⟨(S : Int), fun _ => ?_, ?_⟩
  · rw [h]
    have := ba_len s
    simp only [List.length_drop]
    omega
  · rw [h]
    exact hc
theorem err_at {s : ByteArray} {e : Int} (h : (rS (0, s.data.toList)).2.1 = e) (he : ¬ e = 0) : (rdP (0, s.data.toList)).1 = Fr_.zf ∧ (rdP (0, s.data.toList)).2.1 = e :=
  rdP_bad (by rw [rR_bad _ (by rw [h]; exact he), h]) he

/-- A whole header: what both do with it. -/
theorem refIs_whole {s : ByteArray} {S : Nat} (hS : S ≤ s.size) (h : rR (rS (0, s.data.toList)) = (fOf s, (0, s.data.toList.drop S)))
    (hgood : chk (fOf s) = 0 → ∀ w, Calls Tryd.prog 43 #[.string s] w fun x w' => x = .returned (.tuple #[Fr_.v (fOf s), .int .i64 (S : Int), .int .i64 0]) ∧ Below w.heap.size w w')
    (hbad : ¬ chk (fOf s) = 0 → ∀ w, Calls Tryd.prog 43 #[.string s] w fun x w' => x = .returned (.tuple #[Fr_.v Fr_.zf, .int .i64 0, .int .i64 (chk (fOf s))]) ∧ Below w.heap.size w w') : RefIs s := by
  by_cases hc : chk (fOf s) = 0
  · exact refIs_ok hS (rdP_of h hc) (hgood hc)
  · exact refIs_err hc (rdP_chk h hc) (hbad hc)

theorem refIs (s : ByteArray) : RefIs s := by
  obtain ⟨k, ek⟩ : ∃ k : Int, (oc s 0 : Int) = k := ⟨_, rfl⟩
  obtain ⟨n, en⟩ : ∃ n, oc s 1 = n := ⟨_, rfl⟩
  have hn : n < 256 := en ▸ oc_lt s 1
  by_cases h0 : s.size = 0
  · exact refIs_err (by decide) (err_at (rS_empty s h0) (by decide)) (fun w => refRead_early s w k n ek en 1 (.inl ⟨h0, rfl⟩))
  by_cases hk : isK k
  case neg => exact refIs_err (by decide) (err_at (rS_nokind s k ek (by omega) hk) (by decide)) (fun w => refRead_early s w k n ek en 3 (.inr (.inl ⟨by omega, hk, rfl⟩)))
  by_cases h1 : s.size = 1
  · exact refIs_err (by decide) (err_at (rS_one s k ek h1 hk) (by decide)) (fun w => refRead_early s w k n ek en 1 (.inr (.inr (.inl ⟨h1, hk, rfl⟩))))
  have h2 : 2 ≤ s.size := by omega
  by_cases hp : pl k ∨ (n : Int) / 64 = 0
  case neg =>
    have hf : ¬ bits .andNot .i64 (n : Int) (us k) = 0 := fun h => hp ((flags_iff hk hn).1 h).1
    exact refIs_err (by decide) (err_at (rS_flags s k n ek en h2 hk hf) (by decide)) (fun w => refRead_early s w k n ek en 3 (.inr (.inr (.inr ⟨h2, hk, fun h => hp (.inl h), fun h => hp (.inr h), rfl⟩))))
  have h64 : pl k ∨ (¬ pl k ∧ (n : Int) / 64 = 0) := by
    by_cases h : pl k
    · exact .inl h
    · exact .inr ⟨h, hp.resolve_left h⟩
  by_cases hb : ∀ i, i < 6 → ¬ bb n k i
  case neg =>
    have hf : ¬ bits .andNot .i64 (n : Int) (us k) = 0 := fun h => hb ((flags_iff hk hn).1 h).2
    have hx : ∃ i, i < 6 ∧ bb n k i := Classical.byContradiction fun hne => hb fun i hi hbi => hne ⟨i, hi, hbi⟩
    exact refIs_err (by decide) (err_at (rS_flags s k n ek en h2 hk hf) (by decide)) (fun w => refRead_flags s w k n ek en h2 hk h64 _ _ _ ⟨hx, rfl, rfl, rfl⟩)
  have hf : bits .andNot .i64 (n : Int) (us k) = 0 := (flags_iff hk hn).2 ⟨hp, hb⟩
  have late : ∀ y z e, Late s k y z e → ∀ w, Calls Tryd.prog 43 #[.string s] w fun x w' => x = .returned (.tuple #[Fr_.v y, .int .i64 z, .int .i64 e]) ∧ Below w.heap.size w w' :=
    fun y z e hl w => refRead_rest s w k n ek en h2 hk h64 y z e ⟨hb, hl⟩
  have short : (s.size : Int) < ln0 k → (rR (rS (0, s.data.toList))).2.1 = 1 → RefIs s := fun hs he =>
    refIs_err (by decide) (rdP_bad he (by decide)) (late _ _ _ (.inl ⟨hs, rfl, rfl, rfl⟩))
  have plain : ¬ k = 18 → ∀ S : Nat, ln0 k = (S : Int) → S ≤ s.size → rR (rS (0, s.data.toList)) = (fOf s, (0, s.data.toList.drop S)) → RefIs s := fun h18 S hS hs hw =>
    refIs_whole hs hw (fun hc => late _ _ _ (.inr (.inr (.inl ⟨h18, by omega, hc, rfl, rfl, hS.symm⟩)))) (fun hc => late _ _ _ (.inr (.inr (.inr (.inl ⟨h18, by omega, rfl, hc, rfl, rfl⟩)))))
  have hk' := hk
  unfold isK at hk'
  by_cases g1 : mg k
  · have e : ln0 k = 24 := if_pos g1
    have g1' := g1
    unfold mg at g1'
    have c1 : fro k := by unfold fro; omega
    have c2 : nb k := .inl g1
    have c3 : ¬ pl k := by unfold pl; omega
    have c4 : ¬ k = 18 := by omega
    by_cases hs : 24 ≤ s.size
    · exact plain c4 24 e hs (whole_mg s k n ek en hk hf c1 c2 c3 c4 hs)
    · exact short (by omega) (short_mg s k n ek en hk hf c1 c2 c3 c4 h2 (by omega))
  by_cases g2 : k = 12 ∨ k = 17 ∨ k = 15 ∨ k = 16
  · have e : ln0 k = 16 := by unfold ln0; rw [if_neg g1, if_pos g2]
    have c1 : fro k := by unfold fro; omega
    have c2 : ¬ nb k := by unfold nb mg pl; omega
    have c3 : ¬ pl k := by unfold pl; omega
    have c4 : ¬ k = 18 := by omega
    by_cases hs : 16 ≤ s.size
    · exact plain c4 16 e hs (whole_rts s k n ek en hk hf c1 c2 c3 c4 hs)
    · exact short (by omega) (short_rts s k n ek en hk hf c1 c2 c3 c4 h2 (by omega))
  by_cases g3 : k = 13 ∨ k = 14
  · have e : ln0 k = 10 := by unfold ln0; rw [if_neg g1, if_neg g2, if_pos g3]
    have c1 : ¬ fro k := by unfold fro; omega
    have c2 : ¬ nb k := by unfold nb mg pl; omega
    have c3 : ¬ pl k := by unfold pl; omega
    have c4 : ¬ k = 18 := by omega
    by_cases hs : 10 ≤ s.size
    · exact plain c4 10 e hs (whole_cts s k n ek en hk hf c1 c2 c3 c4 hs)
    · exact short (by omega) (short_cts s k n ek en hk hf c1 c2 c3 c4 h2 (by omega))
  by_cases c4 : k = 18
  · have e : ln0 k = 27 := by unfold ln0; rw [if_neg g1, if_neg g2, if_neg g3, if_pos c4]
    have c1 : fro k := by unfold fro; omega
    have c3 : pl k := .inl c4
    have c2 : nb k := .inr c3
    by_cases hs : 27 ≤ s.size
    · by_cases hky : nv s 25 27 = 0
      · exact refIs_whole hs (whole_nokey s k n ek en hk hf c1 c2 c3 c4 hs hky) (fun hc => late _ _ _ (.inr (.inr (.inr (.inr (.inl ⟨c4, hs, hky, hc, rfl, rfl, rfl⟩)))))) (fun hc => late _ _ _ (.inr (.inr (.inr (.inr (.inr (.inl ⟨c4, hs, hky, rfl, hc, rfl, rfl⟩)))))))
      · by_cases hs' : 32 ≤ s.size
        · exact refIs_whole hs' (whole_keyed s k n ek en hk hf c1 c2 c3 c4 hs' hky) (fun hc => late _ _ _ (.inr (.inr (.inr (.inr (.inr (.inr (.inl ⟨c4, hs', hky, hc, rfl, rfl, rfl⟩)))))))) (fun hc => late _ _ _ (.inr (.inr (.inr (.inr (.inr (.inr (.inr ⟨c4, hs', hky, rfl, hc, rfl, rfl⟩))))))))
        · exact refIs_err (by decide) (rdP_bad (short_keyed s k n ek en hk hf c1 c2 c3 c4 h2 (by omega) hs hky) (by decide)) (late _ _ _ (.inr (.inl ⟨c4, hs, hky, by omega, rfl, rfl, rfl⟩)))
    · exact short (by omega) (short_nokey s k n ek en hk hf c1 c2 c3 c4 h2 (by omega))
  · have g5 : k = 19 := by unfold mg at g1; omega
    have e : ln0 k = 25 := by unfold ln0; rw [if_neg g1, if_neg g2, if_neg g3, if_neg c4, if_pos g5]
    have c1 : fro k := by unfold fro; omega
    have c3 : pl k := .inr g5
    have c2 : nb k := .inr c3
    by_cases hs : 25 ≤ s.size
    · exact plain c4 25 e hs (whole_null s k n ek en hk hf c1 c2 c3 c4 hs)
    · exact short (by omega) (short_null s k n ek en hk hf c1 c2 c3 c4 h2 (by omega))
end Go.Proofs.YtkhnhlahfedkhaaDoor
