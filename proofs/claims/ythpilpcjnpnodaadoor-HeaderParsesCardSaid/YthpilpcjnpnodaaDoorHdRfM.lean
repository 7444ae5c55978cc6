/-
  OF THE STEPS: what Read does with the octets is what the reference hands back (layer 10).
-/
import Derived.Test.YthpilpcjnpnodaaDoorHdRfF
namespace Go.Proofs.YthpilpcjnpnodaaDoor
open Go.RowKit Go.Hd Go.Wr Go.Ad

/-! ### The steps over a text -/
def pcs (s : ByteArray) (a b : Nat) : List UInt8 := (s.extract a b).data.toList
theorem pcs_eq (s : ByteArray) (a b : Nat) (_ : a ≤ b) : pcs s a b = (s.data.toList.drop a).take (b - a) := by
  unfold pcs
  rw [ByteArray.data_extract, Array.toList_extract, List.extract_eq_take_drop]
theorem rN_at (s : ByteArray) (a b k : Nat) (hk : b = a + k) (h : b ≤ s.size) : rN k (0, s.data.toList.drop a) = (nv s a b, (0, s.data.toList.drop b)) := by
  subst hk
  have hl := ba_len s
  unfold rN
  simp only [if_true]
  rw [if_pos (by rw [List.length_drop]; omega), List.drop_drop]
  unfold nv
  have := pcs_eq s a (a + k) (by omega)
  unfold pcs at this
  rw [this, show a + k - a = k by omega]
theorem rN_short (s : ByteArray) (a k : Nat) (h : s.size < a + k) (hk : a ≤ s.size) : (rN k (0, s.data.toList.drop a)).2.1 = 1 := by
  have hl := ba_len s
  unfold rN
  simp only [if_true]
  rw [if_neg (by rw [List.length_drop]; omega)]
theorem rA_at (s : ByteArray) (a b : Nat) (hk : b = a + 6) (h : b ≤ s.size) : rA (0, s.data.toList.drop a) = (av s a b, (0, s.data.toList.drop b)) := by
  subst hk
  have hl := ba_len s
  unfold rA
  simp only [if_true]
  rw [if_pos (by rw [List.length_drop]; omega), List.drop_drop]
  unfold av
  have := pcs_eq s a (a + 6) (by omega)
  unfold pcs at this
  rw [this, show a + 6 - a = 6 by omega]
theorem nv_oc (s : ByteArray) (i : Nat) (h : i < s.size) : nv s i (i + 1) = (oc s i : Int) := by
  have hl := ba_len s
  unfold nv
  have := pcs_eq s i (i + 1) (by omega)
  unfold pcs at this
  rw [this, show i + 1 - i = 1 by omega]
  unfold oc
  rw [List.drop_eq_getElem_cons (by omega), List.getD_eq_getElem?_getD, List.getElem?_eq_getElem (by omega)]
  simp [val]

/-! ### Errors stay, and are 1 -/
def e01 (σ : Sg) : Prop := σ.1 = 0 ∨ σ.1 = 1
theorem rN_e01 {k : Nat} {σ : Sg} (h : e01 σ) : e01 (rN k σ).2 := by
  unfold rN e01 at *
  split
  · split
    · exact .inl rfl
    · exact .inr rfl
  · exact h
theorem rA_e01 {σ : Sg} (h : e01 σ) : e01 (rA σ).2 := by
  unfold rA e01 at *
  split
  · split
    · exact .inl rfl
    · exact .inr rfl
  · exact h
theorem rR_e01 (x : Fr × Sg) (h : e01 x.2) : e01 (rR x).2 := by
  have h1 : e01 (s1 x).2 := rA_e01 h
  have h2 : ∀ y, e01 y.2 → e01 (r2 y).2 := fun y hy => by unfold r2; split; exact rA_e01 hy; exact hy
  have h3 : ∀ y, e01 y.2 → e01 (r3 y).2 := fun y hy => by unfold r3; split; exact rA_e01 hy; exact hy
  have h4 : ∀ y, e01 y.2 → e01 (r4 y).2 := fun y hy => by unfold r4; split; exact rN_e01 hy; exact hy
  have h5 : ∀ y, e01 y.2 → e01 (r5 y).2 := fun y hy => by unfold r5; split; exact rN_e01 hy; exact hy
  have h6 : ∀ y, e01 y.2 → e01 (r6 y).2 := fun y hy => by
    unfold r6
    split
    · split
      · exact rN_e01 hy
      · exact rN_e01 (rN_e01 hy)
    · exact hy
  exact h6 _ (h5 _ (h4 _ (h3 _ (h2 _ h1))))
theorem rN_bad {k : Nat} {σ : Sg} (h : ¬ σ.1 = 0) : (rN k σ).2 = σ := by unfold rN; rw [if_neg h]
theorem rA_bad {σ : Sg} (h : ¬ σ.1 = 0) : (rA σ).2 = σ := by unfold rA; rw [if_neg h]
theorem rR_bad (x : Fr × Sg) (h : ¬ x.2.1 = 0) : (rR x).2 = x.2 := by
  have h1 : ∀ y : Fr × Sg, ¬ y.2.1 = 0 → (s1 y).2 = y.2 := fun y hy => rA_bad hy
  have h2 : ∀ y : Fr × Sg, ¬ y.2.1 = 0 → (r2 y).2 = y.2 := fun y hy => by unfold r2; split; exact rA_bad hy; rfl
  have h3 : ∀ y : Fr × Sg, ¬ y.2.1 = 0 → (r3 y).2 = y.2 := fun y hy => by unfold r3; split; exact rA_bad hy; rfl
  have h4 : ∀ y : Fr × Sg, ¬ y.2.1 = 0 → (r4 y).2 = y.2 := fun y hy => by unfold r4; split; exact rN_bad hy; rfl
  have h5 : ∀ y : Fr × Sg, ¬ y.2.1 = 0 → (r5 y).2 = y.2 := fun y hy => by unfold r5; split; exact rN_bad hy; rfl
  have h6 : ∀ y : Fr × Sg, ¬ y.2.1 = 0 → (r6 y).2 = y.2 := fun y hy => by
    unfold r6
    split
    · split
      · exact rN_bad hy
      · exact (rN_bad (k := 5) (σ := (rN 2 y.2).2) (by rw [rN_bad hy]; exact hy)).trans (rN_bad hy)
    · rfl
  have k1 := h1 x h
  have k2 := (h2 (s1 x) (by rw [k1]; exact h)).trans k1
  have k3 := (h3 (r2 (s1 x)) (by rw [k2]; exact h)).trans k2
  have k4 := (h4 _ (by rw [k3]; exact h)).trans k3
  have k5 := (h5 _ (by rw [k4]; exact h)).trans k4
  exact (h6 _ (by rw [k5]; exact h)).trans k5
theorem rdP_bad {σ : Sg} {e : Int} (h : (rR (rS σ)).2.1 = e) (he : ¬ e = 0) : (rdP σ).1 = Fr_.zf ∧ (rdP σ).2.1 = e := by
  have hP : rdP σ = if (rF (chk (rR (rS σ)).1) (rR (rS σ)).2).1 = 0 then ((rR (rS σ)).1, rF (chk (rR (rS σ)).1) (rR (rS σ)).2) else (Fr_.zf, rF (chk (rR (rS σ)).1) (rR (rS σ)).2) := rfl
  have hF : rF (chk (rR (rS σ)).1) (rR (rS σ)).2 = (rR (rS σ)).2 := by unfold rF; rw [if_neg (by rw [h]; exact he)]
  rw [hF] at hP
  rw [if_neg (by rw [h]; exact he)] at hP
  rw [hP]
  exact ⟨rfl, h⟩
theorem rdP_chk {σ : Sg} {g : Fr} {R : List UInt8} (h : rR (rS σ) = (g, (0, R))) (hc : ¬ chk g = 0) : (rdP σ).1 = Fr_.zf ∧ (rdP σ).2.1 = chk g := by
  have hP : rdP σ = if (rF (chk (rR (rS σ)).1) (rR (rS σ)).2).1 = 0 then ((rR (rS σ)).1, rF (chk (rR (rS σ)).1) (rR (rS σ)).2) else (Fr_.zf, rF (chk (rR (rS σ)).1) (rR (rS σ)).2) := rfl
  rw [h] at hP
  have hF : rF (chk g) (0, R) = (chk g, R) := by unfold rF; rw [if_pos rfl]
  simp only [hF] at hP
  rw [if_neg hc] at hP
  rw [hP]
  exact ⟨rfl, rfl⟩
end Go.Proofs.YthpilpcjnpnodaaDoor
