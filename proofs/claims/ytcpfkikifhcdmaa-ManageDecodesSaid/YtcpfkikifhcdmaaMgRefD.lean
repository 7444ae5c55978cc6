/-
  WALKS of the reference of layer 15: Decode.
-/
import Derived.Test.YtcpfkikifhcdmaaMgDm
import Derived.Test.YtcpfkikifhcdmaaMgRefB2
import Derived.Test.YtcpfkikifhcdmaaMgRefC
namespace Go.Mg
/-- One of the first kinds is carried. -/
def anyc (k : Int) : Nat → Bool
  | 0 => false
  | m + 1 => anyc k m || car k ((m : Int) + 1)
theorem anyc_iff (k : Int) (m : Nat) : anyc k m = true ↔ ∃ c : Nat, c < m ∧ car k ((c : Int) + 1) = true := by
  induction m with
  | zero => exact ⟨fun h => (Bool.false_ne_true h).elim, fun ⟨c, h, _⟩ => absurd h (Nat.not_lt_zero c)⟩
  | succ m ih =>
    rw [anyc, Bool.or_eq_true, ih]
    constructor
    · rintro (⟨c, h1, h2⟩ | h)
      · exact ⟨c, by omega, h2⟩
      · exact ⟨m, by omega, h⟩
    · rintro ⟨c, h1, h2⟩
      by_cases e : c = m
      · subst e; exact .inr h2
      · exact .inl ⟨c, by omega, h2⟩
theorem anyc_fst (k : Int) : anyc k 12 = decide (fst k ≠ 0) := by
  rw [Bool.eq_iff_iff, decide_eq_true_iff, anyc_iff]
  constructor
  · rintro ⟨c, -, h⟩; exact ((car_iff k _).1 h).1
  · intro h
    have hx : ∃ c : Nat, c < 12 ∧ frk ((c : Int) + 1) = fst k := by
      rcases fst_vals k with ⟨-, e⟩ | ⟨-, e⟩ | ⟨e1, e⟩ | ⟨-, e⟩
      · exact ⟨3, by decide, by rw [e]; decide⟩
      · exact ⟨4, by decide, by rw [e]; decide⟩
      · rcases e1 with rfl | rfl | rfl | rfl | rfl | rfl
        · exact ⟨0, by decide, by decide⟩
        · exact ⟨1, by decide, by decide⟩
        · exact ⟨2, by decide, by decide⟩
        · exact ⟨3, by decide, by decide⟩
        · exact ⟨4, by decide, by decide⟩
        · exact ⟨5, by decide, by decide⟩
      · exact absurd e h
    obtain ⟨c, h1, h2⟩ := hx
    exact ⟨c, h1, (car_iff k _).2 ⟨h, h2⟩⟩
end Go.Mg
namespace Go.Proofs.Ytcpfkikifhcdmaa
open Go.RowKit Go.Mg Go.Wr Go.Ad

/-! What Decode answers, case by case, as the reference asks it. -/
theorem rd_none {k : Int} (h : fst k = 0) (s : ByteArray) : dcE k s = 3 ∧ dcB k s = zb := by
  have hE : dcE k s = 3 := if_pos h
  exact ⟨hE, if_neg (by rw [hE]; decide)⟩
theorem rd_bad {k : Int} {s : ByteArray} {e : Int} (hf : ¬ fst k = 0) (he : e ≠ 0) (h : enM (rdq (fst k) (rK s)).2 = e) : dcE k s = e ∧ dcB k s = zb := by
  have hE : dcE k s = e := by
    unfold dcE
    rw [if_neg hf, if_neg (by rw [h]; exact he)]
    exact h
  exact ⟨hE, if_neg (by rw [hE]; exact he)⟩
theorem enM_err {σ : Sg} {e : Int} (h : σ.1 = e) (he : e ≠ 0) : enM σ = e := by
  unfold enM
  rw [if_neg (by rw [h]; exact he), h]
theorem rd_empty {k : Int} (hf : ¬ fst k = 0) {s : ByteArray} (hs : s.size = 0) : dcE k s = 1 ∧ dcB k s = zb := by
  have hl : s.data.toList = [] := List.length_eq_zero_iff.1 (by rw [ba_len15]; exact hs)
  have hr : rK s = (0, (1, [])) := by unfold rK; rw [hl]; rfl
  refine rd_bad hf (by decide) (enM_err ?_ (by decide))
  rw [hr]
  unfold rdq
  simp only
  have h0 : ¬ frk 0 = fst k := fun e => hf (e.symm.trans (by decide))
  rw [if_neg h0, rFd_bad _ _ _ (by decide)]
  rfl
/-- The first octet and the rest. -/
theorem rK_at {s : ByteArray} (h : 0 < s.size) : rK s = (nu s 0 1, (0, (s.extract 1 s.size).data.toList)) := by
  unfold rK nu rN
  simp only [if_true]
  rw [if_pos (by rw [ba_len15]; omega), ex_rest, List.drop_zero]
theorem rd_other {k : Int} (hf : ¬ fst k = 0) {s : ByteArray} (h : 0 < s.size) (hc : car k (nu s 0 1) = false) : dcE k s = 3 ∧ dcB k s = zb := by
  have hn : ¬ frk (nu s 0 1) = fst k := fun e => by rw [(car_iff k _).2 ⟨hf, e⟩] at hc; cases hc
  refine rd_bad hf (by decide) (enM_err ?_ (by decide))
  rw [rK_at h]
  unfold rdq
  simp only
  rw [if_neg hn, rFd_bad _ _ _ (by show ¬ (3 : Int) = 0; decide)]
  rfl
theorem car_isK {k c : Int} (h : car k c = true) : isK c := by
  by_cases hk : isK c
  · exact hk
  · have := (car_iff k c).1 h
    rw [frk_out hk] at this
    exact absurd this.2.symm this.1
theorem rdq_in {k : Int} {s : ByteArray} (h : 0 < s.size) (hc : car k (nu s 0 1) = true) : rdq (fst k) (rK s) = rFd (us (nu s 0 1)) (bK (nu s 0 1), (0, (s.extract 1 s.size).data.toList)) := by
  rw [rK_at h]
  unfold rdq
  simp only
  rw [if_pos ((car_iff k _).1 hc).2]
theorem rd_short {k : Int} {s : ByteArray} (h : 0 < s.size) (hc : car k (nu s 0 1) = true) (n : Nat)
    (hs : (nu s 0 1 = 2 ∨ nu s 0 1 = 3) ∧ (s.extract 1 s.size).size = 0 ∨ (named (nu s 0 1) (s.extract 1 s.size) n ∧ ((s.extract 1 s.size).size : Int) < nd (nu s 0 1) n)) : dcE k s = 1 ∧ dcB k s = zb := by
  refine rd_bad ((car_iff k _).1 hc).1 (by decide) (enM_err ?_ (by decide))
  rw [rdq_in h hc]
  exact rFd_short (car_isK hc) _ n hs
theorem rd_long {k : Int} {s : ByteArray} (h : 0 < s.size) (hc : car k (nu s 0 1) = true) (n : Nat) (hn : n ≤ 255) (hm : named (nu s 0 1) (s.extract 1 s.size) n)
    (hs : nd (nu s 0 1) n < ((s.extract 1 s.size).size : Int)) : dcE k s = 2 ∧ dcB k s = zb := by
  have hk := car_isK hc
  have hd : 0 < nd (nu s 0 1) n := by
    unfold nd
    rcases kinds hk with e | e | e | e | e | e | e | e | e | e | e | e <;> rw [e] <;> simp <;> omega
  refine rd_bad ((car_iff k _).1 hc).1 (by decide) ?_
  rw [rdq_in h hc]
  generalize nu s 0 1 = c at *
  generalize s.extract 1 s.size = t at *
  obtain ⟨m, hm2⟩ : ∃ m : Nat, nd c n = (m : Int) := ⟨(nd c n).toNat, by omega⟩
  rw [hm2] at hs hd
  have hsz : (t.extract 0 m).size = m := by rw [ByteArray.size_extract]; omega
  have hl : t.data.toList = (t.extract 0 m).data.toList ++ t.data.toList.drop m := by
    have := ex_app (s := t) (i := 0) (k := m)
    rw [Nat.zero_add, List.drop_zero] at this
    exact this.symm
  have hnm : named c (t.extract 0 m) n := fun hx => by
    obtain ⟨h0, h1⟩ := hm hx
    refine ⟨by omega, ?_⟩
    rw [← h1]
    unfold nu
    rw [ex_list15]
    simp only [List.drop_zero, Nat.sub_zero]
    rw [List.take_take, Nat.min_eq_left (by omega)]
  have e := rFd_fB hk (t.extract 0 m) n (by rw [hsz, hm2]) hn hnm (t.data.toList.drop m)
  rw [hl, e]
  unfold enM
  simp only [if_true]
  rw [if_pos (by rw [List.length_drop, ba_len15]; omega)]
theorem rd_in {k : Int} {s : ByteArray} (h : 0 < s.size) (hc : car k (nu s 0 1) = true) (n : Nat) (hn : n ≤ 255) (hm : named (nu s 0 1) (s.extract 1 s.size) n)
    (hs : ((s.extract 1 s.size).size : Int) = nd (nu s 0 1) n) : dcE k s = chk (fB (nu s 0 1) (s.extract 1 s.size) n) ∧ dcB k s = if chk (fB (nu s 0 1) (s.extract 1 s.size) n) = 0 then fB (nu s 0 1) (s.extract 1 s.size) n else zb := by
  have e := rFd_fB (car_isK hc) (s.extract 1 s.size) n hs hn hm []
  rw [List.append_nil] at e
  have hq : rdq (fst k) (rK s) = (fB (nu s 0 1) (s.extract 1 s.size) n, (0, [])) := (rdq_in h hc).trans e
  have hE : dcE k s = chk (fB (nu s 0 1) (s.extract 1 s.size) n) := by
    unfold dcE
    rw [if_neg ((car_iff k _).1 hc).1, hq]
    rfl
  refine ⟨hE, ?_⟩
  unfold dcB
  rw [hE, hq]
theorem fB_w {c : Int} (hc : isK c) (s : ByteArray) (n : Nat) (hs : (s.size : Int) = nd c n) : BdW (fB c s n) := by
  have := fB_od hc s n hs
  exact ⟨this.1, by omega⟩
end Go.Proofs.Ytcpfkikifhcdmaa
