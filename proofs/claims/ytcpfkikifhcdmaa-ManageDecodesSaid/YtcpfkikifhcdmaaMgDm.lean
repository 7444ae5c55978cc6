/-
  THE REFERENCE's DECODE, as a function of the octets, and the program's beside it (layer 15).
-/
import Derived.Test.YtcpfkikifhcdmaaMgRefB
namespace Go.Proofs.Ytcpfkikifhcdmaa
open Go.RowKit Go.Mg Go.Wr Go.Ad

/-! Pieces of a string. -/
theorem nu_in (s : ByteArray) (i k : Nat) : 0 ≤ nu s i k ∧ nu s i k < (pow k : Nat) := by
  unfold nu
  have h := val_lt ((s.data.toList.drop i).take k)
  have h2 := pow_le (i := ((s.data.toList.drop i).take k).length) (j := k) (by rw [List.length_take]; omega)
  omega
theorem ow_nu {s : ByteArray} {i k : Nat} (h : i + k ≤ s.size) : ow (nu s i k) k = (s.data.toList.drop i).take k := by
  unfold ow nu
  have hl := ba_len15 s
  have := le_val ((s.data.toList.drop i).take k)
  rw [List.length_take, List.length_drop, Nat.min_eq_left (by omega)] at this
  rw [Int.toNat_natCast, this]
theorem nu_app {s : ByteArray} {i k : Nat} (h : i + k ≤ s.size) : ow (nu s i k) k ++ s.data.toList.drop (i + k) = s.data.toList.drop i := by
  rw [ow_nu h, ← List.drop_drop, List.take_append_drop]
theorem nu_last {s : ByteArray} {i k : Nat} (h : i + k = s.size) : ow (nu s i k) k = s.data.toList.drop i := by
  rw [ow_nu (by omega), List.take_of_length_le (by rw [List.length_drop, ba_len15]; omega)]
theorem ex_list15 (s : ByteArray) (a b : Nat) : (s.extract a b).data.toList = (s.data.toList.drop a).take (b - a) := by
  rw [ByteArray.data_extract, Array.toList_extract, List.extract_eq_take_drop]
theorem ex_app {s : ByteArray} {i k : Nat} : (s.extract i (i + k)).data.toList ++ s.data.toList.drop (i + k) = s.data.toList.drop i := by
  rw [ex_list15, show i + k - i = k by omega, ← List.drop_drop, List.take_append_drop]
theorem ex_rest (s : ByteArray) (i : Nat) : (s.extract i s.size).data.toList = s.data.toList.drop i := by
  rw [ex_list15, List.take_of_length_le (by rw [List.length_drop, ba_len15]; exact Nat.le_refl _)]

/-! The body of some octets. -/
theorem fB_kd {c : Int} (hc : isK c) (s : ByteArray) (n : Nat) : (fB c s n).kd = c := by
  rcases kinds hc with rfl | rfl | rfl | rfl | rfl | rfl | rfl | rfl | rfl | rfl | rfl | rfl <;> rfl
theorem fB_us {c : Int} (hc : isK c) (s : ByteArray) (n : Nat) : usB (fB c s n) = fB c s n := by
  rcases kinds hc with rfl | rfl | rfl | rfl | rfl | rfl | rfl | rfl | rfl | rfl | rfl | rfl <;> rfl
theorem zero_in (k : Nat) : (0 : Int) ≤ 0 ∧ (0 : Int) < (pow k : Nat) := ⟨Int.le_refl _, by have := pow_pos k; omega⟩
theorem fB_fv {c : Int} (hc : isK c) (s : ByteArray) (n : Nat) : ∀ j, j < 14 → 0 ≤ fv (fB c s n) j ∧ fv (fB c s n) j < (pow (fz j) : Nat) := by
  intro j hj
  rcases kinds hc with rfl | rfl | rfl | rfl | rfl | rfl | rfl | rfl | rfl | rfl | rfl | rfl <;>
  rcases (show j = 0 ∨ j = 1 ∨ j = 2 ∨ j = 3 ∨ j = 4 ∨ j = 5 ∨ j = 6 ∨ j = 7 ∨ j = 8 ∨ j = 9 ∨ j = 10 ∨ j = 11 ∨ j = 12 ∨ j = 13 by omega) with rfl | rfl | rfl | rfl | rfl | rfl | rfl | rfl | rfl | rfl | rfl | rfl | rfl | rfl <;> first | exact zero_in _ | exact nu_in s _ _
theorem bev6 (l : List UInt8) (h : l.length ≤ 6) : 0 ≤ ((bev l : Nat) : Int) ∧ ((bev l : Nat) : Int) < 281474976710656 := by
  have h1 := bev_lt l
  have h2 : bev l < 281474976710656 := Nat.lt_of_lt_of_le h1 (Nat.le_trans (Nat.pow_le_pow_right (by decide) h) (by decide))
  omega
theorem fB_od {c : Int} (hc : isK c) (s : ByteArray) (n : Nat) (hs : (s.size : Int) = nd c n) : 0 ≤ (fB c s n).od ∧ (fB c s n).od < 281474976710656 := by
  rcases kinds hc with rfl | rfl | rfl | rfl | rfl | rfl | rfl | rfl | rfl | rfl | rfl | rfl
  case inr.inr.inl => exact bev6 _ (by rw [ex_rest, List.length_drop, ba_len15]; simp [nd] at hs; omega)
  case inr.inr.inr.inr.inr.inr.inr.inr.inr.inr.inr => exact bev6 _ (by rw [ex_list15, List.length_take]; omega)
  all_goals exact ⟨Int.le_refl _, show (0 : Int) < _ by decide⟩
theorem fB_nm {c : Int} (hc : isK c) (s : ByteArray) (n : Nat) (hs : (s.size : Int) = nd c n) (hn : n ≤ 255) : (fB c s n).nm.size ≤ 255 ∧ (c = 2 ∨ c = 3 → (fB c s n).nm.size = n) := by
  rcases kinds hc with rfl | rfl | rfl | rfl | rfl | rfl | rfl | rfl | rfl | rfl | rfl | rfl
  case inr.inl =>
    have : (fB 2 s n).nm.size = n := by
      show (s.extract 1 (1 + n)).size = n
      rw [ByteArray.size_extract]; simp [nd] at hs; omega
    exact ⟨by omega, fun _ => this⟩
  case inr.inr.inl =>
    have : (fB 3 s n).nm.size = n := by
      show (s.extract 1 (1 + n)).size = n
      rw [ByteArray.size_extract]; simp [nd] at hs; omega
    exact ⟨by omega, fun _ => this⟩
  all_goals exact ⟨by show (0 : Nat) ≤ 255; decide, fun h => by omega⟩
/-- The first octet of a name tells its length. -/
def named (c : Int) (s : ByteArray) (n : Nat) : Prop := c = 2 ∨ c = 3 → 0 < s.size ∧ nu s 0 1 = (n : Int)
theorem fB_rst {c : Int} (hc : isK c) (s : ByteArray) (n : Nat) (hs : (s.size : Int) = nd c n) (hn : n ≤ 255) (hm : named c s n) : rst (fB c s n) = s.data.toList := by
  have hnm := fB_nm hc s n hs hn
  rcases kinds hc with rfl | rfl | rfl | rfl | rfl | rfl | rfl | rfl | rfl | rfl | rfl | rfl <;> simp [nd] at hs
  · show ow (nu s 0 1) 1 ++ (ow (nu s 1 1) 1 ++ ow (nu s 2 2) 2) = _
    rw [nu_last (i := 2) (by omega), nu_app (i := 1) (by omega), nu_app (i := 0) (by omega), List.drop_zero]
  · have h0 := hm (.inl rfl)
    have hz := hnm.2 (.inl rfl)
    show ow ((fB 2 s n).nm.size : Int) 1 ++ ((s.extract 1 (1 + n)).data.toList ++ (ow (nu s (1 + n) 1) 1 ++ ow (nu s (2 + n) 1) 1)) = _
    rw [hz, ← h0.2, nu_last (i := 2 + n) (by omega), show 2 + n = 1 + n + 1 by omega, nu_app (i := 1 + n) (by omega), ex_app, nu_app (i := 0) (by omega), List.drop_zero]
  · have h0 := hm (.inr rfl)
    have hz := hnm.2 (.inr rfl)
    show (ow ((fB 3 s n).nm.size : Int) 1 ++ ((s.extract 1 (1 + n)).data.toList ++ (ow (nu s (1 + n) 1) 1 ++ ow (nu s (2 + n) 1) 1))) ++ be ((bev (s.extract (3 + n) s.size).data.toList : Nat) : Int).toNat = _
    rw [Int.toNat_natCast, ex_rest, be_bev (by rw [List.length_drop, ba_len15]; omega), hz, ← h0.2]
    simp only [List.append_assoc]
    rw [show 3 + n = 2 + n + 1 by omega, nu_app (i := 2 + n) (by omega), show 2 + n = 1 + n + 1 by omega, nu_app (i := 1 + n) (by omega), ex_app, nu_app (i := 0) (by omega), List.drop_zero]
  · show ow (nu s 0 1) 1 ++ ow (nu s 1 1) 1 = _
    rw [nu_last (i := 1) (by omega), nu_app (i := 0) (by omega), List.drop_zero]
  · show ow (nu s 0 1) 1 = _
    rw [nu_last (i := 0) (by omega), List.drop_zero]
  · show ow (nu s 0 1) 1 ++ (ow (nu s 1 2) 2 ++ ow (nu s 3 1) 1) = _
    rw [nu_last (i := 3) (by omega), nu_app (i := 1) (by omega), nu_app (i := 0) (by omega), List.drop_zero]
  · show ow (nu s 0 1) 1 ++ (ow (nu s 1 1) 1 ++ ow (nu s 2 1) 1) = _
    rw [nu_last (i := 2) (by omega), nu_app (i := 1) (by omega), nu_app (i := 0) (by omega), List.drop_zero]
  · show ow (nu s 0 1) 1 ++ ow (nu s 1 1) 1 = _
    rw [nu_last (i := 1) (by omega), nu_app (i := 0) (by omega), List.drop_zero]
  · show ow (nu s 0 1) 1 ++ ow (nu s 1 1) 1 = _
    rw [nu_last (i := 1) (by omega), nu_app (i := 0) (by omega), List.drop_zero]
  · show ow (nu s 0 4) 4 ++ (ow (nu s 4 4) 4 ++ ow (nu s 8 4) 4) = _
    rw [nu_last (i := 8) (by omega), nu_app (i := 4) (by omega), nu_app (i := 0) (by omega), List.drop_zero]
  · show (ow (nu s 0 4) 4 ++ (ow (nu s 4 4) 4 ++ ow (nu s 8 4) 4)) ++ ow (nu s 12 1) 1 = _
    simp only [List.append_assoc]
    rw [nu_last (i := 12) (by omega), nu_app (i := 8) (by omega), nu_app (i := 4) (by omega), nu_app (i := 0) (by omega), List.drop_zero]
  · show be ((bev (s.extract 0 6).data.toList : Nat) : Int).toNat ++ ow (nu s 6 1) 1 = _
    rw [Int.toNat_natCast, be_bev (by rw [ex_list15, List.length_take, List.length_drop, ba_len15]; omega), nu_last (i := 6) (by omega)]
    have := ex_app (s := s) (i := 0) (k := 6)
    rw [Nat.zero_add] at this
    rw [this, List.drop_zero]
/-- Octets that begin with the fields of a kind. -/
theorem rFd_fB {c : Int} (hc : isK c) (s : ByteArray) (n : Nat) (hs : (s.size : Int) = nd c n) (hn : n ≤ 255) (hm : named c s n) (m : List UInt8) :
    rFd (us c) (bK c, (0, s.data.toList ++ m)) = (fB c s n, (0, m)) := by
  have hk := fB_kd hc s n
  have hk' : isK (fB c s n).kd := by rw [hk]; exact hc
  have h := rFd_fwd2 hk' (fB_us hc s n) (fB_fv hc s n) (fB_nm hc s n hs hn).1 (fB_od hc s n hs) m
  rw [wF_rst hk', fB_rst hc s n hs hn hm, hk] at h
  exact h

/-! Too few octets. -/
def e01 (σ : Sg) : Prop := σ.1 = 0 ∨ σ.1 = 1
theorem rN_01 (k : Nat) {σ : Sg} (h : e01 σ) : e01 (rN k σ).2 := by
  unfold rN
  split
  · split
    · exact .inl rfl
    · exact .inr rfl
  · exact h
theorem rT_01 (n : Nat) {σ : Sg} (h : e01 σ) : e01 (rT n σ).2 := by
  unfold rT
  split
  · split
    · exact .inl rfl
    · exact .inr rfl
  · exact h
theorem rA_01 {σ : Sg} (h : e01 σ) : e01 (rA σ).2 := by
  unfold rA
  split
  · split
    · exact .inl rfl
    · exact .inr rfl
  · exact h
theorem rQ_01 (s : Int) (k : Nat) {q : Bd × Sg} (h : e01 q.2) : e01 (rQ s k q).2 := by
  induction k with
  | zero => exact h
  | succ k ih =>
    rw [rQ]
    split
    · exact rN_01 _ ih
    · exact ih
theorem rFd_01 (u : Int) {q : Bd × Sg} (h : e01 q.2) : e01 (rFd u q).2 := by
  have h1 : e01 (g1 u q).2 := by
    unfold g1; split
    · exact rT_01 _ (rN_01 _ h)
    · exact h
  have h2 : e01 (g2 u q).2 := rQ_01 _ _ h1
  have h3 : e01 (g3 u q).2 := by
    unfold g3; split
    · exact rA_01 h2
    · exact h2
  exact rQ_01 _ _ h3
theorem rN1_lt (σ : Sg) : (rN 1 σ).1 ≤ 255 := by
  unfold rN
  split
  · split
    · rename_i hl
      have := val_take_lt σ.2 1 hl
      have p1 : pow 1 = 256 := by decide
      simp only
      omega
    · show (0 : Int) ≤ 255; decide
  · show (0 : Int) ≤ 255; decide
theorem rT_sz (n : Nat) (σ : Sg) : (rT n σ).1.size ≤ n := by
  unfold rT
  split
  · split
    · simp only; rw [bz_size, List.length_take]; omega
    · exact Nat.zero_le _
  · exact Nat.zero_le _
theorem rFd_nm (u : Int) (q : Bd × Sg) (h : q.1.nm.size ≤ 255) : (rFd u q).1.nm.size ≤ 255 := by
  have e : (g3 u q).1.nm = (g2 u q).1.nm := by unfold g3; split <;> rfl
  rw [rFd_g, rQ_nm, e, g2, rQ_nm]
  unfold g1
  split
  · have h1 := rT_sz (rN 1 q.2).1.toNat (rN 1 q.2).2
    have h2 := rN1_lt q.2
    show (rT (rN 1 q.2).1.toNat (rN 1 q.2).2).1.size ≤ 255
    omega
  · exact h
theorem rst_len {b : Bd} (hk : isK b.kd) : ((rst b).length : Int) = nd b.kd b.nm.size := by
  have hl := nm_len b
  unfold rst nmo pln
  generalize b.kd = k at hk
  rcases kinds hk with rfl | rfl | rfl | rfl | rfl | rfl | rfl | rfl | rfl | rfl | rfl | rfl <;>
    simp [nd, ow_len, be_len, hl] <;> omega
theorem rst_hd {b : Bd} (hk : b.kd = 2 ∨ b.kd = 3) : ∃ m, rst b = ow b.nm.size 1 ++ m := by
  rcases hk with h | h
  · exact ⟨_, by unfold rst; rw [h]; rfl⟩
  · exact ⟨(b.nm.data.toList ++ (ow b.ls 1 ++ ow b.dv 1)) ++ be b.od.toNat, by unfold rst nmo; rw [h]; simp only [Int.reduceEq, if_true, if_false, List.append_assoc]⟩
/-- Too few octets for the kind: the error is 1. -/
theorem rFd_short {c : Int} (hc : isK c) (s : ByteArray) (n : Nat) (hs : (c = 2 ∨ c = 3) ∧ s.size = 0 ∨ (named c s n ∧ (s.size : Int) < nd c n)) :
    (rFd (us c) (bK c, (0, s.data.toList))).2.1 = 1 := by
  rcases rFd_01 (us c) (q := (bK c, (0, s.data.toList))) (.inl rfl) with h | h
  case inr => exact h
  exfalso
  obtain ⟨-, h2⟩ := rFd_inv hc (bK c, (0, s.data.toList)) h
  have hk := rFd_kd (us c) (bK c, (0, s.data.toList))
  have hnm := rFd_nm (us c) (bK c, (0, s.data.toList)) (by show (0 : Nat) ≤ 255; decide)
  generalize rFd (us c) (bK c, (0, s.data.toList)) = q at *
  obtain ⟨y, σ⟩ := q
  simp only at h2 hk hnm
  have hk : y.kd = c := hk
  have hy : isK y.kd := by rw [hk]; exact hc
  rw [← hk, wF_rst hy] at h2
  have hlen := congrArg List.length h2
  rw [List.length_append, ba_len15] at hlen
  have hrl := rst_len hy
  rcases hs with ⟨hn, hz⟩ | ⟨hm, hlt⟩
  · obtain ⟨m, hm⟩ := rst_hd (b := y) (by rw [hk]; exact hn)
    rw [hm, List.length_append, ow_len] at hlen
    omega
  · by_cases hn : c = 2 ∨ c = 3
    · obtain ⟨m, hr⟩ := rst_hd (b := y) (by rw [hk]; exact hn)
      obtain ⟨h0, h1⟩ := hm hn
      have e : nu s 0 1 = (y.nm.size : Int) := by
        unfold nu
        rw [List.drop_zero, h2, hr, List.append_assoc, List.take_left' (ow_len _ _)]
        unfold ow
        rw [Int.toNat_natCast, val_le_of_lt (by rw [show pow 1 = 256 from by decide]; omega)]
      rw [h1] at e
      rw [hk, ← e] at hrl
      omega
    · have e : nd y.kd y.nm.size = nd c n := by
        rw [hk]
        unfold nd
        rcases kinds hc with rfl | rfl | rfl | rfl | rfl | rfl | rfl | rfl | rfl | rfl | rfl | rfl <;> first | rfl | exact absurd (.inl rfl) hn | exact absurd (.inr rfl) hn
      rw [e] at hrl
      omega
end Go.Proofs.Ytcpfkikifhcdmaa
