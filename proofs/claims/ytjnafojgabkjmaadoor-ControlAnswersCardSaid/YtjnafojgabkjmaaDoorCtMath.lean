/-
  CONTROL FRAMES (of no program): layer 11: the durations, the frames, the bodies and what is read out of them.
-/
import Derived.Test.YtjnafojgabkjmaaDoorHdFrame
import Derived.Test.YtjnafojgabkjmaaDoorWrMath
namespace Go.Ct
open Go.Hd Go.Wr

/-- What a response announces. -/
def rsd (d s : Int) : Int := if 0 < d then (if 0 < s then (if 0 < d - 1 - s then d - 1 - s else 0) else (if 0 < d - 1 then d - 1 else 0)) else 0
theorem rsd_max (d s : Int) : max (max d 0 - 1 - max s 0) 0 = rsd d s := by unfold rsd; split <;> (try split) <;> (try split) <;> omega
theorem rsd_max' (d s : Int) : max 0 (max 0 d - 1 - max 0 s) = rsd d s := by unfold rsd; split <;> (try split) <;> (try split) <;> omega
theorem rsd_ge (d s : Int) : 0 ≤ rsd d s := by unfold rsd; split <;> (try split) <;> (try split) <;> omega
theorem rsd_le {d s : Int} (h : 0 ≤ d) : rsd d s ≤ d := by unfold rsd; split <;> (try split) <;> (try split) <;> omega
theorem rsd_neg {d s : Int} (h : d ≤ 0) : rsd d s = 0 := by unfold rsd; rw [if_neg (by omega)]
theorem rsd_seven {d : Int} (h : 8 ≤ d) : rsd d 7 = d - 8 := by
  unfold rsd; rw [if_pos (by omega), if_pos (by decide)]; split <;> omega
/-- A category and a number are in their ranges. -/
def win (c s : Int) : Prop := (0 ≤ c ∧ c < 4) ∧ 0 ≤ s ∧ s < 4096
instance (c s : Int) : Decidable (win c s) := by unfold win; infer_instance

/-- A frame of a kind, a duration, two addresses, a body. -/
def mkF (k d ta fa : Int) (bo : ByteArray) : Fr := ⟨k, false, false, false, false, false, false, 0, d, ta, fa, 0, 0, 0, 0, 0, 0, bo⟩
def z0 : Fr := mkF 0 0 0 0 ⟨#[]⟩
/-- What the two bodies begin with. -/
def ql (c s : Int) : List UInt8 := le c.toNat 1 ++ le s.toNat 2
def bl (c s : Int) (m : Nat) : List UInt8 := ql c s ++ le m 8
/-- A string out of octets (a word). -/
def bw (l : List UInt8) : ByteArray := ⟨l.toArray⟩
theorem bw_size (l : List UInt8) : (bw l).size = l.length := by simp [bw, ByteArray.size]
theorem bw_list (l : List UInt8) : (bw l).data.toList = l := by simp [bw]
theorem ql_len (c s : Int) : (ql c s).length = 3 := by simp [ql, le_len]
theorem bl_len (c s : Int) (m : Nat) : (bl c s m).length = 11 := by simp [bl, ql_len, le_len]

/-- Valid, and to a single node. -/
def ans (f : Fr) : Prop := chk f = 0 ∧ ¬ grp f.ta
instance (f : Fr) : Decidable (ans f) := by unfold ans; infer_instance
def okC (f : Fr) : Prop := ans f ∧ f.kd = 12
instance (f : Fr) : Decidable (okC f) := by unfold okC; infer_instance
def okA (f : Fr) : Prop := ans f ∧ rsp f.kd = 14
instance (f : Fr) : Decidable (okA f) := by unfold okA; infer_instance
def asks (f : Fr) : Prop := f.kd = 15 ∨ (f.kd = 18 ∧ f.po = 2)
instance (f : Fr) : Decidable (asks f) := by unfold asks; infer_instance
def okB (f : Fr) (c s : Int) : Prop := ans f ∧ asks f ∧ win c s
instance (f : Fr) (c s : Int) : Decidable (okB f c s) := by unfold okB; infer_instance

def ctsF (f : Fr) : Fr := if okC f then mkF 13 (rsd f.du 7) f.fa 0 ⟨#[]⟩ else z0
def ackF (f : Fr) : Fr := if okA f then mkF 14 (if f.mo = true then rsd f.du 7 else 0) f.fa 0 ⟨#[]⟩ else z0
def reqF (ta fa c s : Int) : Fr := if win c s then mkF 15 0 ta fa (bw (ql c s)) else z0
def blkF (f : Fr) (c s : Int) (m : Nat) : Fr := if okB f c s then mkF 16 0 f.fa f.ta (bw (bl c s m)) else z0

/-- What is read of a body of n octets of a frame of kind k. -/
def rdE (f : Fr) (k : Int) (n : Nat) : Int :=
  if ¬ f.kd = k then 3 else if f.bo.size < n then 1 else if n < f.bo.size then 2 else if win (val (f.bo.data.toList.take 1)) (val ((f.bo.data.toList.drop 1).take 2)) then 0 else 4
def rdC (f : Fr) (k : Int) (n : Nat) : Int := if rdE f k n = 0 then (val (f.bo.data.toList.take 1) : Nat) else 0
def rdS (f : Fr) (k : Int) (n : Nat) : Int := if rdE f k n = 0 then (val ((f.bo.data.toList.drop 1).take 2) : Nat) else 0
def rdM (f : Fr) : Nat := if rdE f 16 11 = 0 then val (f.bo.data.toList.drop 3) else 0

/-! ### Octets -/
theorem le_append (n a b : Nat) : le n (a + b) = le n a ++ le (n / pow a) b := by
  induction b with
  | zero => simp [le]
  | succ b ih =>
    rw [← Nat.add_assoc, le, ih, le, List.append_assoc]
    congr 3
    rw [Nat.div_div_eq_div_mul]
    congr 2
    unfold pow; rw [Nat.pow_add]
theorem le_mod (n k : Nat) : le (n % pow k) k = le n k := by
  have key : ∀ j, j ≤ k → le (n % pow k) j = le n j := by
    intro j
    induction j with
    | zero => intro _; rfl
    | succ j ih =>
      intro h
      rw [le, le, ih (by omega)]
      congr 3
      have e : pow k = pow j * (256 * pow (k - j - 1)) := by
        unfold pow
        rw [← Nat.pow_succ', ← Nat.pow_add]; congr 1; omega
      rw [e, Nat.mod_mul_right_div_self, Nat.mod_mul_right_mod]
  exact key k (Nat.le_refl _)
/-- A map in two halves. -/
theorem le_halves (m : Nat) : le (m % 4294967296) 4 ++ le (m / 4294967296) 4 = le m 8 := by
  have h := le_append m 4 4
  have e : pow 4 = 4294967296 := by decide
  rw [e] at h
  have := le_mod m 4
  rw [e] at this
  rw [this, h]
theorem val_halves (l : List UInt8) (h : l.length = 8) : val (l.take 4) + 4294967296 * val ((l.drop 4).take 4) = val l := by
  have e : (l.drop 4).take 4 = l.drop 4 := List.take_of_length_le (by rw [List.length_drop]; omega)
  have hv := val_append (l.take 4) (l.drop 4)
  rw [List.take_append_drop, List.length_take, h, show pow (min 4 8) = 4294967296 by decide] at hv
  rw [e, hv]

/-! ### What the answers are -/
theorem vad_of {f : Fr} (h : chk f = 0) : rngs f ∧ isK f.kd := by
  unfold chk at h
  split at h
  · omega
  · split at h
    · omega
    · rename_i h1 h2; exact ⟨Decidable.not_not.1 h2, Decidable.not_not.1 h1⟩
theorem ans_single (f : Fr) (h : chk f = 0) : vad f.ta := (vad_of h).1.2.1
/-- A frame of a kind that has no more than these fields is valid. -/
theorem chk_mk {k d ta fa : Int} {bo : ByteArray} (hk : k = 12 ∨ k = 15 ∨ k = 16) (hd : 0 ≤ d ∧ d ≤ 32767) (ht : vad ta ∧ ¬ grp ta) (hf : vad fa ∧ ¬ grp fa) (hb : bo.size = if k = 12 then 0 else if k = 15 then 3 else 11) : chk (mkF k d ta fa bo) = 0 := by
  have h1 : isK k := by unfold isK; omega
  have hm : ¬ mg k := by unfold mg; omega
  have hp : ¬ pl k := by unfold pl; omega
  have hn : ¬ nb k := fun h => h.elim hm hp
  have h18 : ¬ k = 18 := by omega
  have hfr : fro k := by unfold fro; omega
  have hr : rngs (mkF k d ta fa bo) := ⟨hd, ht.1, fun _ => hf, fun h => absurd h hn, fun h => absurd h hp, fun h => absurd h h18⟩
  have hs : ¬ (bd k ∧ 2048 < bo.size) := by rintro ⟨-, h⟩; rw [hb] at h; split at h <;> (try split at h) <;> omega
  have hub : ¬ unu (mkF k d ta fa bo) := by
    rintro (⟨⟨h, -⟩ | ⟨h, -⟩ | ⟨h, -⟩⟩ | ⟨-, h | h⟩ | ⟨h, -⟩ | ⟨-, h | h⟩ | ⟨h, h'⟩ | ⟨-, h | h | h⟩)
    all_goals first
      | (simp [mkF] at h; done)
      | exact h hfr
      | skip
    · exact h (.inr (by
        change ¬ bo.size = 0 at h'
        rw [hb] at h'
        by_cases e : k = 12
        · rw [if_pos e] at h'; omega
        · show k = 15 ∨ k = 16 ∨ k = 18; omega))
  have hbd : ¬ bad (mkF k d ta fa bo) := by
    rintro (h | ⟨-, h⟩ | ⟨h, -⟩ | ⟨h | h, -⟩ | ⟨h, -⟩)
    · exact hub h
    · simp [mkF] at h
    · simp [mkF] at h
    · simp [mkF] at h
    · simp [mkF] at h
    · exact ht.2 h
  unfold chk
  rw [if_neg (not_not_intro (show isK (mkF k d ta fa bo).kd from h1)), if_neg (not_not_intro hr), if_neg (show ¬ (bd (mkF k d ta fa bo).kd ∧ 2048 < (mkF k d ta fa bo).bo.size) from hs), if_neg hbd]
theorem chk_cts {d ta : Int} (hd : 0 ≤ d ∧ d ≤ 32767) (ht : vad ta ∧ ¬ grp ta) : chk (mkF 13 d ta 0 ⟨#[]⟩) = 0 := by
  have hr : rngs (mkF 13 d ta 0 ⟨#[]⟩) := ⟨hd, ht.1, fun h => absurd rfl h.1, fun h => absurd (show nb 13 from h) (by decide), fun h => absurd (show pl 13 from h) (by decide), fun h => absurd (show (13 : Int) = 18 from h) (by decide)⟩
  have hub : ¬ unu (mkF 13 d ta 0 ⟨#[]⟩) := by
    rintro (⟨⟨h, -⟩ | ⟨h, -⟩ | ⟨h, -⟩⟩ | ⟨-, h | h⟩ | ⟨-, h⟩ | ⟨-, h | h⟩ | ⟨-, h⟩ | ⟨-, h | h | h⟩)
    all_goals first
      | (simp [mkF] at h; done)
      | exact absurd (show ¬ (13 : Int) = 13 ∧ ¬ (13 : Int) = 14 from h) (by decide)
      | exact absurd rfl h
  have hbd : ¬ bad (mkF 13 d ta 0 ⟨#[]⟩) := by
    rintro (h | ⟨-, h⟩ | ⟨h, -⟩ | ⟨h | h, -⟩ | ⟨h, -⟩)
    · exact hub h
    · simp [mkF] at h
    · simp [mkF] at h
    · simp [mkF] at h
    · simp [mkF] at h
    · exact ht.2 h
  unfold chk
  rw [if_neg (not_not_intro (show isK (mkF 13 d ta 0 ⟨#[]⟩).kd from (by decide : isK 13))), if_neg (not_not_intro hr), if_neg (show ¬ (bd (mkF 13 d ta 0 ⟨#[]⟩).kd ∧ 2048 < (mkF 13 d ta 0 ⟨#[]⟩).bo.size) from fun h => absurd (show bd 13 from h.1) (by decide)), if_neg hbd]
/-! ### What was written is read -/
theorem rd_req {ta fa c s : Int} (h : win c s) : rdE (reqF ta fa c s) 15 3 = 0 ∧ rdC (reqF ta fa c s) 15 3 = c ∧ rdS (reqF ta fa c s) 15 3 = s := by
  have e : reqF ta fa c s = mkF 15 0 ta fa (bw (ql c s)) := if_pos h
  have h1 : (bw (ql c s)).data.toList.take 1 = le c.toNat 1 := by rw [bw_list]; unfold ql; rw [List.take_append_of_le_length (by rw [le_len]; exact Nat.le_refl _), List.take_of_length_le (by rw [le_len]; exact Nat.le_refl _)]
  have h2 : ((bw (ql c s)).data.toList.drop 1).take 2 = le s.toNat 2 := by
    rw [bw_list]; unfold ql; rw [List.drop_append_of_le_length (by rw [le_len]; exact Nat.le_refl _), List.drop_of_length_le (by rw [le_len]; exact Nat.le_refl _), List.nil_append, List.take_of_length_le (by rw [le_len]; exact Nat.le_refl _)]
  have v1 : val (le c.toNat 1) = c.toNat := val_le_of_lt (by have := h.1; rw [show pow 1 = 256 by decide]; omega)
  have v2 : val (le s.toNat 2) = s.toNat := val_le_of_lt (by have := h.2; rw [show pow 2 = 65536 by decide]; omega)
  have hE : rdE (mkF 15 0 ta fa (bw (ql c s))) 15 3 = 0 := by
    unfold rdE
    have hz : (mkF 15 0 ta fa (bw (ql c s))).bo.size = 3 := by show (bw (ql c s)).size = 3; rw [bw_size, ql_len]
    rw [if_neg (show ¬ ¬ (mkF 15 0 ta fa (bw (ql c s))).kd = 15 from not_not_intro rfl), hz, if_neg (by decide), if_neg (by decide), if_pos]
    show win (val ((bw (ql c s)).data.toList.take 1)) (val (((bw (ql c s)).data.toList.drop 1).take 2))
    rw [h1, h2, v1, v2]
    have := h.1; have := h.2
    unfold win; omega
  rw [e]
  refine ⟨hE, ?_, ?_⟩
  · unfold rdC; rw [if_pos hE]; show ((val ((bw (ql c s)).data.toList.take 1) : Nat) : Int) = c; rw [h1, v1]; have := h.1; omega
  · unfold rdS; rw [if_pos hE]; show ((val (((bw (ql c s)).data.toList.drop 1).take 2) : Nat) : Int) = s; rw [h2, v2]; have := h.2; omega
theorem rd_blk {k d ta fa c s : Int} {m : Nat} (hk : k = 16) (h : win c s) (hm : m < 18446744073709551616) : rdE (mkF k d ta fa (bw (bl c s m))) 16 11 = 0 ∧ rdC (mkF k d ta fa (bw (bl c s m))) 16 11 = c ∧ rdS (mkF k d ta fa (bw (bl c s m))) 16 11 = s ∧ rdM (mkF k d ta fa (bw (bl c s m))) = m := by
  subst hk
  have h1 : (bw (bl c s m)).data.toList.take 1 = le c.toNat 1 := by rw [bw_list]; unfold bl ql; rw [List.append_assoc, List.take_append_of_le_length (by rw [le_len]; exact Nat.le_refl _), List.take_of_length_le (by rw [le_len]; exact Nat.le_refl _)]
  have h2 : ((bw (bl c s m)).data.toList.drop 1).take 2 = le s.toNat 2 := by
    rw [bw_list]; unfold bl ql; rw [List.append_assoc, List.drop_append_of_le_length (by rw [le_len]; exact Nat.le_refl _), List.drop_of_length_le (by rw [le_len]; exact Nat.le_refl _), List.nil_append, List.take_append_of_le_length (by rw [le_len]; exact Nat.le_refl _), List.take_of_length_le (by rw [le_len]; exact Nat.le_refl _)]
  have h3 : (bw (bl c s m)).data.toList.drop 3 = le m 8 := by
    rw [bw_list]; unfold bl; rw [List.drop_append_of_le_length (by rw [ql_len]; exact Nat.le_refl _), List.drop_of_length_le (by rw [ql_len]; exact Nat.le_refl _), List.nil_append]
  have v1 : val (le c.toNat 1) = c.toNat := val_le_of_lt (by have := h.1; rw [show pow 1 = 256 by decide]; omega)
  have v2 : val (le s.toNat 2) = s.toNat := val_le_of_lt (by have := h.2; rw [show pow 2 = 65536 by decide]; omega)
  have v3 : val (le m 8) = m := val_le_of_lt (by rw [show pow 8 = 18446744073709551616 by decide]; exact hm)
  have hE : rdE (mkF 16 d ta fa (bw (bl c s m))) 16 11 = 0 := by
    unfold rdE
    have hz : (mkF 16 d ta fa (bw (bl c s m))).bo.size = 11 := by show (bw (bl c s m)).size = 11; rw [bw_size, bl_len]
    rw [if_neg (show ¬ ¬ (mkF 16 d ta fa (bw (bl c s m))).kd = 16 from not_not_intro rfl), hz, if_neg (by decide), if_neg (by decide), if_pos]
    show win (val ((bw (bl c s m)).data.toList.take 1)) (val (((bw (bl c s m)).data.toList.drop 1).take 2))
    rw [h1, h2, v1, v2]
    have := h.1; have := h.2
    unfold win; omega
  refine ⟨hE, ?_, ?_, ?_⟩
  · unfold rdC; rw [if_pos hE]; show ((val ((bw (bl c s m)).data.toList.take 1) : Nat) : Int) = c; rw [h1, v1]; have := h.1; omega
  · unfold rdS; rw [if_pos hE]; show ((val (((bw (bl c s m)).data.toList.drop 1).take 2) : Nat) : Int) = s; rw [h2, v2]; have := h.2; omega
  · unfold rdM; rw [if_pos hE]; show val ((bw (bl c s m)).data.toList.drop 3) = m; rw [h3, v3]
end Go.Ct
