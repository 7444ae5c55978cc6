/-
  READING WHAT WAS WRITTEN, and what is read is what is written (layer 10): over the steps of Read.
  What Read accepts is what Write writes for its result; and what was written is read (layer 10), over the steps.
  What was written for a valid frame is read (layer 10), over the steps.
-/
import Derived.Test.YtacbhbejchjbiaaDoorHdRd
import Derived.Test.YtacbhbejchjbiaaDoorHdOct
namespace Go.Proofs.YtacbhbejchjbiaaDoor
open Go.RowKit Go.Hd Go.Wr Go.Ad

/-! ### One step -/
theorem val_one (l : List UInt8) : le (val l) l.length = l := by
  induction l with
  | nil => rfl
  | cons x l ih =>
    have key : ∀ k n (x : UInt8), le (x.toNat + 256 * n) (k + 1) = x :: le n k := by
      intro k
      induction k with
      | zero =>
        intro n x
        simp only [le, List.nil_append, pow_zero, Nat.div_one]
        have : (x.toNat + 256 * n) % 256 = x.toNat := by have := x.toNat_lt; omega
        rw [this]; simp
      | succ k ihk =>
        intro n x
        rw [le, ihk, le, List.cons_append]
        have : (x.toNat + 256 * n) / pow (k + 1) = n / pow k := by
          rw [pow_succ, Nat.mul_comm (pow k) 256, ← Nat.div_div_eq_div_mul]
          have : (x.toNat + 256 * n) / 256 = n := by have := x.toNat_lt; omega
          rw [this]
        rw [this]
    rw [val, List.length_cons, key, ih]
theorem be_bev6 {l : List UInt8} (h : l.length = 6) : be (bev l) = l := by
  unfold be
  rw [bev_val]
  have := val_one l.reverse
  rw [List.length_reverse, h] at this
  rw [this, List.reverse_reverse]
theorem rN_app (k : Nat) (L R : List UInt8) (h : L.length = k) : rN k (0, L ++ R) = (((val L : Nat) : Int), (0, R)) := by
  unfold rN
  simp only [if_true]
  rw [if_pos (by rw [List.length_append]; omega)]
  subst h
  simp
theorem rN_le (k : Nat) (z : Int) (R : List UInt8) (h0 : 0 ≤ z) (h1 : z < (pow k : Int)) : rN k (0, le z.toNat k ++ R) = (z, (0, R)) := by
  rw [rN_app k _ R (le_len _ _), val_le_of_lt (by omega)]
  congr 1
  omega
theorem rA_be (a : Int) (R : List UInt8) (h : vad a) : rA (0, be a.toNat ++ R) = (a, (0, R)) := by
  unfold rA
  simp only [if_true]
  rw [if_pos (by rw [List.length_append, be_len]; omega)]
  have e1 : (be a.toNat ++ R).take 6 = be a.toNat := by have := be_len a.toNat; rw [List.take_append_of_le_length (by omega), List.take_of_length_le (by omega)]
  have e2 : (be a.toNat ++ R).drop 6 = R := by have := be_len a.toNat; rw [List.drop_append_of_le_length (by omega), List.drop_of_length_le (by omega)]; rfl
  rw [e1, e2, bev_be (by have := h.1; have := h.2; omega)]
  congr 1
  have := h.1; omega
theorem rN_ok {k : Nat} {σ : Sg} (h : (rN k σ).2.1 = 0) : ∃ L R, σ = (0, L ++ R) ∧ L.length = k ∧ rN k σ = (((val L : Nat) : Int), (0, R)) := by
  obtain ⟨e, l⟩ := σ
  unfold rN at h
  by_cases he : e = 0
  · subst he
    by_cases hl : k ≤ l.length
    · refine ⟨l.take k, l.drop k, by rw [List.take_append_drop], by rw [List.length_take]; omega, ?_⟩
      have := rN_app k (l.take k) (l.drop k) (by rw [List.length_take]; omega)
      rwa [List.take_append_drop] at this
    · simp only [if_true, if_neg hl] at h
      omega
  · simp only [if_neg he] at h
    exact absurd h he
theorem rA_ok {σ : Sg} (h : (rA σ).2.1 = 0) : ∃ L R, σ = (0, L ++ R) ∧ L.length = 6 ∧ rA σ = (((bev L : Nat) : Int), (0, R)) := by
  obtain ⟨e, l⟩ := σ
  unfold rA at h
  by_cases he : e = 0
  · subst he
    by_cases hl : 6 ≤ l.length
    · refine ⟨l.take 6, l.drop 6, by rw [List.take_append_drop], by rw [List.length_take]; omega, ?_⟩
      unfold rA
      simp only [if_true, if_pos hl]
    · simp only [if_true, if_neg hl] at h
      omega
  · simp only [if_neg he] at h
    exact absurd h he
theorem rF_ne {x : Int} (hx : ¬ x = 0) (σ : Sg) : ¬ (rF x σ).1 = 0 := by
  unfold rF
  split
  · exact hx
  · assumption
theorem rF_ok {x : Int} {σ : Sg} (h : (rF x σ).1 = 0) : x = 0 ∧ σ.1 = 0 ∧ rF x σ = σ := by
  by_cases hx : x = 0
  · subst hx
    unfold rF at *
    split at h
    · rename_i h0; refine ⟨rfl, h0, ?_⟩; rw [if_pos h0, ← h0]
    · exact absurd h (by assumption)
  · exact absurd h (rF_ne hx σ)

/-! ### The octet of the flags -/
def fsum (a b c d e g : Bool) (p : Int) : Int := (if a then 1 else 0) + (if b then 2 else 0) + (if c then 4 else 0) + (if d then 8 else 0) + (if e then 16 else 0) + (if g then 32 else 0) + 64 * p
theorem fsum_bits : ∀ (a b c d e g : Bool) (p : Fin 3), hs (fsum a b c d e g (p.val : Int)) 1 = a ∧ hs (fsum a b c d e g (p.val : Int)) 2 = b ∧ hs (fsum a b c d e g (p.val : Int)) 4 = c ∧ hs (fsum a b c d e g (p.val : Int)) 8 = d ∧ hs (fsum a b c d e g (p.val : Int)) 16 = e ∧ hs (fsum a b c d e g (p.val : Int)) 32 = g ∧
    (bits .and .i64 (fsum a b c d e g (p.val : Int)) 192).tdiv 64 = (p.val : Int) := by decide +kernel
theorem bits_fsum : ∀ n : Fin 256, fsum (hs (n.val : Int) 1) (hs (n.val : Int) 2) (hs (n.val : Int) 4) (hs (n.val : Int) 8) (hs (n.val : Int) 16) (hs (n.val : Int) 32) ((bits .and .i64 (n.val : Int) 192).tdiv 64) = (n.val : Int) := by decide +kernel
theorem fsum_mg : ∀ (a c : Bool), bits .andNot .i64 (fsum a false c false false false 0) 18181 = 0 := by decide +kernel
theorem fsum_none : ∀ u : Fin 3, bits .andNot .i64 (fsum false false false false false false 0) ([256, 0, 16640].getD u.val 0) = 0 := by decide +kernel
theorem fsum_data : ∀ (a b c d e g : Bool) (p : Fin 3), bits .andNot .i64 (fsum a b c d e g (p.val : Int)) 32767 = 0 := by decide +kernel
theorem fsum_null : ∀ (a c d e : Bool) (p : Fin 3), bits .andNot .i64 (fsum a false c d e false (p.val : Int)) 6109 = 0 := by decide +kernel
end Go.Proofs.YtacbhbejchjbiaaDoor

namespace Go.Proofs.YtacbhbejchjbiaaDoor
open Go.RowKit Go.Hd Go.Wr Go.Ad

/-- The frame that readStart makes of three pieces. -/
def f0 (k n d : Int) : Fr := ⟨k, hs n 1, hs n 2, hs n 4, hs n 8, hs n 16, hs n 32, (bits .and .i64 n 192).tdiv 64, d, 0, 0, 0, 0, 0, 0, 0, 0, ⟨#[]⟩⟩
theorem rS_eq (L1 L2 L3 R : List UInt8) (h1 : L1.length = 1) (h2 : L2.length = 1) (h3 : L3.length = 2) (hk : isK (val L1 : Nat)) (hn : bits .andNot .i64 ((val L2 : Nat) : Int) (us (val L1 : Nat)) = 0) :
    rS (0, L1 ++ (L2 ++ (L3 ++ R))) = (f0 (val L1 : Nat) (val L2 : Nat) (val L3 : Nat), (0, R)) := by
  unfold rS
  rw [rN_app 1 L1 _ h1]
  simp only [if_pos hk, rN_app 1 L2 _ h2, hn, if_true, rN_app 2 L3 _ h3]
  rfl
theorem rS_ok {σ : Sg} (h : (rS σ).2.1 = 0) : ∃ L1 L2 L3 R, σ = (0, L1 ++ (L2 ++ (L3 ++ R))) ∧ L1.length = 1 ∧ L2.length = 1 ∧ L3.length = 2 ∧ isK (val L1 : Nat) ∧ bits .andNot .i64 ((val L2 : Nat) : Int) (us (val L1 : Nat)) = 0 := by
  unfold rS at h
  simp only at h
  obtain ⟨L3, R3, e3, l3, -⟩ := rN_ok h
  by_cases hz : bits .andNot .i64 (rN 1 (if isK (rN 1 σ).1 then (rN 1 σ).2 else rF 3 (rN 1 σ).2)).1 (us (rN 1 σ).1) = 0
  · rw [if_pos hz] at e3
    obtain ⟨L2, R2, e2, l2, r2⟩ := rN_ok (k := 1) (by rw [e3])
    by_cases hk : isK (rN 1 σ).1
    · rw [if_pos hk] at e2
      obtain ⟨L1, R1, e1, l1, r1⟩ := rN_ok (k := 1) (σ := σ) (by rw [e2])
      rw [r1] at hk e2 hz
      simp only at hk e2 hz
      rw [if_pos hk] at hz
      have eR : R1 = L2 ++ R2 := congrArg Prod.snd e2
      rw [if_pos (by rw [r1]; exact hk), r1] at r2
      simp only at r2
      rw [r2] at hz
      simp only at hz
      have e3' : R2 = L3 ++ R3 := by
        have := e3
        rw [if_pos (by rw [r1]; exact hk), r1] at this
        simp only at this
        rw [r2] at this
        exact congrArg Prod.snd this
      exact ⟨L1, L2, L3, R3, by rw [e1, eR, e3'], l1, l2, l3, hk, hz⟩
    · rw [if_neg hk] at e2
      exact absurd (by rw [e2]) (rF_ne (x := 3) (by decide) (rN 1 σ).2)
  · rw [if_neg hz] at e3
    exact absurd (by rw [e3]) (rF_ne (x := 3) (by decide) _)

section
variable {x : Fr × Sg}
theorem s1_ok (h : (s1 x).2.1 = 0) : ∃ L R, x = (x.1, (0, L ++ R)) ∧ L.length = 6 ∧ s1 x = ({ x.1 with ta := ((bev L : Nat) : Int) }, (0, R)) := by
  obtain ⟨L, R, e, l, r⟩ := rA_ok h
  exact ⟨L, R, by rw [← e], l, by unfold s1; rw [r]⟩
theorem s2_ok (h : (s2 x).2.1 = 0) : ∃ L R, x = (x.1, (0, L ++ R)) ∧ L.length = 6 ∧ s2 x = ({ x.1 with fa := ((bev L : Nat) : Int) }, (0, R)) := by
  obtain ⟨L, R, e, l, r⟩ := rA_ok h
  exact ⟨L, R, by rw [← e], l, by unfold s2; rw [r]⟩
theorem s3_ok (h : (s3 x).2.1 = 0) : ∃ L R, x = (x.1, (0, L ++ R)) ∧ L.length = 6 ∧ s3 x = ({ x.1 with th := ((bev L : Nat) : Int) }, (0, R)) := by
  obtain ⟨L, R, e, l, r⟩ := rA_ok h
  exact ⟨L, R, by rw [← e], l, by unfold s3; rw [r]⟩
theorem s4_ok (h : (s4 x).2.1 = 0) : ∃ L R, x = (x.1, (0, L ++ R)) ∧ L.length = 2 ∧ s4 x = ({ x.1 with sq := ((val L : Nat) : Int).tdiv 16, fg := ((val L : Nat) : Int).tmod 16 }, (0, R)) := by
  obtain ⟨L, R, e, l, r⟩ := rN_ok h
  exact ⟨L, R, by rw [← e], l, by unfold s4; rw [r]⟩
theorem s5_ok (h : (s5 x).2.1 = 0) : ∃ L R, x = (x.1, (0, L ++ R)) ∧ L.length = 1 ∧ s5 x = ({ x.1 with ct := ((val L : Nat) : Int) }, (0, R)) := by
  obtain ⟨L, R, e, l, r⟩ := rN_ok h
  exact ⟨L, R, by rw [← e], l, by unfold s5; rw [r]⟩
theorem s6_ok (h : (s6 x).2.1 = 0) : ∃ L R, x = (x.1, (0, L ++ R)) ∧ L.length = 2 ∧ s6 x = ({ x.1 with ky := ((val L : Nat) : Int) }, (0, R)) := by
  obtain ⟨L, R, e, l, r⟩ := rN_ok h
  exact ⟨L, R, by rw [← e], l, by unfold s6; rw [r]⟩
theorem s7_ok (h : (s7 x).2.1 = 0) : ∃ L R, x = (x.1, (0, L ++ R)) ∧ L.length = 5 ∧ s7 x = ({ x.1 with cn := ((val L : Nat) : Int) }, (0, R)) := by
  obtain ⟨L, R, e, l, r⟩ := rN_ok h
  exact ⟨L, R, by rw [← e], l, by unfold s7; rw [r]⟩
end

theorem val_at {L : List UInt8} {k : Nat} (h : L.length = k) : le (((val L : Nat) : Int).toNat) k = L := by subst h; exact val_one L
theorem bev_at {L : List UInt8} (h : L.length = 6) : be (((bev L : Nat) : Int).toNat) = L := be_bev6 h
theorem val_one_lt {L : List UInt8} (h : L.length = 1) : val L < 256 := by have := val_lt L; rw [h] at this; exact this
/-- The flags of the frame of three pieces are the second piece. -/
theorem f0_flags {L : List UInt8} (h : L.length = 1) (g : Fr) (hg : g.rt = hs (val L : Nat) 1 ∧ g.mo = hs (val L : Nat) 2 ∧ g.pw = hs (val L : Nat) 4 ∧ g.st = hs (val L : Nat) 8 ∧ g.la = hs (val L : Nat) 16 ∧ g.jo = hs (val L : Nat) 32 ∧ g.po = (bits .and .i64 ((val L : Nat) : Int) 192).tdiv 64) :
    le (setv g + 64 * g.po).toNat 1 = L := by
  have e : setv g + 64 * g.po = ((val L : Nat) : Int) := by
    have hb := bits_fsum ⟨val L, val_one_lt h⟩
    unfold fsum at hb
    simp only at hb
    obtain ⟨h1, h2, h3, h4, h5, h6, h7⟩ := hg
    unfold setv
    rw [h1, h2, h3, h4, h5, h6, h7]
    exact hb
  rw [e]
  exact val_at h

theorem seq_join (n : Nat) : 16 * (n : Int).tdiv 16 + (n : Int).tmod 16 = n := by
  rw [Int.tdiv_eq_ediv_of_nonneg (Int.natCast_nonneg _), Int.tmod_eq_emod_of_nonneg (Int.natCast_nonneg _)]; omega

theorem s1_kd (y : Fr × Sg) : (s1 y).1.kd = y.1.kd := by unfold s1; rfl
theorem s1_rt (y : Fr × Sg) : (s1 y).1.rt = y.1.rt := by unfold s1; rfl
theorem s1_mo (y : Fr × Sg) : (s1 y).1.mo = y.1.mo := by unfold s1; rfl
theorem s1_pw (y : Fr × Sg) : (s1 y).1.pw = y.1.pw := by unfold s1; rfl
theorem s1_st (y : Fr × Sg) : (s1 y).1.st = y.1.st := by unfold s1; rfl
theorem s1_la (y : Fr × Sg) : (s1 y).1.la = y.1.la := by unfold s1; rfl
theorem s1_jo (y : Fr × Sg) : (s1 y).1.jo = y.1.jo := by unfold s1; rfl
theorem s1_po (y : Fr × Sg) : (s1 y).1.po = y.1.po := by unfold s1; rfl
theorem s1_du (y : Fr × Sg) : (s1 y).1.du = y.1.du := by unfold s1; rfl
theorem s1_fa (y : Fr × Sg) : (s1 y).1.fa = y.1.fa := by unfold s1; rfl
theorem s1_th (y : Fr × Sg) : (s1 y).1.th = y.1.th := by unfold s1; rfl
theorem s1_sq (y : Fr × Sg) : (s1 y).1.sq = y.1.sq := by unfold s1; rfl
theorem s1_fg (y : Fr × Sg) : (s1 y).1.fg = y.1.fg := by unfold s1; rfl
theorem s1_ct (y : Fr × Sg) : (s1 y).1.ct = y.1.ct := by unfold s1; rfl
theorem s1_ky (y : Fr × Sg) : (s1 y).1.ky = y.1.ky := by unfold s1; rfl
theorem s1_cn (y : Fr × Sg) : (s1 y).1.cn = y.1.cn := by unfold s1; rfl
theorem s1_bo (y : Fr × Sg) : (s1 y).1.bo = y.1.bo := by unfold s1; rfl
theorem s2_kd (y : Fr × Sg) : (s2 y).1.kd = y.1.kd := by unfold s2; rfl
theorem s2_rt (y : Fr × Sg) : (s2 y).1.rt = y.1.rt := by unfold s2; rfl
theorem s2_mo (y : Fr × Sg) : (s2 y).1.mo = y.1.mo := by unfold s2; rfl
theorem s2_pw (y : Fr × Sg) : (s2 y).1.pw = y.1.pw := by unfold s2; rfl
theorem s2_st (y : Fr × Sg) : (s2 y).1.st = y.1.st := by unfold s2; rfl
theorem s2_la (y : Fr × Sg) : (s2 y).1.la = y.1.la := by unfold s2; rfl
theorem s2_jo (y : Fr × Sg) : (s2 y).1.jo = y.1.jo := by unfold s2; rfl
theorem s2_po (y : Fr × Sg) : (s2 y).1.po = y.1.po := by unfold s2; rfl
theorem s2_du (y : Fr × Sg) : (s2 y).1.du = y.1.du := by unfold s2; rfl
theorem s2_ta (y : Fr × Sg) : (s2 y).1.ta = y.1.ta := by unfold s2; rfl
theorem s2_th (y : Fr × Sg) : (s2 y).1.th = y.1.th := by unfold s2; rfl
theorem s2_sq (y : Fr × Sg) : (s2 y).1.sq = y.1.sq := by unfold s2; rfl
theorem s2_fg (y : Fr × Sg) : (s2 y).1.fg = y.1.fg := by unfold s2; rfl
theorem s2_ct (y : Fr × Sg) : (s2 y).1.ct = y.1.ct := by unfold s2; rfl
theorem s2_ky (y : Fr × Sg) : (s2 y).1.ky = y.1.ky := by unfold s2; rfl
theorem s2_cn (y : Fr × Sg) : (s2 y).1.cn = y.1.cn := by unfold s2; rfl
theorem s2_bo (y : Fr × Sg) : (s2 y).1.bo = y.1.bo := by unfold s2; rfl
theorem s3_kd (y : Fr × Sg) : (s3 y).1.kd = y.1.kd := by unfold s3; rfl
theorem s3_rt (y : Fr × Sg) : (s3 y).1.rt = y.1.rt := by unfold s3; rfl
theorem s3_mo (y : Fr × Sg) : (s3 y).1.mo = y.1.mo := by unfold s3; rfl
theorem s3_pw (y : Fr × Sg) : (s3 y).1.pw = y.1.pw := by unfold s3; rfl
theorem s3_st (y : Fr × Sg) : (s3 y).1.st = y.1.st := by unfold s3; rfl
theorem s3_la (y : Fr × Sg) : (s3 y).1.la = y.1.la := by unfold s3; rfl
theorem s3_jo (y : Fr × Sg) : (s3 y).1.jo = y.1.jo := by unfold s3; rfl
theorem s3_po (y : Fr × Sg) : (s3 y).1.po = y.1.po := by unfold s3; rfl
theorem s3_du (y : Fr × Sg) : (s3 y).1.du = y.1.du := by unfold s3; rfl
theorem s3_ta (y : Fr × Sg) : (s3 y).1.ta = y.1.ta := by unfold s3; rfl
theorem s3_fa (y : Fr × Sg) : (s3 y).1.fa = y.1.fa := by unfold s3; rfl
theorem s3_sq (y : Fr × Sg) : (s3 y).1.sq = y.1.sq := by unfold s3; rfl
theorem s3_fg (y : Fr × Sg) : (s3 y).1.fg = y.1.fg := by unfold s3; rfl
theorem s3_ct (y : Fr × Sg) : (s3 y).1.ct = y.1.ct := by unfold s3; rfl
theorem s3_ky (y : Fr × Sg) : (s3 y).1.ky = y.1.ky := by unfold s3; rfl
theorem s3_cn (y : Fr × Sg) : (s3 y).1.cn = y.1.cn := by unfold s3; rfl
theorem s3_bo (y : Fr × Sg) : (s3 y).1.bo = y.1.bo := by unfold s3; rfl
theorem s4_kd (y : Fr × Sg) : (s4 y).1.kd = y.1.kd := by unfold s4; rfl
theorem s4_rt (y : Fr × Sg) : (s4 y).1.rt = y.1.rt := by unfold s4; rfl
theorem s4_mo (y : Fr × Sg) : (s4 y).1.mo = y.1.mo := by unfold s4; rfl
theorem s4_pw (y : Fr × Sg) : (s4 y).1.pw = y.1.pw := by unfold s4; rfl
theorem s4_st (y : Fr × Sg) : (s4 y).1.st = y.1.st := by unfold s4; rfl
theorem s4_la (y : Fr × Sg) : (s4 y).1.la = y.1.la := by unfold s4; rfl
theorem s4_jo (y : Fr × Sg) : (s4 y).1.jo = y.1.jo := by unfold s4; rfl
theorem s4_po (y : Fr × Sg) : (s4 y).1.po = y.1.po := by unfold s4; rfl
theorem s4_du (y : Fr × Sg) : (s4 y).1.du = y.1.du := by unfold s4; rfl
theorem s4_ta (y : Fr × Sg) : (s4 y).1.ta = y.1.ta := by unfold s4; rfl
theorem s4_fa (y : Fr × Sg) : (s4 y).1.fa = y.1.fa := by unfold s4; rfl
theorem s4_th (y : Fr × Sg) : (s4 y).1.th = y.1.th := by unfold s4; rfl
theorem s4_ct (y : Fr × Sg) : (s4 y).1.ct = y.1.ct := by unfold s4; rfl
theorem s4_ky (y : Fr × Sg) : (s4 y).1.ky = y.1.ky := by unfold s4; rfl
theorem s4_cn (y : Fr × Sg) : (s4 y).1.cn = y.1.cn := by unfold s4; rfl
theorem s4_bo (y : Fr × Sg) : (s4 y).1.bo = y.1.bo := by unfold s4; rfl
theorem s5_kd (y : Fr × Sg) : (s5 y).1.kd = y.1.kd := by unfold s5; rfl
theorem s5_rt (y : Fr × Sg) : (s5 y).1.rt = y.1.rt := by unfold s5; rfl
theorem s5_mo (y : Fr × Sg) : (s5 y).1.mo = y.1.mo := by unfold s5; rfl
theorem s5_pw (y : Fr × Sg) : (s5 y).1.pw = y.1.pw := by unfold s5; rfl
theorem s5_st (y : Fr × Sg) : (s5 y).1.st = y.1.st := by unfold s5; rfl
theorem s5_la (y : Fr × Sg) : (s5 y).1.la = y.1.la := by unfold s5; rfl
theorem s5_jo (y : Fr × Sg) : (s5 y).1.jo = y.1.jo := by unfold s5; rfl
theorem s5_po (y : Fr × Sg) : (s5 y).1.po = y.1.po := by unfold s5; rfl
theorem s5_du (y : Fr × Sg) : (s5 y).1.du = y.1.du := by unfold s5; rfl
theorem s5_ta (y : Fr × Sg) : (s5 y).1.ta = y.1.ta := by unfold s5; rfl
theorem s5_fa (y : Fr × Sg) : (s5 y).1.fa = y.1.fa := by unfold s5; rfl
theorem s5_th (y : Fr × Sg) : (s5 y).1.th = y.1.th := by unfold s5; rfl
theorem s5_sq (y : Fr × Sg) : (s5 y).1.sq = y.1.sq := by unfold s5; rfl
theorem s5_fg (y : Fr × Sg) : (s5 y).1.fg = y.1.fg := by unfold s5; rfl
theorem s5_ky (y : Fr × Sg) : (s5 y).1.ky = y.1.ky := by unfold s5; rfl
theorem s5_cn (y : Fr × Sg) : (s5 y).1.cn = y.1.cn := by unfold s5; rfl
theorem s5_bo (y : Fr × Sg) : (s5 y).1.bo = y.1.bo := by unfold s5; rfl
theorem s6_kd (y : Fr × Sg) : (s6 y).1.kd = y.1.kd := by unfold s6; rfl
theorem s6_rt (y : Fr × Sg) : (s6 y).1.rt = y.1.rt := by unfold s6; rfl
theorem s6_mo (y : Fr × Sg) : (s6 y).1.mo = y.1.mo := by unfold s6; rfl
theorem s6_pw (y : Fr × Sg) : (s6 y).1.pw = y.1.pw := by unfold s6; rfl
theorem s6_st (y : Fr × Sg) : (s6 y).1.st = y.1.st := by unfold s6; rfl
theorem s6_la (y : Fr × Sg) : (s6 y).1.la = y.1.la := by unfold s6; rfl
theorem s6_jo (y : Fr × Sg) : (s6 y).1.jo = y.1.jo := by unfold s6; rfl
theorem s6_po (y : Fr × Sg) : (s6 y).1.po = y.1.po := by unfold s6; rfl
theorem s6_du (y : Fr × Sg) : (s6 y).1.du = y.1.du := by unfold s6; rfl
theorem s6_ta (y : Fr × Sg) : (s6 y).1.ta = y.1.ta := by unfold s6; rfl
theorem s6_fa (y : Fr × Sg) : (s6 y).1.fa = y.1.fa := by unfold s6; rfl
theorem s6_th (y : Fr × Sg) : (s6 y).1.th = y.1.th := by unfold s6; rfl
theorem s6_sq (y : Fr × Sg) : (s6 y).1.sq = y.1.sq := by unfold s6; rfl
theorem s6_fg (y : Fr × Sg) : (s6 y).1.fg = y.1.fg := by unfold s6; rfl
theorem s6_ct (y : Fr × Sg) : (s6 y).1.ct = y.1.ct := by unfold s6; rfl
theorem s6_cn (y : Fr × Sg) : (s6 y).1.cn = y.1.cn := by unfold s6; rfl
theorem s6_bo (y : Fr × Sg) : (s6 y).1.bo = y.1.bo := by unfold s6; rfl
theorem s7_kd (y : Fr × Sg) : (s7 y).1.kd = y.1.kd := by unfold s7; rfl
theorem s7_rt (y : Fr × Sg) : (s7 y).1.rt = y.1.rt := by unfold s7; rfl
theorem s7_mo (y : Fr × Sg) : (s7 y).1.mo = y.1.mo := by unfold s7; rfl
theorem s7_pw (y : Fr × Sg) : (s7 y).1.pw = y.1.pw := by unfold s7; rfl
theorem s7_st (y : Fr × Sg) : (s7 y).1.st = y.1.st := by unfold s7; rfl
theorem s7_la (y : Fr × Sg) : (s7 y).1.la = y.1.la := by unfold s7; rfl
theorem s7_jo (y : Fr × Sg) : (s7 y).1.jo = y.1.jo := by unfold s7; rfl
theorem s7_po (y : Fr × Sg) : (s7 y).1.po = y.1.po := by unfold s7; rfl
theorem s7_du (y : Fr × Sg) : (s7 y).1.du = y.1.du := by unfold s7; rfl
theorem s7_ta (y : Fr × Sg) : (s7 y).1.ta = y.1.ta := by unfold s7; rfl
theorem s7_fa (y : Fr × Sg) : (s7 y).1.fa = y.1.fa := by unfold s7; rfl
theorem s7_th (y : Fr × Sg) : (s7 y).1.th = y.1.th := by unfold s7; rfl
theorem s7_sq (y : Fr × Sg) : (s7 y).1.sq = y.1.sq := by unfold s7; rfl
theorem s7_fg (y : Fr × Sg) : (s7 y).1.fg = y.1.fg := by unfold s7; rfl
theorem s7_ct (y : Fr × Sg) : (s7 y).1.ct = y.1.ct := by unfold s7; rfl
theorem s7_ky (y : Fr × Sg) : (s7 y).1.ky = y.1.ky := by unfold s7; rfl
theorem s7_bo (y : Fr × Sg) : (s7 y).1.bo = y.1.bo := by unfold s7; rfl
section
variable {g : Fr} {L1 L2 L3 M1 M : List UInt8}
theorem o1_is (l1 : L1.length = 1) (l2 : L2.length = 1) (l3 : L3.length = 2) (m1 : M1.length = 6) (hk : g.kd = (val L1 : Nat)) (hf : g.rt = hs (val L2 : Nat) 1 ∧ g.mo = hs (val L2 : Nat) 2 ∧ g.pw = hs (val L2 : Nat) 4 ∧ g.st = hs (val L2 : Nat) 8 ∧ g.la = hs (val L2 : Nat) 16 ∧ g.jo = hs (val L2 : Nat) 32 ∧ g.po = (bits .and .i64 ((val L2 : Nat) : Int) 192).tdiv 64)
    (hd : g.du = (val L3 : Nat)) (ht : g.ta = (bev M1 : Nat)) : o1 g = L1 ++ L2 ++ L3 ++ M1 := by
  unfold o1
  rw [f0_flags l2 g hf, hk, hd, ht, val_at l1, val_at l3, bev_at m1]
theorem o2_is (m : M.length = 6) (c : fro g.kd) (h : g.fa = (bev M : Nat)) : o2 g = M := by unfold o2; rw [if_pos c, h, bev_at m]
theorem o2_no (c : ¬ fro g.kd) : o2 g = [] := if_neg c
theorem o3_is {M' : List UInt8} (m : M.length = 6) (m' : M'.length = 2) (c : nb g.kd) (h : g.th = (bev M : Nat)) (h1 : g.sq = ((val M' : Nat) : Int).tdiv 16) (h2 : g.fg = ((val M' : Nat) : Int).tmod 16) : o3 g = M ++ M' := by
  unfold o3; rw [if_pos c, h, h1, h2, seq_join, bev_at m, val_at m']
theorem o3_no (c : ¬ nb g.kd) : o3 g = [] := if_neg c
theorem o4_is (m : M.length = 1) (c : pl g.kd) (h : g.ct = (val M : Nat)) : o4 g = M := by unfold o4; rw [if_pos c, h, val_at m]
theorem o4_no (c : ¬ pl g.kd) : o4 g = [] := if_neg c
theorem o5_key {M' : List UInt8} (m : M.length = 2) (m' : M'.length = 5) (c : g.kd = 18) (h : g.ky = (val M : Nat)) (hn : ¬ g.ky = 0) (h' : g.cn = (val M' : Nat)) : o5 g = M ++ M' := by
  unfold o5; rw [if_pos c, if_neg hn, h, h', val_at m, val_at m']
theorem o5_nokey (m : M.length = 2) (c : g.kd = 18) (h : g.ky = (val M : Nat)) (hn : g.ky = 0) : o5 g = M := by
  unfold o5; rw [if_pos c, if_pos hn, h, val_at m, List.append_nil]
theorem o5_no (c : ¬ g.kd = 18) : o5 g = [] := if_neg c
end

set_option maxHeartbeats 8000000 in
/-- What is accepted is what is written for the result. -/
theorem rd_written (l : List UInt8) (h : (rdP (0, l)).2.1 = 0) : chk (rdP (0, l)).1 = 0 ∧ oct (rdP (0, l)).1 ++ (rdP (0, l)).2.2 = l := by
  have hP : rdP (0, l) = if (rF (chk (rR (rS (0, l))).1) (rR (rS (0, l))).2).1 = 0 then ((rR (rS (0, l))).1, rF (chk (rR (rS (0, l))).1) (rR (rS (0, l))).2) else (Fr_.zf, rF (chk (rR (rS (0, l))).1) (rR (rS (0, l))).2) := rfl
  have h0 : (rF (chk (rR (rS (0, l))).1) (rR (rS (0, l))).2).1 = 0 := by
    by_cases hc : (rF (chk (rR (rS (0, l))).1) (rR (rS (0, l))).2).1 = 0
    · exact hc
    · rw [hP, if_neg hc] at h; exact h
  rw [hP, if_pos h0]
  obtain ⟨hc, he, hr⟩ := rF_ok h0
  rw [hr]
  simp only
  refine ⟨hc, ?_⟩
  clear hP h h0 hr
  have hk1 := (chk_ok hc).1
  generalize hx : rS (0, l) = x at *
  have fin : ∀ x' : Fr × Sg, x'.2.1 = 0 → x' = rS (0, l) → ∃ L1 L2 L3 R, l = L1 ++ (L2 ++ (L3 ++ R)) ∧ L1.length = 1 ∧ L2.length = 1 ∧ L3.length = 2 ∧ x' = (f0 (val L1 : Nat) (val L2 : Nat) (val L3 : Nat), (0, R)) := by
    intro x' h1 h2
    rw [h2] at h1
    obtain ⟨L1, L2, L3, R, e, l1, l2, l3, hk, hn⟩ := rS_ok h1
    have el : l = L1 ++ (L2 ++ (L3 ++ R)) := congrArg Prod.snd e
    exact ⟨L1, L2, L3, R, el, l1, l2, l3, by rw [h2, e, rS_eq L1 L2 L3 R l1 l2 l3 hk hn]⟩
  rcases hclass x.1.kd with ⟨h1, h2, h3, h4, h5⟩ | ⟨h1, h2, h3, h4, h5⟩ | ⟨h1, h2, h3, h4, h5⟩ | ⟨h1, h2, h3, h4, h5⟩ | ⟨h1, h2, h3, h4, h5⟩
  · rw [rR_mg h1 h2 h3 h4 h5] at he hk1 ⊢
    obtain ⟨M4, R4, e4, m4, q4⟩ := s4_ok (x := s3 (s2 (s1 x))) he
    obtain ⟨M3, R3, e3, m3, q3⟩ := s3_ok (x := s2 (s1 x)) (by rw [e4])
    obtain ⟨M2, R2, e2, m2, q2⟩ := s2_ok (x := s1 x) (by rw [e3])
    obtain ⟨M1, R1, e1, m1, q1⟩ := s1_ok (x := x) (by rw [e2])
    obtain ⟨L1, L2, L3, R, el, l1, l2, l3, ex⟩ := fin x (by rw [e1]) hx.symm
    clear fin hx
    have a1 : R = M1 ++ R1 := by rw [ex] at e1; exact congrArg (fun z : Fr × Sg => z.2.2) e1
    have a2 : R1 = M2 ++ R2 := by have := congrArg (fun z : Fr × Sg => z.2.2) e2; rw [q1] at this; exact this
    have a3 : R2 = M3 ++ R3 := by have := congrArg (fun z : Fr × Sg => z.2.2) e3; rw [q2] at this; exact this
    have a4 : R3 = M4 ++ R4 := by have := congrArg (fun z : Fr × Sg => z.2.2) e4; rw [q3] at this; exact this
    have hk : isK x.1.kd := by have hk2 := hk1; (repeat first | rw [s1_kd] at hk2 | rw [s2_kd] at hk2 | rw [s3_kd] at hk2 | rw [s4_kd] at hk2 | rw [s5_kd] at hk2 | rw [s6_kd] at hk2 | rw [s7_kd] at hk2); exact hk2
    have c1 : fro x.1.kd := of_decide_eq_true ((hs_from hk).symm.trans h1)
    have c2 : nb x.1.kd := of_decide_eq_true ((hs_third hk).symm.trans h2)
    have c3 : ¬ pl x.1.kd := of_decide_eq_false ((hs_cat hk).symm.trans h4)
    have c4 : ¬ x.1.kd = 18 := of_decide_eq_false ((hs_key hk).symm.trans h5)
    have z : (s4 (s3 (s2 (s1 x)))).2.2 = R4 := by rw [q4]
    have k1 : (s4 (s3 (s2 (s1 x)))).1.kd = x.1.kd := by (repeat first | rw [s1_kd] | rw [s2_kd] | rw [s3_kd] | rw [s4_kd] | rw [s5_kd] | rw [s6_kd] | rw [s7_kd])
    have kx : x.1.kd = (val L1 : Nat) := by rw [ex]; rfl
    have fx : x.1.rt = hs (val L2 : Nat) 1 ∧ x.1.mo = hs (val L2 : Nat) 2 ∧ x.1.pw = hs (val L2 : Nat) 4 ∧ x.1.st = hs (val L2 : Nat) 8 ∧ x.1.la = hs (val L2 : Nat) 16 ∧ x.1.jo = hs (val L2 : Nat) 32 ∧ x.1.po = (bits .and .i64 ((val L2 : Nat) : Int) 192).tdiv 64 := by rw [ex]; exact ⟨rfl, rfl, rfl, rfl, rfl, rfl, rfl⟩
    have dx : x.1.du = (val L3 : Nat) := by rw [ex]; rfl
    have v_ta : (s4 (s3 (s2 (s1 x)))).1.ta = ((bev M1 : Nat) : Int) := by
      (repeat first | rw [s2_ta] | rw [s3_ta] | rw [s4_ta] | rw [s5_ta] | rw [s6_ta] | rw [s7_ta])
      rw [q1]
    have v_fa : (s4 (s3 (s2 (s1 x)))).1.fa = ((bev M2 : Nat) : Int) := by
      (repeat first | rw [s1_fa] | rw [s3_fa] | rw [s4_fa] | rw [s5_fa] | rw [s6_fa] | rw [s7_fa])
      rw [q2]
    have v_th : (s4 (s3 (s2 (s1 x)))).1.th = ((bev M3 : Nat) : Int) := by
      (repeat first | rw [s1_th] | rw [s2_th] | rw [s4_th] | rw [s5_th] | rw [s6_th] | rw [s7_th])
      rw [q3]
    have v_sq : (s4 (s3 (s2 (s1 x)))).1.sq = ((val M4 : Nat) : Int).tdiv 16 := by
      (repeat first | rw [s1_sq] | rw [s2_sq] | rw [s3_sq] | rw [s5_sq] | rw [s6_sq] | rw [s7_sq])
      rw [q4]
    have v_fg : (s4 (s3 (s2 (s1 x)))).1.fg = ((val M4 : Nat) : Int).tmod 16 := by
      (repeat first | rw [s1_fg] | rw [s2_fg] | rw [s3_fg] | rw [s5_fg] | rw [s6_fg] | rw [s7_fg])
      rw [q4]
    have fl0 : (s4 (s3 (s2 (s1 x)))).1.rt = hs (val L2 : Nat) 1 ∧ (s4 (s3 (s2 (s1 x)))).1.mo = hs (val L2 : Nat) 2 ∧ (s4 (s3 (s2 (s1 x)))).1.pw = hs (val L2 : Nat) 4 ∧ (s4 (s3 (s2 (s1 x)))).1.st = hs (val L2 : Nat) 8 ∧ (s4 (s3 (s2 (s1 x)))).1.la = hs (val L2 : Nat) 16 ∧ (s4 (s3 (s2 (s1 x)))).1.jo = hs (val L2 : Nat) 32 ∧ (s4 (s3 (s2 (s1 x)))).1.po = (bits .and .i64 ((val L2 : Nat) : Int) 192).tdiv 64 := by
      (repeat first | rw [s1_rt] | rw [s2_rt] | rw [s3_rt] | rw [s4_rt] | rw [s5_rt] | rw [s6_rt] | rw [s7_rt] | rw [s1_mo] | rw [s2_mo] | rw [s3_mo] | rw [s4_mo] | rw [s5_mo] | rw [s6_mo] | rw [s7_mo] | rw [s1_pw] | rw [s2_pw] | rw [s3_pw] | rw [s4_pw] | rw [s5_pw] | rw [s6_pw] | rw [s7_pw] | rw [s1_st] | rw [s2_st] | rw [s3_st] | rw [s4_st] | rw [s5_st] | rw [s6_st] | rw [s7_st] | rw [s1_la] | rw [s2_la] | rw [s3_la] | rw [s4_la] | rw [s5_la] | rw [s6_la] | rw [s7_la] | rw [s1_jo] | rw [s2_jo] | rw [s3_jo] | rw [s4_jo] | rw [s5_jo] | rw [s6_jo] | rw [s7_jo] | rw [s1_po] | rw [s2_po] | rw [s3_po] | rw [s4_po] | rw [s5_po] | rw [s6_po] | rw [s7_po])
      exact fx
    have d0 : (s4 (s3 (s2 (s1 x)))).1.du = x.1.du := by (repeat first | rw [s1_du] | rw [s2_du] | rw [s3_du] | rw [s4_du] | rw [s5_du] | rw [s6_du] | rw [s7_du])
    generalize (s4 (s3 (s2 (s1 x)))).1 = G at *
    rw [z]
    have u1 := o1_is (g := G) l1 l2 l3 m1 (k1.trans kx) fl0 (d0.trans dx) v_ta
    have u2 := o2_is (g := G) m2 (by rw [k1]; exact c1) v_fa
    have u3 := o3_is (g := G) m3 m4 (by rw [k1]; exact c2) v_th v_sq v_fg
    have u4 := o4_no (g := G) (by rw [k1]; exact c3)
    have u5 := o5_no (g := G) (by rw [k1]; exact c4)
    rw [oct, u1, u2, u3, u4, u5, el, a1, a2, a3, a4]
    simp
  · rw [rR_rts h1 h2 h3 h4 h5] at he hk1 ⊢
    obtain ⟨M2, R2, e2, m2, q2⟩ := s2_ok (x := s1 x) he
    obtain ⟨M1, R1, e1, m1, q1⟩ := s1_ok (x := x) (by rw [e2])
    obtain ⟨L1, L2, L3, R, el, l1, l2, l3, ex⟩ := fin x (by rw [e1]) hx.symm
    clear fin hx
    have a1 : R = M1 ++ R1 := by rw [ex] at e1; exact congrArg (fun z : Fr × Sg => z.2.2) e1
    have a2 : R1 = M2 ++ R2 := by have := congrArg (fun z : Fr × Sg => z.2.2) e2; rw [q1] at this; exact this
    have hk : isK x.1.kd := by have hk2 := hk1; (repeat first | rw [s1_kd] at hk2 | rw [s2_kd] at hk2 | rw [s3_kd] at hk2 | rw [s4_kd] at hk2 | rw [s5_kd] at hk2 | rw [s6_kd] at hk2 | rw [s7_kd] at hk2); exact hk2
    have c1 : fro x.1.kd := of_decide_eq_true ((hs_from hk).symm.trans h1)
    have c2 : ¬ nb x.1.kd := of_decide_eq_false ((hs_third hk).symm.trans h2)
    have c3 : ¬ pl x.1.kd := of_decide_eq_false ((hs_cat hk).symm.trans h4)
    have c4 : ¬ x.1.kd = 18 := of_decide_eq_false ((hs_key hk).symm.trans h5)
    have z : (s2 (s1 x)).2.2 = R2 := by rw [q2]
    have k1 : (s2 (s1 x)).1.kd = x.1.kd := by (repeat first | rw [s1_kd] | rw [s2_kd] | rw [s3_kd] | rw [s4_kd] | rw [s5_kd] | rw [s6_kd] | rw [s7_kd])
    have kx : x.1.kd = (val L1 : Nat) := by rw [ex]; rfl
    have fx : x.1.rt = hs (val L2 : Nat) 1 ∧ x.1.mo = hs (val L2 : Nat) 2 ∧ x.1.pw = hs (val L2 : Nat) 4 ∧ x.1.st = hs (val L2 : Nat) 8 ∧ x.1.la = hs (val L2 : Nat) 16 ∧ x.1.jo = hs (val L2 : Nat) 32 ∧ x.1.po = (bits .and .i64 ((val L2 : Nat) : Int) 192).tdiv 64 := by rw [ex]; exact ⟨rfl, rfl, rfl, rfl, rfl, rfl, rfl⟩
    have dx : x.1.du = (val L3 : Nat) := by rw [ex]; rfl
    have v_ta : (s2 (s1 x)).1.ta = ((bev M1 : Nat) : Int) := by
      (repeat first | rw [s2_ta] | rw [s3_ta] | rw [s4_ta] | rw [s5_ta] | rw [s6_ta] | rw [s7_ta])
      rw [q1]
    have v_fa : (s2 (s1 x)).1.fa = ((bev M2 : Nat) : Int) := by
      (repeat first | rw [s1_fa] | rw [s3_fa] | rw [s4_fa] | rw [s5_fa] | rw [s6_fa] | rw [s7_fa])
      rw [q2]
    have fl0 : (s2 (s1 x)).1.rt = hs (val L2 : Nat) 1 ∧ (s2 (s1 x)).1.mo = hs (val L2 : Nat) 2 ∧ (s2 (s1 x)).1.pw = hs (val L2 : Nat) 4 ∧ (s2 (s1 x)).1.st = hs (val L2 : Nat) 8 ∧ (s2 (s1 x)).1.la = hs (val L2 : Nat) 16 ∧ (s2 (s1 x)).1.jo = hs (val L2 : Nat) 32 ∧ (s2 (s1 x)).1.po = (bits .and .i64 ((val L2 : Nat) : Int) 192).tdiv 64 := by
      (repeat first | rw [s1_rt] | rw [s2_rt] | rw [s3_rt] | rw [s4_rt] | rw [s5_rt] | rw [s6_rt] | rw [s7_rt] | rw [s1_mo] | rw [s2_mo] | rw [s3_mo] | rw [s4_mo] | rw [s5_mo] | rw [s6_mo] | rw [s7_mo] | rw [s1_pw] | rw [s2_pw] | rw [s3_pw] | rw [s4_pw] | rw [s5_pw] | rw [s6_pw] | rw [s7_pw] | rw [s1_st] | rw [s2_st] | rw [s3_st] | rw [s4_st] | rw [s5_st] | rw [s6_st] | rw [s7_st] | rw [s1_la] | rw [s2_la] | rw [s3_la] | rw [s4_la] | rw [s5_la] | rw [s6_la] | rw [s7_la] | rw [s1_jo] | rw [s2_jo] | rw [s3_jo] | rw [s4_jo] | rw [s5_jo] | rw [s6_jo] | rw [s7_jo] | rw [s1_po] | rw [s2_po] | rw [s3_po] | rw [s4_po] | rw [s5_po] | rw [s6_po] | rw [s7_po])
      exact fx
    have d0 : (s2 (s1 x)).1.du = x.1.du := by (repeat first | rw [s1_du] | rw [s2_du] | rw [s3_du] | rw [s4_du] | rw [s5_du] | rw [s6_du] | rw [s7_du])
    generalize (s2 (s1 x)).1 = G at *
    rw [z]
    have u1 := o1_is (g := G) l1 l2 l3 m1 (k1.trans kx) fl0 (d0.trans dx) v_ta
    have u2 := o2_is (g := G) m2 (by rw [k1]; exact c1) v_fa
    have u3 := o3_no (g := G) (by rw [k1]; exact c2)
    have u4 := o4_no (g := G) (by rw [k1]; exact c3)
    have u5 := o5_no (g := G) (by rw [k1]; exact c4)
    rw [oct, u1, u2, u3, u4, u5, el, a1, a2]
    simp
  · rw [rR_cts h1 h2 h3 h4 h5] at he hk1 ⊢
    obtain ⟨M1, R1, e1, m1, q1⟩ := s1_ok (x := x) he
    obtain ⟨L1, L2, L3, R, el, l1, l2, l3, ex⟩ := fin x (by rw [e1]) hx.symm
    clear fin hx
    have a1 : R = M1 ++ R1 := by rw [ex] at e1; exact congrArg (fun z : Fr × Sg => z.2.2) e1
    have hk : isK x.1.kd := by have hk2 := hk1; (repeat first | rw [s1_kd] at hk2 | rw [s2_kd] at hk2 | rw [s3_kd] at hk2 | rw [s4_kd] at hk2 | rw [s5_kd] at hk2 | rw [s6_kd] at hk2 | rw [s7_kd] at hk2); exact hk2
    have c1 : ¬ fro x.1.kd := of_decide_eq_false ((hs_from hk).symm.trans h1)
    have c2 : ¬ nb x.1.kd := of_decide_eq_false ((hs_third hk).symm.trans h2)
    have c3 : ¬ pl x.1.kd := of_decide_eq_false ((hs_cat hk).symm.trans h4)
    have c4 : ¬ x.1.kd = 18 := of_decide_eq_false ((hs_key hk).symm.trans h5)
    have z : (s1 x).2.2 = R1 := by rw [q1]
    have k1 : (s1 x).1.kd = x.1.kd := by (repeat first | rw [s1_kd] | rw [s2_kd] | rw [s3_kd] | rw [s4_kd] | rw [s5_kd] | rw [s6_kd] | rw [s7_kd])
    have kx : x.1.kd = (val L1 : Nat) := by rw [ex]; rfl
    have fx : x.1.rt = hs (val L2 : Nat) 1 ∧ x.1.mo = hs (val L2 : Nat) 2 ∧ x.1.pw = hs (val L2 : Nat) 4 ∧ x.1.st = hs (val L2 : Nat) 8 ∧ x.1.la = hs (val L2 : Nat) 16 ∧ x.1.jo = hs (val L2 : Nat) 32 ∧ x.1.po = (bits .and .i64 ((val L2 : Nat) : Int) 192).tdiv 64 := by rw [ex]; exact ⟨rfl, rfl, rfl, rfl, rfl, rfl, rfl⟩
    have dx : x.1.du = (val L3 : Nat) := by rw [ex]; rfl
    have v_ta : (s1 x).1.ta = ((bev M1 : Nat) : Int) := by
      (repeat first | rw [s2_ta] | rw [s3_ta] | rw [s4_ta] | rw [s5_ta] | rw [s6_ta] | rw [s7_ta])
      rw [q1]
    have fl0 : (s1 x).1.rt = hs (val L2 : Nat) 1 ∧ (s1 x).1.mo = hs (val L2 : Nat) 2 ∧ (s1 x).1.pw = hs (val L2 : Nat) 4 ∧ (s1 x).1.st = hs (val L2 : Nat) 8 ∧ (s1 x).1.la = hs (val L2 : Nat) 16 ∧ (s1 x).1.jo = hs (val L2 : Nat) 32 ∧ (s1 x).1.po = (bits .and .i64 ((val L2 : Nat) : Int) 192).tdiv 64 := by
      (repeat first | rw [s1_rt] | rw [s2_rt] | rw [s3_rt] | rw [s4_rt] | rw [s5_rt] | rw [s6_rt] | rw [s7_rt] | rw [s1_mo] | rw [s2_mo] | rw [s3_mo] | rw [s4_mo] | rw [s5_mo] | rw [s6_mo] | rw [s7_mo] | rw [s1_pw] | rw [s2_pw] | rw [s3_pw] | rw [s4_pw] | rw [s5_pw] | rw [s6_pw] | rw [s7_pw] | rw [s1_st] | rw [s2_st] | rw [s3_st] | rw [s4_st] | rw [s5_st] | rw [s6_st] | rw [s7_st] | rw [s1_la] | rw [s2_la] | rw [s3_la] | rw [s4_la] | rw [s5_la] | rw [s6_la] | rw [s7_la] | rw [s1_jo] | rw [s2_jo] | rw [s3_jo] | rw [s4_jo] | rw [s5_jo] | rw [s6_jo] | rw [s7_jo] | rw [s1_po] | rw [s2_po] | rw [s3_po] | rw [s4_po] | rw [s5_po] | rw [s6_po] | rw [s7_po])
      exact fx
    have d0 : (s1 x).1.du = x.1.du := by (repeat first | rw [s1_du] | rw [s2_du] | rw [s3_du] | rw [s4_du] | rw [s5_du] | rw [s6_du] | rw [s7_du])
    generalize (s1 x).1 = G at *
    rw [z]
    have u1 := o1_is (g := G) l1 l2 l3 m1 (k1.trans kx) fl0 (d0.trans dx) v_ta
    have u2 := o2_no (g := G) (by rw [k1]; exact c1)
    have u3 := o3_no (g := G) (by rw [k1]; exact c2)
    have u4 := o4_no (g := G) (by rw [k1]; exact c3)
    have u5 := o5_no (g := G) (by rw [k1]; exact c4)
    rw [oct, u1, u2, u3, u4, u5, el, a1]
    simp
  · rw [rR_data h1 h2 h3 h4 h5] at he hk1 ⊢
    by_cases hz : (rN 2 (s5 (s4 (s3 (s2 (s1 x))))).2).1 = 0
    · rw [if_pos hz] at he hk1 ⊢
      obtain ⟨M6, R6, e6, m6, q6⟩ := s6_ok (x := s5 (s4 (s3 (s2 (s1 x))))) he
      obtain ⟨M5, R5, e5, m5, q5⟩ := s5_ok (x := s4 (s3 (s2 (s1 x)))) (by rw [e6])
      obtain ⟨M4, R4, e4, m4, q4⟩ := s4_ok (x := s3 (s2 (s1 x))) (by rw [e5])
      obtain ⟨M3, R3, e3, m3, q3⟩ := s3_ok (x := s2 (s1 x)) (by rw [e4])
      obtain ⟨M2, R2, e2, m2, q2⟩ := s2_ok (x := s1 x) (by rw [e3])
      obtain ⟨M1, R1, e1, m1, q1⟩ := s1_ok (x := x) (by rw [e2])
      obtain ⟨L1, L2, L3, R, el, l1, l2, l3, ex⟩ := fin x (by rw [e1]) hx.symm
      clear fin hx
      have a1 : R = M1 ++ R1 := by rw [ex] at e1; exact congrArg (fun z : Fr × Sg => z.2.2) e1
      have a2 : R1 = M2 ++ R2 := by have := congrArg (fun z : Fr × Sg => z.2.2) e2; rw [q1] at this; exact this
      have a3 : R2 = M3 ++ R3 := by have := congrArg (fun z : Fr × Sg => z.2.2) e3; rw [q2] at this; exact this
      have a4 : R3 = M4 ++ R4 := by have := congrArg (fun z : Fr × Sg => z.2.2) e4; rw [q3] at this; exact this
      have a5 : R4 = M5 ++ R5 := by have := congrArg (fun z : Fr × Sg => z.2.2) e5; rw [q4] at this; exact this
      have a6 : R5 = M6 ++ R6 := by have := congrArg (fun z : Fr × Sg => z.2.2) e6; rw [q5] at this; exact this
      have hk : isK x.1.kd := by have hk2 := hk1; (repeat first | rw [s1_kd] at hk2 | rw [s2_kd] at hk2 | rw [s3_kd] at hk2 | rw [s4_kd] at hk2 | rw [s5_kd] at hk2 | rw [s6_kd] at hk2 | rw [s7_kd] at hk2); exact hk2
      have c1 : fro x.1.kd := of_decide_eq_true ((hs_from hk).symm.trans h1)
      have c2 : nb x.1.kd := of_decide_eq_true ((hs_third hk).symm.trans h2)
      have c3 : pl x.1.kd := of_decide_eq_true ((hs_cat hk).symm.trans h4)
      have c4 : x.1.kd = 18 := of_decide_eq_true ((hs_key hk).symm.trans h5)
      have z : (s6 (s5 (s4 (s3 (s2 (s1 x)))))).2.2 = R6 := by rw [q6]
      have k1 : (s6 (s5 (s4 (s3 (s2 (s1 x)))))).1.kd = x.1.kd := by (repeat first | rw [s1_kd] | rw [s2_kd] | rw [s3_kd] | rw [s4_kd] | rw [s5_kd] | rw [s6_kd] | rw [s7_kd])
      have kx : x.1.kd = (val L1 : Nat) := by rw [ex]; rfl
      have fx : x.1.rt = hs (val L2 : Nat) 1 ∧ x.1.mo = hs (val L2 : Nat) 2 ∧ x.1.pw = hs (val L2 : Nat) 4 ∧ x.1.st = hs (val L2 : Nat) 8 ∧ x.1.la = hs (val L2 : Nat) 16 ∧ x.1.jo = hs (val L2 : Nat) 32 ∧ x.1.po = (bits .and .i64 ((val L2 : Nat) : Int) 192).tdiv 64 := by rw [ex]; exact ⟨rfl, rfl, rfl, rfl, rfl, rfl, rfl⟩
      have dx : x.1.du = (val L3 : Nat) := by rw [ex]; rfl
      have v_ta : (s6 (s5 (s4 (s3 (s2 (s1 x)))))).1.ta = ((bev M1 : Nat) : Int) := by
        (repeat first | rw [s2_ta] | rw [s3_ta] | rw [s4_ta] | rw [s5_ta] | rw [s6_ta] | rw [s7_ta])
        rw [q1]
      have v_fa : (s6 (s5 (s4 (s3 (s2 (s1 x)))))).1.fa = ((bev M2 : Nat) : Int) := by
        (repeat first | rw [s1_fa] | rw [s3_fa] | rw [s4_fa] | rw [s5_fa] | rw [s6_fa] | rw [s7_fa])
        rw [q2]
      have v_th : (s6 (s5 (s4 (s3 (s2 (s1 x)))))).1.th = ((bev M3 : Nat) : Int) := by
        (repeat first | rw [s1_th] | rw [s2_th] | rw [s4_th] | rw [s5_th] | rw [s6_th] | rw [s7_th])
        rw [q3]
      have v_sq : (s6 (s5 (s4 (s3 (s2 (s1 x)))))).1.sq = ((val M4 : Nat) : Int).tdiv 16 := by
        (repeat first | rw [s1_sq] | rw [s2_sq] | rw [s3_sq] | rw [s5_sq] | rw [s6_sq] | rw [s7_sq])
        rw [q4]
      have v_fg : (s6 (s5 (s4 (s3 (s2 (s1 x)))))).1.fg = ((val M4 : Nat) : Int).tmod 16 := by
        (repeat first | rw [s1_fg] | rw [s2_fg] | rw [s3_fg] | rw [s5_fg] | rw [s6_fg] | rw [s7_fg])
        rw [q4]
      have v_ct : (s6 (s5 (s4 (s3 (s2 (s1 x)))))).1.ct = ((val M5 : Nat) : Int) := by
        (repeat first | rw [s1_ct] | rw [s2_ct] | rw [s3_ct] | rw [s4_ct] | rw [s6_ct] | rw [s7_ct])
        rw [q5]
      have v_ky : (s6 (s5 (s4 (s3 (s2 (s1 x)))))).1.ky = ((val M6 : Nat) : Int) := by
        (repeat first | rw [s1_ky] | rw [s2_ky] | rw [s3_ky] | rw [s4_ky] | rw [s5_ky] | rw [s7_ky])
        rw [q6]
      have hky : ((s6 (s5 (s4 (s3 (s2 (s1 x)))))).1.ky = 0) := by
        have e6 : (s6 (s5 (s4 (s3 (s2 (s1 x)))))).1.ky = (rN 2 (s5 (s4 (s3 (s2 (s1 x))))).2).1 := by unfold s6; rfl
        (repeat first | rw [s1_ky] | rw [s2_ky] | rw [s3_ky] | rw [s4_ky] | rw [s5_ky] | rw [s7_ky])
        rw [e6]; exact hz
      have fl0 : (s6 (s5 (s4 (s3 (s2 (s1 x)))))).1.rt = hs (val L2 : Nat) 1 ∧ (s6 (s5 (s4 (s3 (s2 (s1 x)))))).1.mo = hs (val L2 : Nat) 2 ∧ (s6 (s5 (s4 (s3 (s2 (s1 x)))))).1.pw = hs (val L2 : Nat) 4 ∧ (s6 (s5 (s4 (s3 (s2 (s1 x)))))).1.st = hs (val L2 : Nat) 8 ∧ (s6 (s5 (s4 (s3 (s2 (s1 x)))))).1.la = hs (val L2 : Nat) 16 ∧ (s6 (s5 (s4 (s3 (s2 (s1 x)))))).1.jo = hs (val L2 : Nat) 32 ∧ (s6 (s5 (s4 (s3 (s2 (s1 x)))))).1.po = (bits .and .i64 ((val L2 : Nat) : Int) 192).tdiv 64 := by
        (repeat first | rw [s1_rt] | rw [s2_rt] | rw [s3_rt] | rw [s4_rt] | rw [s5_rt] | rw [s6_rt] | rw [s7_rt] | rw [s1_mo] | rw [s2_mo] | rw [s3_mo] | rw [s4_mo] | rw [s5_mo] | rw [s6_mo] | rw [s7_mo] | rw [s1_pw] | rw [s2_pw] | rw [s3_pw] | rw [s4_pw] | rw [s5_pw] | rw [s6_pw] | rw [s7_pw] | rw [s1_st] | rw [s2_st] | rw [s3_st] | rw [s4_st] | rw [s5_st] | rw [s6_st] | rw [s7_st] | rw [s1_la] | rw [s2_la] | rw [s3_la] | rw [s4_la] | rw [s5_la] | rw [s6_la] | rw [s7_la] | rw [s1_jo] | rw [s2_jo] | rw [s3_jo] | rw [s4_jo] | rw [s5_jo] | rw [s6_jo] | rw [s7_jo] | rw [s1_po] | rw [s2_po] | rw [s3_po] | rw [s4_po] | rw [s5_po] | rw [s6_po] | rw [s7_po])
        exact fx
      have d0 : (s6 (s5 (s4 (s3 (s2 (s1 x)))))).1.du = x.1.du := by (repeat first | rw [s1_du] | rw [s2_du] | rw [s3_du] | rw [s4_du] | rw [s5_du] | rw [s6_du] | rw [s7_du])
      generalize (s6 (s5 (s4 (s3 (s2 (s1 x)))))).1 = G at *
      rw [z]
      have u1 := o1_is (g := G) l1 l2 l3 m1 (k1.trans kx) fl0 (d0.trans dx) v_ta
      have u2 := o2_is (g := G) m2 (by rw [k1]; exact c1) v_fa
      have u3 := o3_is (g := G) m3 m4 (by rw [k1]; exact c2) v_th v_sq v_fg
      have u4 := o4_is (g := G) m5 (by rw [k1]; exact c3) v_ct
      have u5 := o5_nokey (g := G) m6 (by rw [k1]; exact c4) v_ky hky
      rw [oct, u1, u2, u3, u4, u5, el, a1, a2, a3, a4, a5, a6]
      simp
    · rw [if_neg hz] at he hk1 ⊢
      obtain ⟨M7, R7, e7, m7, q7⟩ := s7_ok (x := s6 (s5 (s4 (s3 (s2 (s1 x)))))) he
      obtain ⟨M6, R6, e6, m6, q6⟩ := s6_ok (x := s5 (s4 (s3 (s2 (s1 x))))) (by rw [e7])
      obtain ⟨M5, R5, e5, m5, q5⟩ := s5_ok (x := s4 (s3 (s2 (s1 x)))) (by rw [e6])
      obtain ⟨M4, R4, e4, m4, q4⟩ := s4_ok (x := s3 (s2 (s1 x))) (by rw [e5])
      obtain ⟨M3, R3, e3, m3, q3⟩ := s3_ok (x := s2 (s1 x)) (by rw [e4])
      obtain ⟨M2, R2, e2, m2, q2⟩ := s2_ok (x := s1 x) (by rw [e3])
      obtain ⟨M1, R1, e1, m1, q1⟩ := s1_ok (x := x) (by rw [e2])
      obtain ⟨L1, L2, L3, R, el, l1, l2, l3, ex⟩ := fin x (by rw [e1]) hx.symm
      clear fin hx
      have a1 : R = M1 ++ R1 := by rw [ex] at e1; exact congrArg (fun z : Fr × Sg => z.2.2) e1
      have a2 : R1 = M2 ++ R2 := by have := congrArg (fun z : Fr × Sg => z.2.2) e2; rw [q1] at this; exact this
      have a3 : R2 = M3 ++ R3 := by have := congrArg (fun z : Fr × Sg => z.2.2) e3; rw [q2] at this; exact this
      have a4 : R3 = M4 ++ R4 := by have := congrArg (fun z : Fr × Sg => z.2.2) e4; rw [q3] at this; exact this
      have a5 : R4 = M5 ++ R5 := by have := congrArg (fun z : Fr × Sg => z.2.2) e5; rw [q4] at this; exact this
      have a6 : R5 = M6 ++ R6 := by have := congrArg (fun z : Fr × Sg => z.2.2) e6; rw [q5] at this; exact this
      have a7 : R6 = M7 ++ R7 := by have := congrArg (fun z : Fr × Sg => z.2.2) e7; rw [q6] at this; exact this
      have hk : isK x.1.kd := by have hk2 := hk1; (repeat first | rw [s1_kd] at hk2 | rw [s2_kd] at hk2 | rw [s3_kd] at hk2 | rw [s4_kd] at hk2 | rw [s5_kd] at hk2 | rw [s6_kd] at hk2 | rw [s7_kd] at hk2); exact hk2
      have c1 : fro x.1.kd := of_decide_eq_true ((hs_from hk).symm.trans h1)
      have c2 : nb x.1.kd := of_decide_eq_true ((hs_third hk).symm.trans h2)
      have c3 : pl x.1.kd := of_decide_eq_true ((hs_cat hk).symm.trans h4)
      have c4 : x.1.kd = 18 := of_decide_eq_true ((hs_key hk).symm.trans h5)
      have z : (s7 (s6 (s5 (s4 (s3 (s2 (s1 x))))))).2.2 = R7 := by rw [q7]
      have k1 : (s7 (s6 (s5 (s4 (s3 (s2 (s1 x))))))).1.kd = x.1.kd := by (repeat first | rw [s1_kd] | rw [s2_kd] | rw [s3_kd] | rw [s4_kd] | rw [s5_kd] | rw [s6_kd] | rw [s7_kd])
      have kx : x.1.kd = (val L1 : Nat) := by rw [ex]; rfl
      have fx : x.1.rt = hs (val L2 : Nat) 1 ∧ x.1.mo = hs (val L2 : Nat) 2 ∧ x.1.pw = hs (val L2 : Nat) 4 ∧ x.1.st = hs (val L2 : Nat) 8 ∧ x.1.la = hs (val L2 : Nat) 16 ∧ x.1.jo = hs (val L2 : Nat) 32 ∧ x.1.po = (bits .and .i64 ((val L2 : Nat) : Int) 192).tdiv 64 := by rw [ex]; exact ⟨rfl, rfl, rfl, rfl, rfl, rfl, rfl⟩
      have dx : x.1.du = (val L3 : Nat) := by rw [ex]; rfl
      have v_ta : (s7 (s6 (s5 (s4 (s3 (s2 (s1 x))))))).1.ta = ((bev M1 : Nat) : Int) := by
        (repeat first | rw [s2_ta] | rw [s3_ta] | rw [s4_ta] | rw [s5_ta] | rw [s6_ta] | rw [s7_ta])
        rw [q1]
      have v_fa : (s7 (s6 (s5 (s4 (s3 (s2 (s1 x))))))).1.fa = ((bev M2 : Nat) : Int) := by
        (repeat first | rw [s1_fa] | rw [s3_fa] | rw [s4_fa] | rw [s5_fa] | rw [s6_fa] | rw [s7_fa])
        rw [q2]
      have v_th : (s7 (s6 (s5 (s4 (s3 (s2 (s1 x))))))).1.th = ((bev M3 : Nat) : Int) := by
        (repeat first | rw [s1_th] | rw [s2_th] | rw [s4_th] | rw [s5_th] | rw [s6_th] | rw [s7_th])
        rw [q3]
      have v_sq : (s7 (s6 (s5 (s4 (s3 (s2 (s1 x))))))).1.sq = ((val M4 : Nat) : Int).tdiv 16 := by
        (repeat first | rw [s1_sq] | rw [s2_sq] | rw [s3_sq] | rw [s5_sq] | rw [s6_sq] | rw [s7_sq])
        rw [q4]
      have v_fg : (s7 (s6 (s5 (s4 (s3 (s2 (s1 x))))))).1.fg = ((val M4 : Nat) : Int).tmod 16 := by
        (repeat first | rw [s1_fg] | rw [s2_fg] | rw [s3_fg] | rw [s5_fg] | rw [s6_fg] | rw [s7_fg])
        rw [q4]
      have v_ct : (s7 (s6 (s5 (s4 (s3 (s2 (s1 x))))))).1.ct = ((val M5 : Nat) : Int) := by
        (repeat first | rw [s1_ct] | rw [s2_ct] | rw [s3_ct] | rw [s4_ct] | rw [s6_ct] | rw [s7_ct])
        rw [q5]
      have v_ky : (s7 (s6 (s5 (s4 (s3 (s2 (s1 x))))))).1.ky = ((val M6 : Nat) : Int) := by
        (repeat first | rw [s1_ky] | rw [s2_ky] | rw [s3_ky] | rw [s4_ky] | rw [s5_ky] | rw [s7_ky])
        rw [q6]
      have v_cn : (s7 (s6 (s5 (s4 (s3 (s2 (s1 x))))))).1.cn = ((val M7 : Nat) : Int) := by
        (repeat first | rw [s1_cn] | rw [s2_cn] | rw [s3_cn] | rw [s4_cn] | rw [s5_cn] | rw [s6_cn])
        rw [q7]
      have hky : ¬ ((s7 (s6 (s5 (s4 (s3 (s2 (s1 x))))))).1.ky = 0) := by
        have e6 : (s6 (s5 (s4 (s3 (s2 (s1 x)))))).1.ky = (rN 2 (s5 (s4 (s3 (s2 (s1 x))))).2).1 := by unfold s6; rfl
        (repeat first | rw [s1_ky] | rw [s2_ky] | rw [s3_ky] | rw [s4_ky] | rw [s5_ky] | rw [s7_ky])
        rw [e6]; exact hz
      have fl0 : (s7 (s6 (s5 (s4 (s3 (s2 (s1 x))))))).1.rt = hs (val L2 : Nat) 1 ∧ (s7 (s6 (s5 (s4 (s3 (s2 (s1 x))))))).1.mo = hs (val L2 : Nat) 2 ∧ (s7 (s6 (s5 (s4 (s3 (s2 (s1 x))))))).1.pw = hs (val L2 : Nat) 4 ∧ (s7 (s6 (s5 (s4 (s3 (s2 (s1 x))))))).1.st = hs (val L2 : Nat) 8 ∧ (s7 (s6 (s5 (s4 (s3 (s2 (s1 x))))))).1.la = hs (val L2 : Nat) 16 ∧ (s7 (s6 (s5 (s4 (s3 (s2 (s1 x))))))).1.jo = hs (val L2 : Nat) 32 ∧ (s7 (s6 (s5 (s4 (s3 (s2 (s1 x))))))).1.po = (bits .and .i64 ((val L2 : Nat) : Int) 192).tdiv 64 := by
        (repeat first | rw [s1_rt] | rw [s2_rt] | rw [s3_rt] | rw [s4_rt] | rw [s5_rt] | rw [s6_rt] | rw [s7_rt] | rw [s1_mo] | rw [s2_mo] | rw [s3_mo] | rw [s4_mo] | rw [s5_mo] | rw [s6_mo] | rw [s7_mo] | rw [s1_pw] | rw [s2_pw] | rw [s3_pw] | rw [s4_pw] | rw [s5_pw] | rw [s6_pw] | rw [s7_pw] | rw [s1_st] | rw [s2_st] | rw [s3_st] | rw [s4_st] | rw [s5_st] | rw [s6_st] | rw [s7_st] | rw [s1_la] | rw [s2_la] | rw [s3_la] | rw [s4_la] | rw [s5_la] | rw [s6_la] | rw [s7_la] | rw [s1_jo] | rw [s2_jo] | rw [s3_jo] | rw [s4_jo] | rw [s5_jo] | rw [s6_jo] | rw [s7_jo] | rw [s1_po] | rw [s2_po] | rw [s3_po] | rw [s4_po] | rw [s5_po] | rw [s6_po] | rw [s7_po])
        exact fx
      have d0 : (s7 (s6 (s5 (s4 (s3 (s2 (s1 x))))))).1.du = x.1.du := by (repeat first | rw [s1_du] | rw [s2_du] | rw [s3_du] | rw [s4_du] | rw [s5_du] | rw [s6_du] | rw [s7_du])
      generalize (s7 (s6 (s5 (s4 (s3 (s2 (s1 x))))))).1 = G at *
      rw [z]
      have u1 := o1_is (g := G) l1 l2 l3 m1 (k1.trans kx) fl0 (d0.trans dx) v_ta
      have u2 := o2_is (g := G) m2 (by rw [k1]; exact c1) v_fa
      have u3 := o3_is (g := G) m3 m4 (by rw [k1]; exact c2) v_th v_sq v_fg
      have u4 := o4_is (g := G) m5 (by rw [k1]; exact c3) v_ct
      have u5 := o5_key (g := G) m6 m7 (by rw [k1]; exact c4) v_ky hky v_cn
      rw [oct, u1, u2, u3, u4, u5, el, a1, a2, a3, a4, a5, a6, a7]
      simp
  · rw [rR_null h1 h2 h3 h4 h5] at he hk1 ⊢
    obtain ⟨M5, R5, e5, m5, q5⟩ := s5_ok (x := s4 (s3 (s2 (s1 x)))) he
    obtain ⟨M4, R4, e4, m4, q4⟩ := s4_ok (x := s3 (s2 (s1 x))) (by rw [e5])
    obtain ⟨M3, R3, e3, m3, q3⟩ := s3_ok (x := s2 (s1 x)) (by rw [e4])
    obtain ⟨M2, R2, e2, m2, q2⟩ := s2_ok (x := s1 x) (by rw [e3])
    obtain ⟨M1, R1, e1, m1, q1⟩ := s1_ok (x := x) (by rw [e2])
    obtain ⟨L1, L2, L3, R, el, l1, l2, l3, ex⟩ := fin x (by rw [e1]) hx.symm
    clear fin hx
    have a1 : R = M1 ++ R1 := by rw [ex] at e1; exact congrArg (fun z : Fr × Sg => z.2.2) e1
    have a2 : R1 = M2 ++ R2 := by have := congrArg (fun z : Fr × Sg => z.2.2) e2; rw [q1] at this; exact this
    have a3 : R2 = M3 ++ R3 := by have := congrArg (fun z : Fr × Sg => z.2.2) e3; rw [q2] at this; exact this
    have a4 : R3 = M4 ++ R4 := by have := congrArg (fun z : Fr × Sg => z.2.2) e4; rw [q3] at this; exact this
    have a5 : R4 = M5 ++ R5 := by have := congrArg (fun z : Fr × Sg => z.2.2) e5; rw [q4] at this; exact this
    have hk : isK x.1.kd := by have hk2 := hk1; (repeat first | rw [s1_kd] at hk2 | rw [s2_kd] at hk2 | rw [s3_kd] at hk2 | rw [s4_kd] at hk2 | rw [s5_kd] at hk2 | rw [s6_kd] at hk2 | rw [s7_kd] at hk2); exact hk2
    have c1 : fro x.1.kd := of_decide_eq_true ((hs_from hk).symm.trans h1)
    have c2 : nb x.1.kd := of_decide_eq_true ((hs_third hk).symm.trans h2)
    have c3 : pl x.1.kd := of_decide_eq_true ((hs_cat hk).symm.trans h4)
    have c4 : ¬ x.1.kd = 18 := of_decide_eq_false ((hs_key hk).symm.trans h5)
    have z : (s5 (s4 (s3 (s2 (s1 x))))).2.2 = R5 := by rw [q5]
    have k1 : (s5 (s4 (s3 (s2 (s1 x))))).1.kd = x.1.kd := by (repeat first | rw [s1_kd] | rw [s2_kd] | rw [s3_kd] | rw [s4_kd] | rw [s5_kd] | rw [s6_kd] | rw [s7_kd])
    have kx : x.1.kd = (val L1 : Nat) := by rw [ex]; rfl
    have fx : x.1.rt = hs (val L2 : Nat) 1 ∧ x.1.mo = hs (val L2 : Nat) 2 ∧ x.1.pw = hs (val L2 : Nat) 4 ∧ x.1.st = hs (val L2 : Nat) 8 ∧ x.1.la = hs (val L2 : Nat) 16 ∧ x.1.jo = hs (val L2 : Nat) 32 ∧ x.1.po = (bits .and .i64 ((val L2 : Nat) : Int) 192).tdiv 64 := by rw [ex]; exact ⟨rfl, rfl, rfl, rfl, rfl, rfl, rfl⟩
    have dx : x.1.du = (val L3 : Nat) := by rw [ex]; rfl
    have v_ta : (s5 (s4 (s3 (s2 (s1 x))))).1.ta = ((bev M1 : Nat) : Int) := by
      (repeat first | rw [s2_ta] | rw [s3_ta] | rw [s4_ta] | rw [s5_ta] | rw [s6_ta] | rw [s7_ta])
      rw [q1]
    have v_fa : (s5 (s4 (s3 (s2 (s1 x))))).1.fa = ((bev M2 : Nat) : Int) := by
      (repeat first | rw [s1_fa] | rw [s3_fa] | rw [s4_fa] | rw [s5_fa] | rw [s6_fa] | rw [s7_fa])
      rw [q2]
    have v_th : (s5 (s4 (s3 (s2 (s1 x))))).1.th = ((bev M3 : Nat) : Int) := by
      (repeat first | rw [s1_th] | rw [s2_th] | rw [s4_th] | rw [s5_th] | rw [s6_th] | rw [s7_th])
      rw [q3]
    have v_sq : (s5 (s4 (s3 (s2 (s1 x))))).1.sq = ((val M4 : Nat) : Int).tdiv 16 := by
      (repeat first | rw [s1_sq] | rw [s2_sq] | rw [s3_sq] | rw [s5_sq] | rw [s6_sq] | rw [s7_sq])
      rw [q4]
    have v_fg : (s5 (s4 (s3 (s2 (s1 x))))).1.fg = ((val M4 : Nat) : Int).tmod 16 := by
      (repeat first | rw [s1_fg] | rw [s2_fg] | rw [s3_fg] | rw [s5_fg] | rw [s6_fg] | rw [s7_fg])
      rw [q4]
    have v_ct : (s5 (s4 (s3 (s2 (s1 x))))).1.ct = ((val M5 : Nat) : Int) := by
      (repeat first | rw [s1_ct] | rw [s2_ct] | rw [s3_ct] | rw [s4_ct] | rw [s6_ct] | rw [s7_ct])
      rw [q5]
    have fl0 : (s5 (s4 (s3 (s2 (s1 x))))).1.rt = hs (val L2 : Nat) 1 ∧ (s5 (s4 (s3 (s2 (s1 x))))).1.mo = hs (val L2 : Nat) 2 ∧ (s5 (s4 (s3 (s2 (s1 x))))).1.pw = hs (val L2 : Nat) 4 ∧ (s5 (s4 (s3 (s2 (s1 x))))).1.st = hs (val L2 : Nat) 8 ∧ (s5 (s4 (s3 (s2 (s1 x))))).1.la = hs (val L2 : Nat) 16 ∧ (s5 (s4 (s3 (s2 (s1 x))))).1.jo = hs (val L2 : Nat) 32 ∧ (s5 (s4 (s3 (s2 (s1 x))))).1.po = (bits .and .i64 ((val L2 : Nat) : Int) 192).tdiv 64 := by
      (repeat first | rw [s1_rt] | rw [s2_rt] | rw [s3_rt] | rw [s4_rt] | rw [s5_rt] | rw [s6_rt] | rw [s7_rt] | rw [s1_mo] | rw [s2_mo] | rw [s3_mo] | rw [s4_mo] | rw [s5_mo] | rw [s6_mo] | rw [s7_mo] | rw [s1_pw] | rw [s2_pw] | rw [s3_pw] | rw [s4_pw] | rw [s5_pw] | rw [s6_pw] | rw [s7_pw] | rw [s1_st] | rw [s2_st] | rw [s3_st] | rw [s4_st] | rw [s5_st] | rw [s6_st] | rw [s7_st] | rw [s1_la] | rw [s2_la] | rw [s3_la] | rw [s4_la] | rw [s5_la] | rw [s6_la] | rw [s7_la] | rw [s1_jo] | rw [s2_jo] | rw [s3_jo] | rw [s4_jo] | rw [s5_jo] | rw [s6_jo] | rw [s7_jo] | rw [s1_po] | rw [s2_po] | rw [s3_po] | rw [s4_po] | rw [s5_po] | rw [s6_po] | rw [s7_po])
      exact fx
    have d0 : (s5 (s4 (s3 (s2 (s1 x))))).1.du = x.1.du := by (repeat first | rw [s1_du] | rw [s2_du] | rw [s3_du] | rw [s4_du] | rw [s5_du] | rw [s6_du] | rw [s7_du])
    generalize (s5 (s4 (s3 (s2 (s1 x))))).1 = G at *
    rw [z]
    have u1 := o1_is (g := G) l1 l2 l3 m1 (k1.trans kx) fl0 (d0.trans dx) v_ta
    have u2 := o2_is (g := G) m2 (by rw [k1]; exact c1) v_fa
    have u3 := o3_is (g := G) m3 m4 (by rw [k1]; exact c2) v_th v_sq v_fg
    have u4 := o4_is (g := G) m5 (by rw [k1]; exact c3) v_ct
    have u5 := o5_no (g := G) (by rw [k1]; exact c4)
    rw [oct, u1, u2, u3, u4, u5, el, a1, a2, a3, a4, a5]
    simp
end Go.Proofs.YtacbhbejchjbiaaDoor

namespace Go.Proofs.YtacbhbejchjbiaaDoor
open Go.RowKit Go.Hd Go.Wr Go.Ad

/-- A valid frame's flags are among those that its kind uses. -/
theorem flags_used {f : Fr} (h : chk f = 0) : bits .andNot .i64 (setv f + 64 * f.po) (us f.kd) = 0 := by
  obtain ⟨h1, hr, -, hb⟩ := chk_ok h
  have hu : ¬ unu f := fun hu => hb (.inl hu)
  have ho := okf_of h
  obtain ⟨p, hp⟩ : ∃ p : Fin 3, f.po = (p.val : Int) := ⟨⟨f.po.toNat, by have := ho.po; omega⟩, by show f.po = ((f.po.toNat : Nat) : Int); have := ho.po; omega⟩
  have e : setv f + 64 * f.po = fsum f.rt f.mo f.pw f.st f.la f.jo f.po := rfl
  rw [e]
  have hfl : (f.rt = true → nb f.kd) ∧ (f.pw = true → nb f.kd) ∧ (f.mo = true → f.kd = 18) ∧ (f.jo = true → f.kd = 18) ∧ (f.st = true → pl f.kd) ∧ (f.la = true → pl f.kd) := by
    unfold unu ufl at hu
    grind
  obtain ⟨q1, q2, q3, q4, q5, q6⟩ := hfl
  have off : ∀ {b : Bool} {P : Prop}, (b = true → P) → ¬ P → b = false := fun {b} {P} h hn => by cases b; rfl; exact absurd (h rfl) hn
  have hpl0 := ho.pl0
  generalize f.kd = k at *
  clear e hu hb hr h ho
  rcases kinds h1 with rfl | rfl | rfl | rfl | rfl | rfl | rfl | rfl | rfl | rfl | rfl | rfl | rfl | rfl | rfl | rfl | rfl | rfl | rfl
  all_goals first
    | (rw [off q3 (by decide), off q4 (by decide), off q5 (by decide), off q6 (by decide), hpl0 (by decide), off q1 (by decide), off q2 (by decide)]
       first | exact fsum_none 0 | exact fsum_none 1 | exact fsum_none 2)
    | (rw [off q3 (by decide), off q4 (by decide), off q5 (by decide), off q6 (by decide), hpl0 (by decide)]; exact fsum_mg _ _)
    | (rw [hp, off q3 (by decide), off q4 (by decide)]; exact fsum_null _ _ _ _ p)
    | (rw [hp]; exact fsum_data _ _ _ _ _ _ p)

theorem flags_back {f : Fr} (h : chk f = 0) : hs (setv f + 64 * f.po) 1 = f.rt ∧ hs (setv f + 64 * f.po) 2 = f.mo ∧ hs (setv f + 64 * f.po) 4 = f.pw ∧ hs (setv f + 64 * f.po) 8 = f.st ∧ hs (setv f + 64 * f.po) 16 = f.la ∧ hs (setv f + 64 * f.po) 32 = f.jo ∧ (bits .and .i64 (setv f + 64 * f.po) 192).tdiv 64 = f.po := by
  have ho := okf_of h
  obtain ⟨p, hp⟩ : ∃ p : Fin 3, f.po = (p.val : Int) := ⟨⟨f.po.toNat, by have := ho.po; omega⟩, by show f.po = ((f.po.toNat : Nat) : Int); have := ho.po; omega⟩
  have e : setv f + 64 * f.po = fsum f.rt f.mo f.pw f.st f.la f.jo f.po := rfl
  rw [e]
  generalize f.po = z at *
  subst hp
  exact fsum_bits _ _ _ _ _ _ p

/-- The fields that are not used are zero. -/
theorem unused_zero {f : Fr} (h : chk f = 0) : (¬ fro f.kd → f.fa = 0) ∧ (¬ nb f.kd → f.th = 0 ∧ f.sq = 0) ∧ (¬ pl f.kd → f.ct = 0) ∧ (¬ f.kd = 18 → f.fg = 0 ∧ f.ky = 0 ∧ f.cn = 0) ∧ (f.ky = 0 → f.cn = 0) := by
  obtain ⟨h1, hr, -, hb⟩ := chk_ok h
  have hu : ¬ unu f := fun hu => hb (.inl hu)
  have hc : ¬ (¬ f.cn = 0 ∧ f.ky = 0) := fun hh => hb (.inr (.inr (.inl hh)))
  unfold unu at hu
  refine ⟨?_, ?_, ?_, ?_, ?_⟩ <;> grind
/-- The check without the body. -/
theorem chk_nobody {f : Fr} (h : chk f = 0) : chk { f with bo := ⟨#[]⟩ } = 0 := by
  obtain ⟨h1, hr, h3, hb⟩ := chk_ok h
  refine chk_zero h1 hr (fun hh => absurd hh.2 (show ¬ 2048 < (⟨#[]⟩ : ByteArray).size by decide)) (fun hb' => hb ?_)
  rcases hb' with hu | hb'
  · rcases hu with a | a | a | a | a | a
    · exact .inl (.inl a)
    · exact .inl (.inr (.inl a))
    · exact .inl (.inr (.inr (.inl a)))
    · exact .inl (.inr (.inr (.inr (.inl a))))
    · exact absurd rfl a.2
    · exact .inl (.inr (.inr (.inr (.inr (.inr a)))))
  · exact .inr hb'

theorem fr_ext {a b : Fr} (h0 : a.kd = b.kd) (h1 : a.rt = b.rt) (h2 : a.mo = b.mo) (h3 : a.pw = b.pw) (h4 : a.st = b.st) (h5 : a.la = b.la) (h6 : a.jo = b.jo) (h7 : a.po = b.po) (h8 : a.du = b.du) (h9 : a.ta = b.ta) (h10 : a.fa = b.fa) (h11 : a.th = b.th) (h12 : a.sq = b.sq) (h13 : a.fg = b.fg) (h14 : a.ct = b.ct) (h15 : a.ky = b.ky) (h16 : a.cn = b.cn) (h17 : a.bo = b.bo) : a = b := by
  cases a; cases b; simp only at *; subst h0 h1 h2 h3 h4 h5 h6 h7 h8 h9 h10 h11 h12 h13 h14 h15 h16 h17; rfl
theorem seq_split {a b : Int} (ha : 0 ≤ a) (hb : 0 ≤ b ∧ b ≤ 15) : (16 * a + b).tdiv 16 = a ∧ (16 * a + b).tmod 16 = b := by
  rw [Int.tdiv_eq_ediv_of_nonneg (by omega), Int.tmod_eq_emod_of_nonneg (by omega)]; omega
theorem rdP_of {σ : Sg} {g : Fr} {R : List UInt8} (h : rR (rS σ) = (g, (0, R))) (hc : chk g = 0) : rdP σ = (g, (0, R)) := by
  unfold rdP
  rw [h]
  simp only [hc]
  rfl
set_option maxHeartbeats 4000000 in
/-- What was written is read, and what follows is left. -/
theorem rd_back {f : Fr} (h : chk f = 0) (R : List UInt8) : rdP (0, oct f ++ R) = ({ f with bo := ⟨#[]⟩ }, (0, R)) := by
  have ho := okf_of h
  obtain ⟨z1, z2, z3, z4, z5⟩ := unused_zero h
  have hs0 : rS (0, oct f ++ R) = (f0 f.kd (setv f + 64 * f.po) f.du, (0, be f.ta.toNat ++ (o2 f ++ (o3 f ++ (o4 f ++ (o5 f ++ R)))))) := by
    have e : oct f ++ R = le f.kd.toNat 1 ++ (le (setv f + 64 * f.po).toNat 1 ++ (le f.du.toNat 2 ++ (be f.ta.toNat ++ (o2 f ++ (o3 f ++ (o4 f ++ (o5 f ++ R))))))) := by
      unfold oct o1; simp
    have sb := setv_bounds f
    have k1 := val_le_of_lt (n := f.kd.toNat) (k := 1) (by have := ho.kd; unfold isK at this; show _ < 256; omega)
    have k2 := val_le_of_lt (n := (setv f + 64 * f.po).toNat) (k := 1) (by have := ho.po; show _ < 256; omega)
    have k3 := val_le_of_lt (n := f.du.toNat) (k := 2) (by have := ho.du; show _ < 65536; omega)
    have c1 : ((f.kd.toNat : Nat) : Int) = f.kd := by have := ho.kd; unfold isK at this; omega
    have c2 : (((setv f + 64 * f.po).toNat : Nat) : Int) = setv f + 64 * f.po := by have := ho.po; omega
    have c3 : ((f.du.toNat : Nat) : Int) = f.du := by have := ho.du; omega
    rw [e, rS_eq _ _ _ _ (le_len _ _) (le_len _ _) (le_len _ _) (by rw [k1, c1]; exact ho.kd) (by rw [k1, k2, c1, c2]; exact flags_used h), k1, k2, k3, c1, c2, c3]
  have hk : isK f.kd := ho.kd
  have b1 := hs_from hk
  have b2 := hs_third hk
  have b3 := hs_seq hk
  have b4 := hs_cat hk
  have b5 := hs_key hk
  obtain ⟨t1, t2, t3, t4, t5, t6, t7⟩ := flags_back h
  obtain ⟨x, hxe⟩ : ∃ x, x = rS (0, oct f ++ R) := ⟨_, rfl⟩
  have X : x.1 = f0 f.kd (setv f + 64 * f.po) f.du := by rw [hxe, hs0]
  have hx2 : x.2 = (0, be f.ta.toNat ++ (o2 f ++ (o3 f ++ (o4 f ++ (o5 f ++ R))))) := by rw [hxe, hs0]
  have Xk : x.1.kd = f.kd := by rw [X]; rfl
  rw [← Xk] at b1 b2 b3 b4 b5
  have cl : (fro f.kd ∧ nb f.kd ∧ ¬ pl f.kd ∧ ¬ f.kd = 18) ∨ (fro f.kd ∧ ¬ nb f.kd ∧ ¬ pl f.kd ∧ ¬ f.kd = 18) ∨ (¬ fro f.kd ∧ ¬ nb f.kd ∧ ¬ pl f.kd ∧ ¬ f.kd = 18) ∨ (fro f.kd ∧ nb f.kd ∧ pl f.kd ∧ f.kd = 18) ∨ (fro f.kd ∧ nb f.kd ∧ pl f.kd ∧ ¬ f.kd = 18) := by
    generalize f.kd = k at hk
    rcases kinds hk with rfl | rfl | rfl | rfl | rfl | rfl | rfl | rfl | rfl | rfl | rfl | rfl | rfl | rfl | rfl | rfl | rfl | rfl | rfl <;> decide
  clear hs0
  rcases cl with ⟨c1, c2, c3, c4⟩ | ⟨c1, c2, c3, c4⟩ | ⟨c1, c2, c3, c4⟩ | ⟨c1, c2, c3, c4⟩ | ⟨c1, c2, c3, c4⟩
  · have q1 := b1.trans (decide_eq_true (by rw [Xk]; exact c1))
    have q2 := b2.trans (decide_eq_true (by rw [Xk]; exact c2))
    have q3 := b3.trans (decide_eq_true (by rw [Xk]; exact c2))
    have q4 := b4.trans (decide_eq_false (by rw [Xk]; exact c3))
    have q5 := b5.trans (decide_eq_false (by rw [Xk]; exact c4))
    have e2 : o2 f = be f.fa.toNat := if_pos c1
    have e3 : o3 f = be f.th.toNat ++ le (16 * f.sq + f.fg).toNat 2 := if_pos c2
    have e4 : o4 f = [] := if_neg c3
    have e5 : o5 f = [] := if_neg c4
    have w0 : x.2 = (0, be f.ta.toNat ++ (be f.fa.toNat ++ (be f.th.toNat ++ (le (16 * f.sq + f.fg).toNat 2 ++ R)))) := by rw [hx2, e2, e3, e4, e5]; simp
    have y1 := rA_be f.ta (be f.fa.toNat ++ (be f.th.toNat ++ (le (16 * f.sq + f.fg).toNat 2 ++ R))) ho.ta
    have w1 : (s1 x).2 = (0, be f.fa.toNat ++ (be f.th.toNat ++ (le (16 * f.sq + f.fg).toNat 2 ++ R))) := by show (rA x.2).2 = _; rw [w0, y1]
    have v_ta : (s1 x).1.ta = f.ta := by show (rA x.2).1 = _; rw [w0, y1]
    have y2 := rA_be f.fa (be f.th.toNat ++ (le (16 * f.sq + f.fg).toNat 2 ++ R)) (ho.fa c1).1
    have w2 : (s2 (s1 x)).2 = (0, be f.th.toNat ++ (le (16 * f.sq + f.fg).toNat 2 ++ R)) := by show (rA (s1 x).2).2 = _; rw [w1, y2]
    have v_fa : (s2 (s1 x)).1.fa = f.fa := by show (rA (s1 x).2).1 = _; rw [w1, y2]
    have y3 := rA_be f.th (le (16 * f.sq + f.fg).toNat 2 ++ R) (ho.th c2)
    have w3 : (s3 (s2 (s1 x))).2 = (0, le (16 * f.sq + f.fg).toNat 2 ++ R) := by show (rA (s2 (s1 x)).2).2 = _; rw [w2, y3]
    have v_th : (s3 (s2 (s1 x))).1.th = f.th := by show (rA (s2 (s1 x)).2).1 = _; rw [w2, y3]
    have y4 := rN_le 2 (16 * f.sq + f.fg) (R) (by have := ho.sq c2; have := ho.fg; omega) (by have := ho.sq c2; have := ho.fg; show _ < (65536 : Int); omega)
    have w4 : (s4 (s3 (s2 (s1 x)))).2 = (0, R) := by show (rN 2 (s3 (s2 (s1 x))).2).2 = _; rw [w3, y4]
    have v_sq : (s4 (s3 (s2 (s1 x)))).1.sq = f.sq := by show (rN 2 (s3 (s2 (s1 x))).2).1.tdiv 16 = _; rw [w3, y4]; exact (seq_split (ho.sq c2).1 ho.fg).1
    have v_fg : (s4 (s3 (s2 (s1 x)))).1.fg = f.fg := by show (rN 2 (s3 (s2 (s1 x))).2).1.tmod 16 = _; rw [w3, y4]; exact (seq_split (ho.sq c2).1 ho.fg).2
    have hG : (s4 (s3 (s2 (s1 x)))).1 = { f with bo := ⟨#[]⟩ } := fr_ext (by rw [s4_kd]; rw [s3_kd]; rw [s2_kd]; rw [s1_kd]; rw [X]; rfl) (by rw [s4_rt]; rw [s3_rt]; rw [s2_rt]; rw [s1_rt]; rw [X]; exact t1) (by rw [s4_mo]; rw [s3_mo]; rw [s2_mo]; rw [s1_mo]; rw [X]; exact t2) (by rw [s4_pw]; rw [s3_pw]; rw [s2_pw]; rw [s1_pw]; rw [X]; exact t3) (by rw [s4_st]; rw [s3_st]; rw [s2_st]; rw [s1_st]; rw [X]; exact t4) (by rw [s4_la]; rw [s3_la]; rw [s2_la]; rw [s1_la]; rw [X]; exact t5) (by rw [s4_jo]; rw [s3_jo]; rw [s2_jo]; rw [s1_jo]; rw [X]; exact t6) (by rw [s4_po]; rw [s3_po]; rw [s2_po]; rw [s1_po]; rw [X]; exact t7) (by rw [s4_du]; rw [s3_du]; rw [s2_du]; rw [s1_du]; rw [X]; rfl) (by rw [s4_ta]; rw [s3_ta]; rw [s2_ta]; exact v_ta) (by rw [s4_fa]; rw [s3_fa]; exact v_fa) (by rw [s4_th]; exact v_th) (by exact v_sq) (by exact v_fg) (by rw [s4_ct]; rw [s3_ct]; rw [s2_ct]; rw [s1_ct]; rw [X]; exact (z3 c3).symm) (by rw [s4_ky]; rw [s3_ky]; rw [s2_ky]; rw [s1_ky]; rw [X]; exact ((z4 c4).2.1).symm) (by rw [s4_cn]; rw [s3_cn]; rw [s2_cn]; rw [s1_cn]; rw [X]; exact ((z4 c4).2.2).symm) (by rw [s4_bo]; rw [s3_bo]; rw [s2_bo]; rw [s1_bo]; rw [X]; rfl)
    have hr : rR x = s4 (s3 (s2 (s1 x))) := rR_mg q1 q2 q3 q4 q5
    refine rdP_of ?_ (chk_nobody h)
    rw [← hxe, hr, ← hG, ← w4]
  · have q1 := b1.trans (decide_eq_true (by rw [Xk]; exact c1))
    have q2 := b2.trans (decide_eq_false (by rw [Xk]; exact c2))
    have q3 := b3.trans (decide_eq_false (by rw [Xk]; exact c2))
    have q4 := b4.trans (decide_eq_false (by rw [Xk]; exact c3))
    have q5 := b5.trans (decide_eq_false (by rw [Xk]; exact c4))
    have e2 : o2 f = be f.fa.toNat := if_pos c1
    have e3 : o3 f = [] := if_neg c2
    have e4 : o4 f = [] := if_neg c3
    have e5 : o5 f = [] := if_neg c4
    have w0 : x.2 = (0, be f.ta.toNat ++ (be f.fa.toNat ++ R)) := by rw [hx2, e2, e3, e4, e5]; simp
    have y1 := rA_be f.ta (be f.fa.toNat ++ R) ho.ta
    have w1 : (s1 x).2 = (0, be f.fa.toNat ++ R) := by show (rA x.2).2 = _; rw [w0, y1]
    have v_ta : (s1 x).1.ta = f.ta := by show (rA x.2).1 = _; rw [w0, y1]
    have y2 := rA_be f.fa (R) (ho.fa c1).1
    have w2 : (s2 (s1 x)).2 = (0, R) := by show (rA (s1 x).2).2 = _; rw [w1, y2]
    have v_fa : (s2 (s1 x)).1.fa = f.fa := by show (rA (s1 x).2).1 = _; rw [w1, y2]
    have hG : (s2 (s1 x)).1 = { f with bo := ⟨#[]⟩ } := fr_ext (by rw [s2_kd]; rw [s1_kd]; rw [X]; rfl) (by rw [s2_rt]; rw [s1_rt]; rw [X]; exact t1) (by rw [s2_mo]; rw [s1_mo]; rw [X]; exact t2) (by rw [s2_pw]; rw [s1_pw]; rw [X]; exact t3) (by rw [s2_st]; rw [s1_st]; rw [X]; exact t4) (by rw [s2_la]; rw [s1_la]; rw [X]; exact t5) (by rw [s2_jo]; rw [s1_jo]; rw [X]; exact t6) (by rw [s2_po]; rw [s1_po]; rw [X]; exact t7) (by rw [s2_du]; rw [s1_du]; rw [X]; rfl) (by rw [s2_ta]; exact v_ta) (by exact v_fa) (by rw [s2_th]; rw [s1_th]; rw [X]; exact ((z2 c2).1).symm) (by rw [s2_sq]; rw [s1_sq]; rw [X]; exact ((z2 c2).2).symm) (by rw [s2_fg]; rw [s1_fg]; rw [X]; exact ((z4 c4).1).symm) (by rw [s2_ct]; rw [s1_ct]; rw [X]; exact (z3 c3).symm) (by rw [s2_ky]; rw [s1_ky]; rw [X]; exact ((z4 c4).2.1).symm) (by rw [s2_cn]; rw [s1_cn]; rw [X]; exact ((z4 c4).2.2).symm) (by rw [s2_bo]; rw [s1_bo]; rw [X]; rfl)
    have hr : rR x = s2 (s1 x) := rR_rts q1 q2 q3 q4 q5
    refine rdP_of ?_ (chk_nobody h)
    rw [← hxe, hr, ← hG, ← w2]
  · have q1 := b1.trans (decide_eq_false (by rw [Xk]; exact c1))
    have q2 := b2.trans (decide_eq_false (by rw [Xk]; exact c2))
    have q3 := b3.trans (decide_eq_false (by rw [Xk]; exact c2))
    have q4 := b4.trans (decide_eq_false (by rw [Xk]; exact c3))
    have q5 := b5.trans (decide_eq_false (by rw [Xk]; exact c4))
    have e2 : o2 f = [] := if_neg c1
    have e3 : o3 f = [] := if_neg c2
    have e4 : o4 f = [] := if_neg c3
    have e5 : o5 f = [] := if_neg c4
    have w0 : x.2 = (0, be f.ta.toNat ++ R) := by rw [hx2, e2, e3, e4, e5]; simp
    have y1 := rA_be f.ta (R) ho.ta
    have w1 : (s1 x).2 = (0, R) := by show (rA x.2).2 = _; rw [w0, y1]
    have v_ta : (s1 x).1.ta = f.ta := by show (rA x.2).1 = _; rw [w0, y1]
    have hG : (s1 x).1 = { f with bo := ⟨#[]⟩ } := fr_ext (by rw [s1_kd]; rw [X]; rfl) (by rw [s1_rt]; rw [X]; exact t1) (by rw [s1_mo]; rw [X]; exact t2) (by rw [s1_pw]; rw [X]; exact t3) (by rw [s1_st]; rw [X]; exact t4) (by rw [s1_la]; rw [X]; exact t5) (by rw [s1_jo]; rw [X]; exact t6) (by rw [s1_po]; rw [X]; exact t7) (by rw [s1_du]; rw [X]; rfl) (by exact v_ta) (by rw [s1_fa]; rw [X]; exact (z1 c1).symm) (by rw [s1_th]; rw [X]; exact ((z2 c2).1).symm) (by rw [s1_sq]; rw [X]; exact ((z2 c2).2).symm) (by rw [s1_fg]; rw [X]; exact ((z4 c4).1).symm) (by rw [s1_ct]; rw [X]; exact (z3 c3).symm) (by rw [s1_ky]; rw [X]; exact ((z4 c4).2.1).symm) (by rw [s1_cn]; rw [X]; exact ((z4 c4).2.2).symm) (by rw [s1_bo]; rw [X]; rfl)
    have hr : rR x = s1 x := rR_cts q1 q2 q3 q4 q5
    refine rdP_of ?_ (chk_nobody h)
    rw [← hxe, hr, ← hG, ← w1]
  · have q1 := b1.trans (decide_eq_true (by rw [Xk]; exact c1))
    have q2 := b2.trans (decide_eq_true (by rw [Xk]; exact c2))
    have q3 := b3.trans (decide_eq_true (by rw [Xk]; exact c2))
    have q4 := b4.trans (decide_eq_true (by rw [Xk]; exact c3))
    have q5 := b5.trans (decide_eq_true (by rw [Xk]; exact c4))
    by_cases hky : f.ky = 0
    · have e2 : o2 f = be f.fa.toNat := if_pos c1
      have e3 : o3 f = be f.th.toNat ++ le (16 * f.sq + f.fg).toNat 2 := if_pos c2
      have e4 : o4 f = le f.ct.toNat 1 := if_pos c3
      have e5 : o5 f = le f.ky.toNat 2 ++ [] := by unfold o5; rw [if_pos c4, if_pos hky]
      have w0 : x.2 = (0, be f.ta.toNat ++ (be f.fa.toNat ++ (be f.th.toNat ++ (le (16 * f.sq + f.fg).toNat 2 ++ (le f.ct.toNat 1 ++ (le f.ky.toNat 2 ++ R)))))) := by rw [hx2, e2, e3, e4, e5]; simp
      have y1 := rA_be f.ta (be f.fa.toNat ++ (be f.th.toNat ++ (le (16 * f.sq + f.fg).toNat 2 ++ (le f.ct.toNat 1 ++ (le f.ky.toNat 2 ++ R))))) ho.ta
      have w1 : (s1 x).2 = (0, be f.fa.toNat ++ (be f.th.toNat ++ (le (16 * f.sq + f.fg).toNat 2 ++ (le f.ct.toNat 1 ++ (le f.ky.toNat 2 ++ R))))) := by show (rA x.2).2 = _; rw [w0, y1]
      have v_ta : (s1 x).1.ta = f.ta := by show (rA x.2).1 = _; rw [w0, y1]
      have y2 := rA_be f.fa (be f.th.toNat ++ (le (16 * f.sq + f.fg).toNat 2 ++ (le f.ct.toNat 1 ++ (le f.ky.toNat 2 ++ R)))) (ho.fa c1).1
      have w2 : (s2 (s1 x)).2 = (0, be f.th.toNat ++ (le (16 * f.sq + f.fg).toNat 2 ++ (le f.ct.toNat 1 ++ (le f.ky.toNat 2 ++ R)))) := by show (rA (s1 x).2).2 = _; rw [w1, y2]
      have v_fa : (s2 (s1 x)).1.fa = f.fa := by show (rA (s1 x).2).1 = _; rw [w1, y2]
      have y3 := rA_be f.th (le (16 * f.sq + f.fg).toNat 2 ++ (le f.ct.toNat 1 ++ (le f.ky.toNat 2 ++ R))) (ho.th c2)
      have w3 : (s3 (s2 (s1 x))).2 = (0, le (16 * f.sq + f.fg).toNat 2 ++ (le f.ct.toNat 1 ++ (le f.ky.toNat 2 ++ R))) := by show (rA (s2 (s1 x)).2).2 = _; rw [w2, y3]
      have v_th : (s3 (s2 (s1 x))).1.th = f.th := by show (rA (s2 (s1 x)).2).1 = _; rw [w2, y3]
      have y4 := rN_le 2 (16 * f.sq + f.fg) (le f.ct.toNat 1 ++ (le f.ky.toNat 2 ++ R)) (by have := ho.sq c2; have := ho.fg; omega) (by have := ho.sq c2; have := ho.fg; show _ < (65536 : Int); omega)
      have w4 : (s4 (s3 (s2 (s1 x)))).2 = (0, le f.ct.toNat 1 ++ (le f.ky.toNat 2 ++ R)) := by show (rN 2 (s3 (s2 (s1 x))).2).2 = _; rw [w3, y4]
      have v_sq : (s4 (s3 (s2 (s1 x)))).1.sq = f.sq := by show (rN 2 (s3 (s2 (s1 x))).2).1.tdiv 16 = _; rw [w3, y4]; exact (seq_split (ho.sq c2).1 ho.fg).1
      have v_fg : (s4 (s3 (s2 (s1 x)))).1.fg = f.fg := by show (rN 2 (s3 (s2 (s1 x))).2).1.tmod 16 = _; rw [w3, y4]; exact (seq_split (ho.sq c2).1 ho.fg).2
      have y5 := rN_le 1 f.ct (le f.ky.toNat 2 ++ R) (ho.ct c3).1 (by have := ho.ct c3; show _ < (256 : Int); omega)
      have w5 : (s5 (s4 (s3 (s2 (s1 x))))).2 = (0, le f.ky.toNat 2 ++ R) := by show (rN 1 (s4 (s3 (s2 (s1 x)))).2).2 = _; rw [w4, y5]
      have v_ct : (s5 (s4 (s3 (s2 (s1 x))))).1.ct = f.ct := by show (rN 1 (s4 (s3 (s2 (s1 x)))).2).1 = _; rw [w4, y5]
      have y6 := rN_le 2 f.ky (R) (ho.ky c4).1 (by have := ho.ky c4; show _ < (65536 : Int); omega)
      have w6 : (s6 (s5 (s4 (s3 (s2 (s1 x)))))).2 = (0, R) := by show (rN 2 (s5 (s4 (s3 (s2 (s1 x))))).2).2 = _; rw [w5, y6]
      have v_ky : (s6 (s5 (s4 (s3 (s2 (s1 x)))))).1.ky = f.ky := by show (rN 2 (s5 (s4 (s3 (s2 (s1 x))))).2).1 = _; rw [w5, y6]
      have hG : (s6 (s5 (s4 (s3 (s2 (s1 x)))))).1 = { f with bo := ⟨#[]⟩ } := fr_ext (by rw [s6_kd]; rw [s5_kd]; rw [s4_kd]; rw [s3_kd]; rw [s2_kd]; rw [s1_kd]; rw [X]; rfl) (by rw [s6_rt]; rw [s5_rt]; rw [s4_rt]; rw [s3_rt]; rw [s2_rt]; rw [s1_rt]; rw [X]; exact t1) (by rw [s6_mo]; rw [s5_mo]; rw [s4_mo]; rw [s3_mo]; rw [s2_mo]; rw [s1_mo]; rw [X]; exact t2) (by rw [s6_pw]; rw [s5_pw]; rw [s4_pw]; rw [s3_pw]; rw [s2_pw]; rw [s1_pw]; rw [X]; exact t3) (by rw [s6_st]; rw [s5_st]; rw [s4_st]; rw [s3_st]; rw [s2_st]; rw [s1_st]; rw [X]; exact t4) (by rw [s6_la]; rw [s5_la]; rw [s4_la]; rw [s3_la]; rw [s2_la]; rw [s1_la]; rw [X]; exact t5) (by rw [s6_jo]; rw [s5_jo]; rw [s4_jo]; rw [s3_jo]; rw [s2_jo]; rw [s1_jo]; rw [X]; exact t6) (by rw [s6_po]; rw [s5_po]; rw [s4_po]; rw [s3_po]; rw [s2_po]; rw [s1_po]; rw [X]; exact t7) (by rw [s6_du]; rw [s5_du]; rw [s4_du]; rw [s3_du]; rw [s2_du]; rw [s1_du]; rw [X]; rfl) (by rw [s6_ta]; rw [s5_ta]; rw [s4_ta]; rw [s3_ta]; rw [s2_ta]; exact v_ta) (by rw [s6_fa]; rw [s5_fa]; rw [s4_fa]; rw [s3_fa]; exact v_fa) (by rw [s6_th]; rw [s5_th]; rw [s4_th]; exact v_th) (by rw [s6_sq]; rw [s5_sq]; exact v_sq) (by rw [s6_fg]; rw [s5_fg]; exact v_fg) (by rw [s6_ct]; exact v_ct) (by exact v_ky) (by rw [s6_cn]; rw [s5_cn]; rw [s4_cn]; rw [s3_cn]; rw [s2_cn]; rw [s1_cn]; rw [X]; exact (z5 hky).symm) (by rw [s6_bo]; rw [s5_bo]; rw [s4_bo]; rw [s3_bo]; rw [s2_bo]; rw [s1_bo]; rw [X]; rfl)
      have hz : (rN 2 (s5 (s4 (s3 (s2 (s1 x))))).2).1 = f.ky := by rw [w5, y6]
      have hr : rR x = s6 (s5 (s4 (s3 (s2 (s1 x))))) := by rw [rR_data q1 q2 q3 q4 q5, if_pos (by rw [hz]; exact hky)]
      refine rdP_of ?_ (chk_nobody h)
      rw [← hxe, hr, ← hG, ← w6]
    · have e2 : o2 f = be f.fa.toNat := if_pos c1
      have e3 : o3 f = be f.th.toNat ++ le (16 * f.sq + f.fg).toNat 2 := if_pos c2
      have e4 : o4 f = le f.ct.toNat 1 := if_pos c3
      have e5 : o5 f = le f.ky.toNat 2 ++ le f.cn.toNat 5 := by unfold o5; rw [if_pos c4, if_neg hky]
      have w0 : x.2 = (0, be f.ta.toNat ++ (be f.fa.toNat ++ (be f.th.toNat ++ (le (16 * f.sq + f.fg).toNat 2 ++ (le f.ct.toNat 1 ++ (le f.ky.toNat 2 ++ (le f.cn.toNat 5 ++ R))))))) := by rw [hx2, e2, e3, e4, e5]; simp
      have y1 := rA_be f.ta (be f.fa.toNat ++ (be f.th.toNat ++ (le (16 * f.sq + f.fg).toNat 2 ++ (le f.ct.toNat 1 ++ (le f.ky.toNat 2 ++ (le f.cn.toNat 5 ++ R)))))) ho.ta
      have w1 : (s1 x).2 = (0, be f.fa.toNat ++ (be f.th.toNat ++ (le (16 * f.sq + f.fg).toNat 2 ++ (le f.ct.toNat 1 ++ (le f.ky.toNat 2 ++ (le f.cn.toNat 5 ++ R)))))) := by show (rA x.2).2 = _; rw [w0, y1]
      have v_ta : (s1 x).1.ta = f.ta := by show (rA x.2).1 = _; rw [w0, y1]
      have y2 := rA_be f.fa (be f.th.toNat ++ (le (16 * f.sq + f.fg).toNat 2 ++ (le f.ct.toNat 1 ++ (le f.ky.toNat 2 ++ (le f.cn.toNat 5 ++ R))))) (ho.fa c1).1
      have w2 : (s2 (s1 x)).2 = (0, be f.th.toNat ++ (le (16 * f.sq + f.fg).toNat 2 ++ (le f.ct.toNat 1 ++ (le f.ky.toNat 2 ++ (le f.cn.toNat 5 ++ R))))) := by show (rA (s1 x).2).2 = _; rw [w1, y2]
      have v_fa : (s2 (s1 x)).1.fa = f.fa := by show (rA (s1 x).2).1 = _; rw [w1, y2]
      have y3 := rA_be f.th (le (16 * f.sq + f.fg).toNat 2 ++ (le f.ct.toNat 1 ++ (le f.ky.toNat 2 ++ (le f.cn.toNat 5 ++ R)))) (ho.th c2)
      have w3 : (s3 (s2 (s1 x))).2 = (0, le (16 * f.sq + f.fg).toNat 2 ++ (le f.ct.toNat 1 ++ (le f.ky.toNat 2 ++ (le f.cn.toNat 5 ++ R)))) := by show (rA (s2 (s1 x)).2).2 = _; rw [w2, y3]
      have v_th : (s3 (s2 (s1 x))).1.th = f.th := by show (rA (s2 (s1 x)).2).1 = _; rw [w2, y3]
      have y4 := rN_le 2 (16 * f.sq + f.fg) (le f.ct.toNat 1 ++ (le f.ky.toNat 2 ++ (le f.cn.toNat 5 ++ R))) (by have := ho.sq c2; have := ho.fg; omega) (by have := ho.sq c2; have := ho.fg; show _ < (65536 : Int); omega)
      have w4 : (s4 (s3 (s2 (s1 x)))).2 = (0, le f.ct.toNat 1 ++ (le f.ky.toNat 2 ++ (le f.cn.toNat 5 ++ R))) := by show (rN 2 (s3 (s2 (s1 x))).2).2 = _; rw [w3, y4]
      have v_sq : (s4 (s3 (s2 (s1 x)))).1.sq = f.sq := by show (rN 2 (s3 (s2 (s1 x))).2).1.tdiv 16 = _; rw [w3, y4]; exact (seq_split (ho.sq c2).1 ho.fg).1
      have v_fg : (s4 (s3 (s2 (s1 x)))).1.fg = f.fg := by show (rN 2 (s3 (s2 (s1 x))).2).1.tmod 16 = _; rw [w3, y4]; exact (seq_split (ho.sq c2).1 ho.fg).2
      have y5 := rN_le 1 f.ct (le f.ky.toNat 2 ++ (le f.cn.toNat 5 ++ R)) (ho.ct c3).1 (by have := ho.ct c3; show _ < (256 : Int); omega)
      have w5 : (s5 (s4 (s3 (s2 (s1 x))))).2 = (0, le f.ky.toNat 2 ++ (le f.cn.toNat 5 ++ R)) := by show (rN 1 (s4 (s3 (s2 (s1 x)))).2).2 = _; rw [w4, y5]
      have v_ct : (s5 (s4 (s3 (s2 (s1 x))))).1.ct = f.ct := by show (rN 1 (s4 (s3 (s2 (s1 x)))).2).1 = _; rw [w4, y5]
      have y6 := rN_le 2 f.ky (le f.cn.toNat 5 ++ R) (ho.ky c4).1 (by have := ho.ky c4; show _ < (65536 : Int); omega)
      have w6 : (s6 (s5 (s4 (s3 (s2 (s1 x)))))).2 = (0, le f.cn.toNat 5 ++ R) := by show (rN 2 (s5 (s4 (s3 (s2 (s1 x))))).2).2 = _; rw [w5, y6]
      have v_ky : (s6 (s5 (s4 (s3 (s2 (s1 x)))))).1.ky = f.ky := by show (rN 2 (s5 (s4 (s3 (s2 (s1 x))))).2).1 = _; rw [w5, y6]
      have y7 := rN_le 5 f.cn (R) (ho.cn c4).1 (by have := ho.cn c4; show _ < (1099511627776 : Int); omega)
      have w7 : (s7 (s6 (s5 (s4 (s3 (s2 (s1 x))))))).2 = (0, R) := by show (rN 5 (s6 (s5 (s4 (s3 (s2 (s1 x)))))).2).2 = _; rw [w6, y7]
      have v_cn : (s7 (s6 (s5 (s4 (s3 (s2 (s1 x))))))).1.cn = f.cn := by show (rN 5 (s6 (s5 (s4 (s3 (s2 (s1 x)))))).2).1 = _; rw [w6, y7]
      have hG : (s7 (s6 (s5 (s4 (s3 (s2 (s1 x))))))).1 = { f with bo := ⟨#[]⟩ } := fr_ext (by rw [s7_kd]; rw [s6_kd]; rw [s5_kd]; rw [s4_kd]; rw [s3_kd]; rw [s2_kd]; rw [s1_kd]; rw [X]; rfl) (by rw [s7_rt]; rw [s6_rt]; rw [s5_rt]; rw [s4_rt]; rw [s3_rt]; rw [s2_rt]; rw [s1_rt]; rw [X]; exact t1) (by rw [s7_mo]; rw [s6_mo]; rw [s5_mo]; rw [s4_mo]; rw [s3_mo]; rw [s2_mo]; rw [s1_mo]; rw [X]; exact t2) (by rw [s7_pw]; rw [s6_pw]; rw [s5_pw]; rw [s4_pw]; rw [s3_pw]; rw [s2_pw]; rw [s1_pw]; rw [X]; exact t3) (by rw [s7_st]; rw [s6_st]; rw [s5_st]; rw [s4_st]; rw [s3_st]; rw [s2_st]; rw [s1_st]; rw [X]; exact t4) (by rw [s7_la]; rw [s6_la]; rw [s5_la]; rw [s4_la]; rw [s3_la]; rw [s2_la]; rw [s1_la]; rw [X]; exact t5) (by rw [s7_jo]; rw [s6_jo]; rw [s5_jo]; rw [s4_jo]; rw [s3_jo]; rw [s2_jo]; rw [s1_jo]; rw [X]; exact t6) (by rw [s7_po]; rw [s6_po]; rw [s5_po]; rw [s4_po]; rw [s3_po]; rw [s2_po]; rw [s1_po]; rw [X]; exact t7) (by rw [s7_du]; rw [s6_du]; rw [s5_du]; rw [s4_du]; rw [s3_du]; rw [s2_du]; rw [s1_du]; rw [X]; rfl) (by rw [s7_ta]; rw [s6_ta]; rw [s5_ta]; rw [s4_ta]; rw [s3_ta]; rw [s2_ta]; exact v_ta) (by rw [s7_fa]; rw [s6_fa]; rw [s5_fa]; rw [s4_fa]; rw [s3_fa]; exact v_fa) (by rw [s7_th]; rw [s6_th]; rw [s5_th]; rw [s4_th]; exact v_th) (by rw [s7_sq]; rw [s6_sq]; rw [s5_sq]; exact v_sq) (by rw [s7_fg]; rw [s6_fg]; rw [s5_fg]; exact v_fg) (by rw [s7_ct]; rw [s6_ct]; exact v_ct) (by rw [s7_ky]; exact v_ky) (by exact v_cn) (by rw [s7_bo]; rw [s6_bo]; rw [s5_bo]; rw [s4_bo]; rw [s3_bo]; rw [s2_bo]; rw [s1_bo]; rw [X]; rfl)
      have hz : (rN 2 (s5 (s4 (s3 (s2 (s1 x))))).2).1 = f.ky := by rw [w5, y6]
      have hr : rR x = s7 (s6 (s5 (s4 (s3 (s2 (s1 x)))))) := by rw [rR_data q1 q2 q3 q4 q5, if_neg (by rw [hz]; exact hky)]
      refine rdP_of ?_ (chk_nobody h)
      rw [← hxe, hr, ← hG, ← w7]
  · have q1 := b1.trans (decide_eq_true (by rw [Xk]; exact c1))
    have q2 := b2.trans (decide_eq_true (by rw [Xk]; exact c2))
    have q3 := b3.trans (decide_eq_true (by rw [Xk]; exact c2))
    have q4 := b4.trans (decide_eq_true (by rw [Xk]; exact c3))
    have q5 := b5.trans (decide_eq_false (by rw [Xk]; exact c4))
    have e2 : o2 f = be f.fa.toNat := if_pos c1
    have e3 : o3 f = be f.th.toNat ++ le (16 * f.sq + f.fg).toNat 2 := if_pos c2
    have e4 : o4 f = le f.ct.toNat 1 := if_pos c3
    have e5 : o5 f = [] := if_neg c4
    have w0 : x.2 = (0, be f.ta.toNat ++ (be f.fa.toNat ++ (be f.th.toNat ++ (le (16 * f.sq + f.fg).toNat 2 ++ (le f.ct.toNat 1 ++ R))))) := by rw [hx2, e2, e3, e4, e5]; simp
    have y1 := rA_be f.ta (be f.fa.toNat ++ (be f.th.toNat ++ (le (16 * f.sq + f.fg).toNat 2 ++ (le f.ct.toNat 1 ++ R)))) ho.ta
    have w1 : (s1 x).2 = (0, be f.fa.toNat ++ (be f.th.toNat ++ (le (16 * f.sq + f.fg).toNat 2 ++ (le f.ct.toNat 1 ++ R)))) := by show (rA x.2).2 = _; rw [w0, y1]
    have v_ta : (s1 x).1.ta = f.ta := by show (rA x.2).1 = _; rw [w0, y1]
    have y2 := rA_be f.fa (be f.th.toNat ++ (le (16 * f.sq + f.fg).toNat 2 ++ (le f.ct.toNat 1 ++ R))) (ho.fa c1).1
    have w2 : (s2 (s1 x)).2 = (0, be f.th.toNat ++ (le (16 * f.sq + f.fg).toNat 2 ++ (le f.ct.toNat 1 ++ R))) := by show (rA (s1 x).2).2 = _; rw [w1, y2]
    have v_fa : (s2 (s1 x)).1.fa = f.fa := by show (rA (s1 x).2).1 = _; rw [w1, y2]
    have y3 := rA_be f.th (le (16 * f.sq + f.fg).toNat 2 ++ (le f.ct.toNat 1 ++ R)) (ho.th c2)
    have w3 : (s3 (s2 (s1 x))).2 = (0, le (16 * f.sq + f.fg).toNat 2 ++ (le f.ct.toNat 1 ++ R)) := by show (rA (s2 (s1 x)).2).2 = _; rw [w2, y3]
    have v_th : (s3 (s2 (s1 x))).1.th = f.th := by show (rA (s2 (s1 x)).2).1 = _; rw [w2, y3]
    have y4 := rN_le 2 (16 * f.sq + f.fg) (le f.ct.toNat 1 ++ R) (by have := ho.sq c2; have := ho.fg; omega) (by have := ho.sq c2; have := ho.fg; show _ < (65536 : Int); omega)
    have w4 : (s4 (s3 (s2 (s1 x)))).2 = (0, le f.ct.toNat 1 ++ R) := by show (rN 2 (s3 (s2 (s1 x))).2).2 = _; rw [w3, y4]
    have v_sq : (s4 (s3 (s2 (s1 x)))).1.sq = f.sq := by show (rN 2 (s3 (s2 (s1 x))).2).1.tdiv 16 = _; rw [w3, y4]; exact (seq_split (ho.sq c2).1 ho.fg).1
    have v_fg : (s4 (s3 (s2 (s1 x)))).1.fg = f.fg := by show (rN 2 (s3 (s2 (s1 x))).2).1.tmod 16 = _; rw [w3, y4]; exact (seq_split (ho.sq c2).1 ho.fg).2
    have y5 := rN_le 1 f.ct (R) (ho.ct c3).1 (by have := ho.ct c3; show _ < (256 : Int); omega)
    have w5 : (s5 (s4 (s3 (s2 (s1 x))))).2 = (0, R) := by show (rN 1 (s4 (s3 (s2 (s1 x)))).2).2 = _; rw [w4, y5]
    have v_ct : (s5 (s4 (s3 (s2 (s1 x))))).1.ct = f.ct := by show (rN 1 (s4 (s3 (s2 (s1 x)))).2).1 = _; rw [w4, y5]
    have hG : (s5 (s4 (s3 (s2 (s1 x))))).1 = { f with bo := ⟨#[]⟩ } := fr_ext (by rw [s5_kd]; rw [s4_kd]; rw [s3_kd]; rw [s2_kd]; rw [s1_kd]; rw [X]; rfl) (by rw [s5_rt]; rw [s4_rt]; rw [s3_rt]; rw [s2_rt]; rw [s1_rt]; rw [X]; exact t1) (by rw [s5_mo]; rw [s4_mo]; rw [s3_mo]; rw [s2_mo]; rw [s1_mo]; rw [X]; exact t2) (by rw [s5_pw]; rw [s4_pw]; rw [s3_pw]; rw [s2_pw]; rw [s1_pw]; rw [X]; exact t3) (by rw [s5_st]; rw [s4_st]; rw [s3_st]; rw [s2_st]; rw [s1_st]; rw [X]; exact t4) (by rw [s5_la]; rw [s4_la]; rw [s3_la]; rw [s2_la]; rw [s1_la]; rw [X]; exact t5) (by rw [s5_jo]; rw [s4_jo]; rw [s3_jo]; rw [s2_jo]; rw [s1_jo]; rw [X]; exact t6) (by rw [s5_po]; rw [s4_po]; rw [s3_po]; rw [s2_po]; rw [s1_po]; rw [X]; exact t7) (by rw [s5_du]; rw [s4_du]; rw [s3_du]; rw [s2_du]; rw [s1_du]; rw [X]; rfl) (by rw [s5_ta]; rw [s4_ta]; rw [s3_ta]; rw [s2_ta]; exact v_ta) (by rw [s5_fa]; rw [s4_fa]; rw [s3_fa]; exact v_fa) (by rw [s5_th]; rw [s4_th]; exact v_th) (by rw [s5_sq]; exact v_sq) (by rw [s5_fg]; exact v_fg) (by exact v_ct) (by rw [s5_ky]; rw [s4_ky]; rw [s3_ky]; rw [s2_ky]; rw [s1_ky]; rw [X]; exact ((z4 c4).2.1).symm) (by rw [s5_cn]; rw [s4_cn]; rw [s3_cn]; rw [s2_cn]; rw [s1_cn]; rw [X]; exact ((z4 c4).2.2).symm) (by rw [s5_bo]; rw [s4_bo]; rw [s3_bo]; rw [s2_bo]; rw [s1_bo]; rw [X]; rfl)
    have hr : rR x = s5 (s4 (s3 (s2 (s1 x)))) := rR_null q1 q2 q3 q4 q5
    refine rdP_of ?_ (chk_nobody h)
    rw [← hxe, hr, ← hG, ← w5]
/-- What Read does with these octets. -/
structure RdC (l : List UInt8) (y : Fr) (τ : Sg) : Prop where
  rd : ∀ w b, HdTab w → Rs w b (0, l) → b ≠ 0 → Calls Tryd.prog 21 #[.pointer (some ⟨b, 0, none⟩)] w fun e w' => e = .returned (Fr_.v y) ∧ Rs w' b τ ∧ But b w w'
  bad : τ.1 ≠ 0 → y = Fr_.zf
  good : τ.1 = 0 → chk y = 0 ∧ oct y ++ τ.2 = l
  fru : FrU y
theorem rdC (l : List UInt8) : RdC l (rdP (0, l)).1 (rdP (0, l)).2 := by
  refine ⟨fun w b ht h hb => progRead_any (0, l) w b ht h hb, fun h => ?_, fun h => rd_written l h, ?_⟩
  · unfold rdP at h ⊢
    simp only at h ⊢
    split
    · rename_i h0; rw [if_pos h0] at h; exact absurd h0 h
    · rfl
  · unfold rdP
    simp only
    split
    · exact fru_rd _
    · exact (show FrU Fr_.zf from ⟨by constructor <;> decide, by constructor <;> decide, by constructor <;> decide⟩)
end Go.Proofs.YtacbhbejchjbiaaDoor
