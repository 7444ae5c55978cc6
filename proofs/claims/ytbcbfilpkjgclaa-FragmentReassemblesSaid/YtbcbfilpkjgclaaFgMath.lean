/-
  OF NO PROGRAM: fragmentation: sizes of pieces, their number, the pieces; reassembly: what adding a part gives; the pieces added in order give the packet.
-/
import Derived.WalkKit
namespace Go.Fg

/-- A reassembly state. -/
@[ext] structure Pt where
  b : Bool
  q : Int
  n : Int
  s : ByteArray
/-- A part. -/
@[ext] structure Xr where
  q : Int
  f : Int
  m : Bool
  r : Bool
  s : ByteArray
def zp : Pt := ⟨false, 0, 0, ⟨#[]⟩⟩
def zx : Xr := ⟨0, 0, false, false, ⟨#[]⟩⟩

/-! ### Sizes and numbers -/
def qt (a b : Nat) : Nat := (a - 1) / b + 1
def up (n k : Nat) : Nat := if n / k * k < n then n / k + 1 else n / k
/-- The piece size, as the program has it. -/
def ps (n : Nat) (t : Int) : Nat := if t < 1 ∨ (n : Int) ≤ t then n else max t.toNat (qt n 16)
/-- The piece size, at least 1. -/
def kz (n : Nat) (t : Int) : Nat := max (ps n t) 1
/-- The number of pieces. -/
def cn (n : Nat) (t : Int) : Nat := if n = 0 then 1 else qt n (ps n t)
/-- The piece size, as the reference has it. -/
def rsz (n : Nat) (t : Int) : Nat := if t < 1 ∨ (n : Int) ≤ t then max n 1 else if 16 < up n t.toNat then up n 16 else t.toNat

theorem up_zero (k : Nat) : up 0 k = 0 := by unfold up; simp
theorem up_qt {n k : Nat} (hn : 0 < n) (hk : 0 < k) : up n k = qt n k := by
  have e : n / k * k + n % k = n := Nat.div_add_mod' n k
  have hm := Nat.mod_lt n hk
  unfold up qt
  generalize n / k = c at *
  generalize n % k = r at *
  split
  · rename_i h
    congr 1
    refine (Nat.div_eq_of_lt_le ?_ ?_).symm
    · omega
    · rw [Nat.succ_mul]; omega
  · rename_i h
    obtain ⟨d, rfl⟩ : ∃ d, c = d + 1 := ⟨c - 1, by
      have : c ≠ 0 := by
        rintro rfl
        rw [Nat.zero_mul] at e h
        omega
      omega⟩
    rw [Nat.succ_mul] at e h
    congr 1
    refine (Nat.div_eq_of_lt_le ?_ ?_).symm
    · omega
    · rw [Nat.succ_mul]; omega
theorem qt_pos (a b : Nat) : 1 ≤ qt a b := Nat.le_add_left ..
theorem qt_gt {n k m : Nat} (hk : 0 < k) : m < qt n k ↔ m * k ≤ n - 1 := by
  unfold qt
  rw [Nat.lt_succ_iff, Nat.le_div_iff_mul_le hk]
theorem ps_pos {n : Nat} (t : Int) (hn : 0 < n) : 0 < ps n t := by
  unfold ps
  split
  · exact hn
  · rename_i h; omega
theorem kz_pos (n : Nat) (t : Int) : 0 < kz n t := by unfold kz; omega
theorem kz_eq {n : Nat} (t : Int) (hn : 0 < n) : kz n t = ps n t := by have := ps_pos t hn; unfold kz; omega
theorem ps_zero (t : Int) : ps 0 t = 0 := by
  unfold ps
  split
  · rfl
  · rename_i h; omega
theorem rsz_kz (n : Nat) (t : Int) : rsz n t = kz n t := by
  unfold rsz kz ps
  split
  · rfl
  · rename_i h
    have hn : 0 < n := by omega
    have ht : 0 < t.toNat := by omega
    rw [up_qt hn ht, up_qt hn (by decide : 0 < 16)]
    have h1 := qt_gt (n := n) (k := t.toNat) (m := 16) ht
    have h2 := qt_gt (n := n) (k := 16) (m := t.toNat) (by decide)
    rw [Nat.mul_comm] at h2
    split
    · rename_i h3
      have := h2.2 (h1.1 h3)
      omega
    · rename_i h3
      have : ¬ t.toNat < qt n 16 := fun h => h3 (h1.2 (h2.1 h))
      omega
theorem cn_zero (t : Int) : cn 0 t = 1 := rfl
theorem cn_pos (n : Nat) (t : Int) : 1 ≤ cn n t := by unfold cn; split; exact Nat.le_refl _; exact qt_pos _ _
theorem cn_ref (n : Nat) (t : Int) : max 1 (up n (kz n t)) = cn n t := by
  unfold cn
  split
  · rename_i h; subst h; rw [up_zero]; rfl
  · rename_i h
    have hn : 0 < n := by omega
    rw [up_qt hn (kz_pos n t), kz_eq t hn]
    have := qt_pos n (ps n t)
    omega
theorem cn_eq {n : Nat} (t : Int) (hn : 0 < n) : cn n t = qt n (ps n t) := if_neg (by omega)
theorem cn_le (n : Nat) (t : Int) : cn n t ≤ 16 := by
  unfold cn
  split
  · decide
  · rename_i h
    have hn : 0 < n := by omega
    by_cases h16 : 16 < qt n (ps n t)
    · have h1 := (qt_gt (ps_pos t hn)).1 h16
      unfold ps at h1
      split at h1
      · omega
      · have h2 : qt n 16 ≤ max t.toNat (qt n 16) := Nat.le_max_right _ _
        unfold qt at h1 h2
        omega
    · omega
/-- A piece behind which another one comes. -/
theorem cn_gt {n k : Nat} (t : Int) : k + 1 < cn n t ↔ (k + 1) * kz n t < n := by
  by_cases hn : n = 0
  · subst hn; rw [cn_zero]; omega
  · have hn' : 0 < n := by omega
    rw [cn_eq t hn', qt_gt (ps_pos t hn'), kz_eq t hn']; omega
theorem cn_le_n {n k : Nat} (t : Int) (h : k < cn n t) : k * kz n t ≤ n := by
  cases k with
  | zero => omega
  | succ k => exact Nat.le_of_lt ((cn_gt t).1 h)
theorem cn_lt_n {n k : Nat} (t : Int) (hn : 0 < n) (h : k < cn n t) : k * kz n t < n := by
  cases k with
  | zero => omega
  | succ k => exact (cn_gt t).1 h
theorem cn_full (n : Nat) (t : Int) : n ≤ cn n t * kz n t := by
  have h := cn_pos n t
  obtain ⟨c, hc⟩ : ∃ c, cn n t = c + 1 := ⟨cn n t - 1, by omega⟩
  have : ¬ (c + 1) * kz n t < n := fun hh => by have := (cn_gt t).2 hh; omega
  rw [hc]; omega
/-- The program's test: more is left than a piece. -/
theorem more_iff {n k : Nat} (t : Int) (h : k < cn n t) : ps n t < n - k * kz n t ↔ k + 1 < cn n t := by
  rw [cn_gt, Nat.succ_mul]
  by_cases hn : n = 0
  · subst hn; rw [ps_zero]; omega
  · have := cn_le_n t h
    rw [kz_eq t (by omega)] at *; omega
theorem kz_le (n : Nat) (t : Int) (hn : 0 < n) : kz n t ≤ n := by
  rw [kz_eq t hn]
  unfold ps
  split
  · exact Nat.le_refl _
  · rename_i h; unfold qt; omega

/-! ### Pieces -/
def pc (s : ByteArray) (k i : Nat) : ByteArray := s.extract (i * k) (min s.size (i * k + k))
def pcs (s : ByteArray) (t : Int) : List ByteArray := (List.range (cn s.size t)).map (pc s (kz s.size t))
theorem pcs_len (s : ByteArray) (t : Int) : (pcs s t).length = cn s.size t := by unfold pcs; simp
theorem pcs_get {s : ByteArray} {t : Int} {i : Nat} (h : i < (pcs s t).length) : (pcs s t)[i] = pc s (kz s.size t) i := by
  have e : (pcs s t)[i]? = some (pc s (kz s.size t) i) := by
    rw [pcs_len] at h
    unfold pcs; simp [h]
  exact (List.getElem?_eq_some_iff.1 e).2
theorem pcs_take {s : ByteArray} {t : Int} {k : Nat} (h : k < cn s.size t) : (pcs s t).take (k + 1) = (pcs s t).take k ++ [pc s (kz s.size t) k] := by
  have h' : k < (pcs s t).length := by rw [pcs_len]; exact h
  rw [List.take_succ_eq_append_getElem h', pcs_get]
theorem pc_size (s : ByteArray) (k i : Nat) : (pc s k i).size = min s.size (i * k + k) - i * k := by
  unfold pc; rw [ByteArray.size_extract]; omega
theorem pc_mid {s : ByteArray} {t : Int} {i : Nat} (h : i + 1 < cn s.size t) : (pc s (kz s.size t) i).size = kz s.size t := by
  have := (cn_gt t).1 h
  rw [Nat.succ_mul] at this
  rw [pc_size]; omega
theorem pc_le (s : ByteArray) (k i : Nat) : (pc s k i).size ≤ k := by rw [pc_size]; omega
theorem pc_le_n (s : ByteArray) (k i : Nat) : (pc s k i).size ≤ s.size := by rw [pc_size]; omega
theorem pc_pos {s : ByteArray} {t : Int} {i : Nat} (hn : 0 < s.size) (h : i < cn s.size t) : 0 < (pc s (kz s.size t) i).size := by
  have h1 := cn_lt_n t hn h
  have h2 := kz_pos s.size t
  rw [pc_size]; omega
theorem pc_zero {s : ByteArray} {k i : Nat} (hl : s.size ≤ i * k + k) : pc s k i = s.extract (i * k) s.size := by
  unfold pc; rw [Nat.min_eq_left hl]
/-- The first octets of what is left are the piece, the others are what is left then. -/
theorem rest_take (s : ByteArray) (k i : Nat) : (s.extract (i * k) s.size).extract 0 k = pc s k i := by
  unfold pc
  rw [ByteArray.extract_extract]
  congr 1
  · omega
theorem rest_drop (s : ByteArray) (k i : Nat) : (s.extract (i * k) s.size).extract k (s.extract (i * k) s.size).size = s.extract ((i + 1) * k) s.size := by
  rw [ByteArray.extract_extract, ByteArray.size_extract, Nat.succ_mul]
  congr 1
  omega
theorem rest_size (s : ByteArray) (i : Nat) : (s.extract i s.size).size = s.size - i := by rw [ByteArray.size_extract]; omega
/-- What the first pieces make. -/
def pre (s : ByteArray) (k i : Nat) : ByteArray := s.extract 0 (min s.size (i * k))
theorem pre_zero (s : ByteArray) (k : Nat) : pre s k 0 = ⟨#[]⟩ := by
  unfold pre
  rw [Nat.zero_mul, Nat.min_zero]
  apply ByteArray.ext; simp
theorem pre_succ {s : ByteArray} {k i : Nat} (h : i * k ≤ s.size) : pre s k i ++ pc s k i = pre s k (i + 1) := by
  unfold pre pc
  rw [Nat.min_eq_right h, ByteArray.extract_append_extract, Nat.succ_mul]
  congr 1 <;> omega
theorem pre_all (s : ByteArray) (t : Int) : pre s (kz s.size t) (cn s.size t) = s := by
  unfold pre
  rw [Nat.min_eq_left (cn_full _ _)]
  exact ByteArray.extract_zero_size
theorem pre_size (s : ByteArray) (k i : Nat) : (pre s k i).size = min s.size (i * k) := by
  unfold pre; rw [ByteArray.size_extract]; omega
theorem empty_app (s : ByteArray) : (⟨#[]⟩ : ByteArray) ++ s = s := ByteArray.empty_append

/-! ### Adding a part -/
def poss (x : Xr) : Bool := decide ((0 ≤ x.q ∧ x.q < 4096) ∧ x.s.size ≤ 2048 ∧ 0 ≤ x.f ∧ x.f ≤ 15 ∧ ¬ (x.f = 15 ∧ x.m = true))
def cont (p : Pt) (x : Xr) : Bool := decide (p.b = true ∧ p.q = x.q ∧ p.n = x.f ∧ p.s.size + x.s.size ≤ 2048)
/-- The state behind a part, the packet's octets being d with it. -/
def prS (d : ByteArray) (x : Xr) : Pt := if x.m = true then ⟨true, x.q, x.f + 1, d⟩ else zp
def prC (x : Xr) : Int := if x.m = true then 0 else 1
def prD (d : ByteArray) (x : Xr) : ByteArray := if x.m = true then ⟨#[]⟩ else d
/-- What becomes of a part: refused, begun, continued. -/
def kd (p : Pt) (x : Xr) : Nat := if poss x = true then (if x.f = 0 then 1 else if cont p x = true then 2 else 0) else 0
def adS (p : Pt) (x : Xr) : Pt := if kd p x = 0 then p else if kd p x = 1 then prS x.s x else prS (p.s ++ x.s) x
def adC (p : Pt) (x : Xr) : Int := if kd p x = 0 then 2 else prC x
def adD (p : Pt) (x : Xr) : ByteArray := if kd p x = 0 then ⟨#[]⟩ else if kd p x = 1 then prD x.s x else prD (p.s ++ x.s) x
theorem poss_iff {x : Xr} : poss x = true ↔ (0 ≤ x.q ∧ x.q < 4096) ∧ x.s.size ≤ 2048 ∧ 0 ≤ x.f ∧ x.f ≤ 15 ∧ ¬ (x.f = 15 ∧ x.m = true) := decide_eq_true_iff
theorem cont_iff {p : Pt} {x : Xr} : cont p x = true ↔ p.b = true ∧ p.q = x.q ∧ p.n = x.f ∧ p.s.size + x.s.size ≤ 2048 := decide_eq_true_iff
theorem kd_no {p : Pt} {x : Xr} (h : ¬ poss x = true) : kd p x = 0 := if_neg h
theorem kd_first {p : Pt} {x : Xr} (h : poss x = true) (hf : x.f = 0) : kd p x = 1 := (if_pos h).trans (if_pos hf)
theorem kd_next {p : Pt} {x : Xr} (h : poss x = true) (hf : ¬ x.f = 0) (hc : cont p x = true) : kd p x = 2 := ((if_pos h).trans (if_neg hf)).trans (if_pos hc)
theorem kd_other {p : Pt} {x : Xr} (hf : ¬ x.f = 0) (hc : ¬ cont p x = true) : kd p x = 0 := by
  unfold kd
  rw [if_neg hf, if_neg hc]
  split <;> rfl
theorem ad_0 {p : Pt} {x : Xr} (h : kd p x = 0) : adS p x = p ∧ adC p x = 2 ∧ adD p x = ⟨#[]⟩ := ⟨if_pos h, if_pos h, if_pos h⟩
theorem ad_1 {p : Pt} {x : Xr} (h : kd p x = 1) : adS p x = prS x.s x ∧ adC p x = prC x ∧ adD p x = prD x.s x := by
  unfold adS adC adD; rw [h]; exact ⟨rfl, rfl, rfl⟩
theorem ad_2 {p : Pt} {x : Xr} (h : kd p x = 2) : adS p x = prS (p.s ++ x.s) x ∧ adC p x = prC x ∧ adD p x = prD (p.s ++ x.s) x := by
  unfold adS adC adD; rw [h]; exact ⟨rfl, rfl, rfl⟩
theorem pr_more {x : Xr} (d : ByteArray) (h : x.m = true) : prS d x = ⟨true, x.q, x.f + 1, d⟩ ∧ prC x = 0 ∧ prD d x = ⟨#[]⟩ := ⟨if_pos h, if_pos h, if_pos h⟩
theorem pr_last {x : Xr} (d : ByteArray) (h : ¬ x.m = true) : prS d x = zp ∧ prC x = 1 ∧ prD d x = d := ⟨if_neg h, if_neg h, if_neg h⟩

/-! ### The pieces of a packet, added in order -/
/-- The part with the piece i. -/
def px (s : ByteArray) (t q : Int) (i : Nat) : Xr := ⟨q, i, decide (i + 1 < cn s.size t), false, pc s (kz s.size t) i⟩
/-- The state ahead of the piece i. -/
def st (p : Pt) (s : ByteArray) (t q : Int) (i : Nat) : Pt := if i = 0 then p else if i < cn s.size t then ⟨true, q, i, pre s (kz s.size t) i⟩ else zp
/-- What adding the piece i says. -/
def lastC (s : ByteArray) (t : Int) (i : Nat) : Int := if i + 1 < cn s.size t then 0 else 1
def lastD (s : ByteArray) (t : Int) (i : Nat) : ByteArray := if i + 1 < cn s.size t then ⟨#[]⟩ else s
theorem st_zero (p : Pt) (s : ByteArray) (t q : Int) : st p s t q 0 = p := if_pos rfl
theorem px_poss {s : ByteArray} {t q : Int} {i : Nat} (hs : s.size ≤ 2048) (hq : 0 ≤ q ∧ q < 4096) (hi : i < cn s.size t) : poss (px s t q i) = true := by
  have h16 := cn_le s.size t
  have hl := pc_le_n s (kz s.size t) i
  refine poss_iff.2 ⟨hq, ?_, ?_, ?_, ?_⟩
  · show (pc s (kz s.size t) i).size ≤ 2048; omega
  · show (0 : Int) ≤ (i : Int); omega
  · show (i : Int) ≤ 15; omega
  · rintro ⟨h1, h2⟩
    have h1 : (i : Int) = 15 := h1
    have h2 : i + 1 < cn s.size t := of_decide_eq_true h2
    omega
theorem px_next {s : ByteArray} {t q : Int} {i : Nat} (p : Pt) (hs : s.size ≤ 2048) (h0 : 0 < i) (hi : i < cn s.size t) : cont (st p s t q i) (px s t q i) = true := by
  have e : st p s t q i = ⟨true, q, i, pre s (kz s.size t) i⟩ := (if_neg (by omega)).trans (if_pos hi)
  rw [e]
  have h1 := cn_le_n t hi
  have h2 : (pre s (kz s.size t) i ++ pc s (kz s.size t) i).size ≤ 2048 := by rw [pre_succ h1, pre_size]; omega
  rw [ByteArray.size_append] at h2
  exact cont_iff.2 ⟨rfl, rfl, rfl, h2⟩
/-- Adding the piece i. -/
theorem add_px {s : ByteArray} {t q : Int} {i : Nat} (p : Pt) (hs : s.size ≤ 2048) (hq : 0 ≤ q ∧ q < 4096) (hi : i < cn s.size t) :
    adS (st p s t q i) (px s t q i) = st p s t q (i + 1) ∧ adC (st p s t q i) (px s t q i) = lastC s t i ∧ adD (st p s t q i) (px s t q i) = lastD s t i := by
  have hp := px_poss (t := t) hs hq hi
  have h1 := cn_le_n t hi
  have key : adS (st p s t q i) (px s t q i) = prS (pre s (kz s.size t) (i + 1)) (px s t q i) ∧ adC (st p s t q i) (px s t q i) = prC (px s t q i) ∧ adD (st p s t q i) (px s t q i) = prD (pre s (kz s.size t) (i + 1)) (px s t q i) := by
    by_cases h0 : i = 0
    · have := ad_1 (kd_first (p := st p s t q i) hp (by subst h0; rfl))
      have e : (px s t q i).s = pre s (kz s.size t) (i + 1) := by
        rw [← pre_succ h1, h0, pre_zero, empty_app]; rfl
      rwa [e] at this
    · have := ad_2 (kd_next (p := st p s t q i) hp (show ¬ (i : Int) = 0 by omega) (px_next p hs (by omega) hi))
      have e : (st p s t q i).s ++ (px s t q i).s = pre s (kz s.size t) (i + 1) := by
        rw [← pre_succ h1]
        have : st p s t q i = ⟨true, q, i, pre s (kz s.size t) i⟩ := (if_neg (by omega)).trans (if_pos hi)
        rw [this]; rfl
      rwa [e] at this
  obtain ⟨k1, k2, k3⟩ := key
  rw [k1, k2, k3]
  by_cases hl : i + 1 < cn s.size t
  · obtain ⟨r1, r2, r3⟩ := pr_more (x := px s t q i) (pre s (kz s.size t) (i + 1)) (decide_eq_true hl)
    rw [r1, r2, r3]
    refine ⟨?_, (if_pos hl).symm, (if_pos hl).symm⟩
    unfold st
    rw [if_neg (by omega), if_pos hl]
    rfl
  · obtain ⟨r1, r2, r3⟩ := pr_last (x := px s t q i) (pre s (kz s.size t) (i + 1)) (fun h => hl (of_decide_eq_true h))
    rw [r1, r2, r3]
    refine ⟨?_, (if_neg hl).symm, ?_⟩
    · unfold st
      rw [if_neg (by omega), if_neg hl]
    · have e : i + 1 = cn s.size t := by omega
      rw [e, pre_all]
      exact (if_neg hl).symm
/-- Adding the piece i once more. -/
theorem add_again {s : ByteArray} {t q : Int} {i : Nat} (p : Pt) (hs : s.size ≤ 2048) (hq : 0 ≤ q ∧ q < 4096) (hi : i < cn s.size t) :
    adS (st p s t q (i + 1)) (px s t q i) = st p s t q (i + 1) ∧ adC (st p s t q (i + 1)) (px s t q i) = (if i = 0 then lastC s t i else 2) ∧ adD (st p s t q (i + 1)) (px s t q i) = (if i = 0 then lastD s t i else ⟨#[]⟩) := by
  by_cases h0 : i = 0
  · subst h0
    have hp := px_poss (t := t) hs hq hi
    have a1 := ad_1 (kd_first (p := st p s t q 1) hp rfl)
    have a2 := ad_1 (kd_first (p := st p s t q 0) hp rfl)
    obtain ⟨b1, b2, b3⟩ := add_px p hs hq hi
    rw [a2.1] at b1; rw [a2.2.1] at b2; rw [a2.2.2] at b3
    exact ⟨a1.1.trans b1, a1.2.1.trans (b2.trans (if_pos rfl).symm), a1.2.2.trans (b3.trans (if_pos rfl).symm)⟩
  · rw [if_neg h0, if_neg h0]
    refine ad_0 (kd_other (show ¬ (i : Int) = 0 by omega) fun h => ?_)
    obtain ⟨h1, -, h3, -⟩ := cont_iff.1 h
    unfold st at h1 h3
    rw [if_neg (by omega)] at h1 h3
    split at h1
    · rename_i hl
      rw [if_pos hl] at h3
      have h3 : ((i + 1 : Nat) : Int) = (i : Int) := h3
      omega
    · cases h1
/-- The state behind a piece that is not the last one is busy; behind the last one it is the zero state. -/
theorem st_mid {s : ByteArray} {t q : Int} {i : Nat} (p : Pt) (h : i + 1 < cn s.size t) : (st p s t q (i + 1)).b = true := by
  unfold st; rw [if_neg (by omega), if_pos h]
theorem st_end {s : ByteArray} {t q : Int} {i : Nat} (p : Pt) (h : ¬ i + 1 < cn s.size t) : st p s t q (i + 1) = zp := by
  unfold st; rw [if_neg (by omega), if_neg h]
end Go.Fg
