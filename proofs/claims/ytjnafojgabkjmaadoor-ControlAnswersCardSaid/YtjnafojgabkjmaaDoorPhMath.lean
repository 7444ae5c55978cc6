/-
  THE ARITHMETIC of layer 8: what is said of rates and durations (of no program).
-/
namespace Go.Ph

/-- The data bits of a rate, or 0. -/
def bt (r : Int) : Int := if r = 0 then 24 else if r = 1 then 36 else if r = 2 then 48 else if r = 3 then 72 else if r = 4 then 96 else if r = 5 then 144 else if r = 6 then 192 else if r = 7 then 216 else 0
/-- The level that a rate needs, or 101. -/
def nd (r : Int) : Int := if r = 0 then 5 else if r = 1 then 6 else if r = 2 then 7 else if r = 3 then 9 else if r = 4 then 12 else if r = 5 then 16 else if r = 6 then 20 else if r = 7 then 21 else 101
def rt (r : Int) : Prop := 0 ≤ r ∧ r < 8
instance (r : Int) : Decidable (rt r) := by unfold rt; infer_instance
def oct (n : Int) : Prop := 0 ≤ n ∧ n ≤ 8192
instance (n : Int) : Decidable (oct n) := by unfold oct; infer_instance
/-- The duration of n octets at b bits. -/
def dur (b n : Int) : Int := 2 + (8 * n + b - 1) / b
def slo (r n : Int) : Int := if rt r ∧ oct n then dur (bt r) n else 0
def sle (r n : Int) : Int := if rt r ∧ oct n then 0 else 4
def fit (r s : Int) : Int := if rt r ∧ 2 ≤ s then (if s - 2 < 65536 then (if (s - 2) * bt r / 8 < 8192 then (s - 2) * bt r / 8 else 8192) else 8192) else -1
def bas (r : Int) : Int := if rt r then (if 4 ≤ r then 4 else r / 2 * 2) else -1
def bst (l : Int) : Int := if 21 ≤ l then 7 else if 20 ≤ l then 6 else if 16 ≤ l then 5 else if 12 ≤ l then 4 else if 9 ≤ l then 3 else if 7 ≤ l then 2 else if 6 ≤ l then 1 else if 5 ≤ l then 0 else -1

theorem rates {r : Int} (h : rt r) : (r = 0 ∧ bt r = 24 ∧ nd r = 5 ∧ bas r = 0) ∨ (r = 1 ∧ bt r = 36 ∧ nd r = 6 ∧ bas r = 0) ∨ (r = 2 ∧ bt r = 48 ∧ nd r = 7 ∧ bas r = 2) ∨ (r = 3 ∧ bt r = 72 ∧ nd r = 9 ∧ bas r = 2) ∨ (r = 4 ∧ bt r = 96 ∧ nd r = 12 ∧ bas r = 4) ∨ (r = 5 ∧ bt r = 144 ∧ nd r = 16 ∧ bas r = 4) ∨ (r = 6 ∧ bt r = 192 ∧ nd r = 20 ∧ bas r = 4) ∨ (r = 7 ∧ bt r = 216 ∧ nd r = 21 ∧ bas r = 4) := by
  have c : r = 0 ∨ r = 1 ∨ r = 2 ∨ r = 3 ∨ r = 4 ∨ r = 5 ∨ r = 6 ∨ r = 7 := by unfold rt at h; omega
  rcases c with rfl | rfl | rfl | rfl | rfl | rfl | rfl | rfl <;> decide

theorem norate {r : Int} (h : ¬ rt r) : bt r = 0 ∧ nd r = 101 ∧ bas r = -1 := by
  unfold bas
  rw [if_neg h]
  unfold rt at h
  refine ⟨?_, ?_, rfl⟩
  · unfold bt
    rw [if_neg (by omega), if_neg (by omega), if_neg (by omega), if_neg (by omega), if_neg (by omega), if_neg (by omega), if_neg (by omega), if_neg (by omega)]
  · unfold nd
    rw [if_neg (by omega), if_neg (by omega), if_neg (by omega), if_neg (by omega), if_neg (by omega), if_neg (by omega), if_neg (by omega), if_neg (by omega)]

theorem bt_pos {r : Int} (h : rt r) : 24 ≤ bt r ∧ bt r ≤ 216 := by
  rcases rates h with ⟨-, h, -⟩ | ⟨-, h, -⟩ | ⟨-, h, -⟩ | ⟨-, h, -⟩ | ⟨-, h, -⟩ | ⟨-, h, -⟩ | ⟨-, h, -⟩ | ⟨-, h, -⟩ <;> omega

theorem slo_ok {r n : Int} (h : rt r) (hn : oct n) : slo r n = dur (bt r) n ∧ sle r n = 0 := by
  unfold slo sle; rw [if_pos ⟨h, hn⟩, if_pos ⟨h, hn⟩]; exact ⟨rfl, rfl⟩
theorem slo_no {r n : Int} (h : ¬ (rt r ∧ oct n)) : slo r n = 0 ∧ sle r n = 4 := by
  unfold slo sle; rw [if_neg h, if_neg h]; exact ⟨rfl, rfl⟩

theorem dur_bounds {r n : Int} (h : rt r) (hn : oct n) : 2 ≤ dur (bt r) n ∧ dur (bt r) n ≤ 3000 := by
  unfold oct at hn
  unfold dur
  rcases rates h with ⟨-, h, -⟩ | ⟨-, h, -⟩ | ⟨-, h, -⟩ | ⟨-, h, -⟩ | ⟨-, h, -⟩ | ⟨-, h, -⟩ | ⟨-, h, -⟩ | ⟨-, h, -⟩ <;> rw [h] <;> omega

theorem fit_no {r s : Int} (h : ¬ (rt r ∧ 2 ≤ s)) : fit r s = -1 := by unfold fit; rw [if_neg h]

theorem fit_ok {r s : Int} (h : rt r) (hs : 2 ≤ s) : oct (fit r s) ∧ dur (bt r) (fit r s) ≤ s ∧ (fit r s = 8192 ∨ (¬ fit r s = 8192 ∧ oct (fit r s + 1) ∧ s < dur (bt r) (fit r s + 1))) := by
  have e : fit r s = if s - 2 < 65536 then (if (s - 2) * bt r / 8 < 8192 then (s - 2) * bt r / 8 else 8192) else 8192 := by unfold fit; rw [if_pos ⟨h, hs⟩]
  rw [e]
  clear e
  unfold oct dur
  rcases rates h with ⟨-, h, -⟩ | ⟨-, h, -⟩ | ⟨-, h, -⟩ | ⟨-, h, -⟩ | ⟨-, h, -⟩ | ⟨-, h, -⟩ | ⟨-, h, -⟩ | ⟨-, h, -⟩ <;> rw [h] <;> split <;> (try split) <;> omega

theorem dur_longer {r n m : Int} (h : rt r) (hnm : n ≤ m) : dur (bt r) n ≤ dur (bt r) m := by
  unfold dur
  rcases rates h with ⟨-, h, -⟩ | ⟨-, h, -⟩ | ⟨-, h, -⟩ | ⟨-, h, -⟩ | ⟨-, h, -⟩ | ⟨-, h, -⟩ | ⟨-, h, -⟩ | ⟨-, h, -⟩ <;> rw [h] <;> omega

theorem dur_step {n : Int} (hn : 0 ≤ n) : dur 36 n ≤ dur 24 n ∧ dur 48 n ≤ dur 36 n ∧ dur 72 n ≤ dur 48 n ∧ dur 96 n ≤ dur 72 n ∧ dur 144 n ≤ dur 96 n ∧ dur 192 n ≤ dur 144 n ∧ dur 216 n ≤ dur 192 n := by
  unfold dur
  refine ⟨?_, ?_, ?_, ?_, ?_, ?_, ?_⟩ <;> omega

/-- A greater rate: no longer duration, no lower level, no fewer bits, no lower basic rate. -/
theorem more {r m n : Int} (h : rt r) (hm : rt m) (hrm : r ≤ m) (hn : oct n) : dur (bt m) n ≤ dur (bt r) n ∧ nd r ≤ nd m ∧ bt r ≤ bt m ∧ bas r ≤ bas m := by
  obtain ⟨d1, d2, d3, d4, d5, d6, d7⟩ := dur_step hn.1
  rcases rates h with ⟨e, h, h', h''⟩ | ⟨e, h, h', h''⟩ | ⟨e, h, h', h''⟩ | ⟨e, h, h', h''⟩ | ⟨e, h, h', h''⟩ | ⟨e, h, h', h''⟩ | ⟨e, h, h', h''⟩ | ⟨e, h, h', h''⟩ <;>
    rcases rates hm with ⟨f, g, g', g''⟩ | ⟨f, g, g', g''⟩ | ⟨f, g, g', g''⟩ | ⟨f, g, g', g''⟩ | ⟨f, g, g', g''⟩ | ⟨f, g, g', g''⟩ | ⟨f, g, g', g''⟩ | ⟨f, g, g', g''⟩ <;>
    first
    | (exfalso; omega)
    | (rw [h, g, h', g', h'', g'']; refine ⟨?_, by decide, by decide, by decide⟩; omega)

theorem bst_bounds (l : Int) : -1 ≤ bst l ∧ bst l ≤ 7 := by
  unfold bst
  repeat' split
  all_goals omega

theorem bst_need {l : Int} (h : 0 ≤ bst l) : rt (bst l) ∧ nd (bst l) ≤ l := by
  unfold bst at h ⊢
  repeat' split at h
  all_goals first
    | (exfalso; omega)
    | (refine ⟨by simp [*, rt], ?_⟩; simp only [*, if_true, if_false]; simp [nd]; omega)

theorem bst_next {l : Int} (h : ¬ bst l = 7) : rt (bst l + 1) ∧ l < nd (bst l + 1) := by
  have hb := bst_bounds l
  refine ⟨⟨by omega, by omega⟩, ?_⟩
  unfold bst at h ⊢
  repeat' split at h
  all_goals first
    | (exfalso; omega)
    | (simp only [*, if_true, if_false]; simp [nd]; omega)

/-- The best of the first k rates. -/
def bstTo (l : Int) : Nat → Int
  | 0 => -1
  | k + 1 => if nd k ≤ l then k else bstTo l k
theorem bst_to (l : Int) : bstTo l 8 = bst l := by
  simp only [bstTo, bst, show nd ((7 : Nat) : Int) = 21 from rfl, show nd ((6 : Nat) : Int) = 20 from rfl, show nd ((5 : Nat) : Int) = 16 from rfl, show nd ((4 : Nat) : Int) = 12 from rfl, show nd ((3 : Nat) : Int) = 9 from rfl, show nd ((2 : Nat) : Int) = 7 from rfl, show nd ((1 : Nat) : Int) = 6 from rfl, show nd ((0 : Nat) : Int) = 5 from rfl]
  rfl
end Go.Ph
