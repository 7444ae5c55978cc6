/-
  SEQUENCE NUMBERS. Of no program.
-/
import Derived.WalkKit
namespace Go.Sq

def vl (n : Int) : Bool := decide (0 ≤ n ∧ n < 4096)
def md (n : Int) : Int := n % 4096
def add (n k : Int) : Int := md (n + k)
def dist (a b : Int) : Int := md (b - a)
def bef (a b : Int) : Bool := decide (1 ≤ dist a b ∧ dist a b ≤ 2047)
def inn (a s n : Int) : Bool := vl n && decide (dist a n < s)
def cnt (s : Int) : Nat := (min (max s 0) 4096).toNat
/-- The first k numbers of a window. -/
def wink (a : Int) : Nat → List Int
  | 0 => []
  | k + 1 => wink a k ++ [add a k]
def win (a s : Int) : List Int := wink a (cnt s)

theorem md_in (n : Int) : 0 ≤ md n ∧ md n < 4096 := by unfold md; omega
theorem wink_len (a : Int) (k : Nat) : (wink a k).length = k := by
  induction k with
  | zero => rfl
  | succ k ih => rw [wink, List.length_append, ih]; rfl
theorem win_len (a s : Int) : (win a s).length = cnt s := wink_len _ _
theorem cnt_le (s : Int) : cnt s ≤ 4096 := by unfold cnt; omega
theorem wink_get (a : Int) (k j : Nat) (h : j < k) : (wink a k)[j]? = some (add a j) := by
  induction k with
  | zero => omega
  | succ k ih =>
    rw [wink]
    by_cases e : j < k
    · rw [List.getElem?_append_left (by rw [wink_len]; exact e)]; exact ih e
    · obtain rfl : j = k := by omega
      rw [List.getElem?_append_right (by rw [wink_len]; exact Nat.le_refl _), wink_len, Nat.sub_self]; rfl
theorem wink_take (a : Int) (k j : Nat) (h : j ≤ k) : (wink a k).take j = wink a j := by
  induction k with
  | zero => obtain rfl : j = 0 := by omega
            rfl
  | succ k ih =>
    rw [wink]
    by_cases e : j ≤ k
    · rw [List.take_append_of_le_length (by rw [wink_len]; exact e)]; exact ih e
    · obtain rfl : j = k + 1 := by omega
      rw [List.take_of_length_le (by rw [List.length_append, wink_len]; exact Nat.le_refl _)]; rfl
theorem win_min (a s : Int) (k : Nat) (h : k ≤ 4096) : (win a s).take k = win a (min s k) := by
  unfold win
  have e : cnt (min s k) = min k (cnt s) := by unfold cnt; omega
  rw [e]
  by_cases hk : k ≤ cnt s
  · rw [Nat.min_eq_left hk]; exact wink_take _ _ _ hk
  · rw [Nat.min_eq_right (by omega)]; exact List.take_of_length_le (by rw [wink_len]; omega)

theorem bef_not {a b : Int} (h : a = b ∨ a - b = 2048 ∨ b - a = 2048) : bef a b = false ∧ bef b a = false := by
  unfold bef dist md
  exact ⟨decide_eq_false (by omega), decide_eq_false (by omega)⟩
theorem bef_one {a b : Int} (ha : 0 ≤ a ∧ a < 4096) (hb : 0 ≤ b ∧ b < 4096) (h : ¬ (a = b ∨ a - b = 2048 ∨ b - a = 2048)) : bef a b = !bef b a := by
  unfold bef dist md
  by_cases h1 : 1 ≤ (b - a) % 4096 ∧ (b - a) % 4096 ≤ 2047
  · rw [decide_eq_true h1, decide_eq_false (by omega)]; rfl
  · rw [decide_eq_false h1, decide_eq_true (by omega)]; rfl
theorem dist_shift (x y k : Int) : dist (add x k) (add y k) = dist x y := by unfold dist add md; omega
theorem add_dist {x y : Int} (hy : 0 ≤ y ∧ y < 4096) : add x (dist x y) = y := by unfold dist add md; omega

/-- A number is in a window exactly if it is in. -/
theorem mem_wink (a n : Int) (k : Nat) (h : k ≤ 4096) : n ∈ wink a k ↔ (0 ≤ n ∧ n < 4096) ∧ dist a n < k := by
  constructor
  · intro hm
    obtain ⟨j, hj⟩ := List.mem_iff_getElem?.1 hm
    have hjk : j < k := by
      have := (List.getElem?_eq_some_iff.1 hj).1
      rwa [wink_len] at this
    rw [wink_get a k j hjk] at hj
    obtain rfl := Option.some.inj hj
    refine ⟨md_in _, ?_⟩
    unfold dist add md
    omega
  · rintro ⟨h1, h2⟩
    obtain ⟨j, hj⟩ : ∃ j : Nat, dist a n = j := ⟨(dist a n).toNat, by have := (md_in (n - a)).1; unfold dist; omega⟩
    refine List.mem_iff_getElem?.2 ⟨j, ?_⟩
    rw [wink_get a k j (by omega), ← hj]
    exact congrArg some (add_dist h1)
theorem inn_wink (a n : Int) (k : Nat) (h : k ≤ 4096) : inn a k n = decide (n ∈ wink a k) := by
  unfold inn vl
  by_cases h1 : 0 ≤ n ∧ n < 4096
  · by_cases h2 : dist a n < k
    · rw [decide_eq_true h1, decide_eq_true h2, decide_eq_true ((mem_wink a n k h).2 ⟨h1, h2⟩)]; rfl
    · rw [decide_eq_true h1, decide_eq_false h2, decide_eq_false (fun hm => h2 ((mem_wink a n k h).1 hm).2)]; rfl
  · rw [decide_eq_false h1, decide_eq_false (fun hm => h1 ((mem_wink a n k h).1 hm).1)]; rfl
end Go.Sq
