/-
  OF NO PROGRAM: the Bool over a region ('Region.lexB'), reckoned in one pass over the operations (the kernel's own way takes too much memory at 98 operations).
-/
import Derived.Test.YtaljdjabppiglaaQuietOf
namespace Go
open Go.RowKit

/-- Each operation waits for earlier ones alone, and what is behind it waits for it or stands apart from it. -/
def Region.fast (md : Region.Mode) (ops : Array Oper) : Nat → List Oper → Bool
  | _, [] => true
  | k, o :: l => o.after.all (fun e => !Region.binds md e || decide (e.on < k)) && (l.all (fun oj => oj.after.any (fun e => Region.binds md e && e.on == k) || o.apart ops oj) && Region.fast md ops (k + 1) l)

theorem Region.lexFrom_of_fast {md : Region.Mode} {ops : Array Oper} : ∀ (l : List Oper) (k : Nat) (listed : Array Bool), (∀ j, l[j]? = ops[k + j]?) → (∀ j : Nat, listed[j]? = if j < ops.size then some (decide (j < k)) else none) → Region.fast md ops k l = true → Region.lexFrom md ops l.length k listed = true
  | [], k, listed, hl, hL, _ => by
    have hk : ops.size ≤ k := by
      have := hl 0
      simp only [List.getElem?_nil, Nat.add_zero] at this
      exact Array.getElem?_eq_none_iff.1 this.symm
    show (Region.ready md ops listed).isEmpty = true
    rw [List.isEmpty_iff, List.eq_nil_iff_forall_not_mem]
    intro j hj
    obtain ⟨h0, -⟩ := mem_ready.1 hj
    rw [Array.getD_eq_getD_getElem?, hL j] at h0
    split at h0
    · rw [decide_eq_true (by omega)] at h0; simp at h0
    · simp at h0
  | o :: l, k, listed, hl, hL, h => by
    have ho : ops[k]? = some o := by simpa using (hl 0).symm
    have hk : k < ops.size := (Array.getElem?_eq_some_iff.1 ho).1
    simp only [Region.fast, Bool.and_eq_true] at h
    obtain ⟨h1, h2, h3⟩ := h
    simp only [List.length_cons, Region.lexFrom, Bool.and_eq_true]
    refine ⟨⟨?_, ?_⟩, ?_⟩
    · rw [List.contains_iff_mem, mem_ready]
      refine ⟨by rw [Array.getD_eq_getD_getElem?, hL k, if_pos hk]; simp, o, ho, fun e he hb => ?_⟩
      have := Array.all_eq_true_iff_forall_mem.1 h1 e he
      rw [hb] at this
      simp only [Bool.not_true, Bool.false_or, decide_eq_true_eq] at this
      rw [Array.getD_eq_getD_getElem?, hL e.on, if_pos (by omega), decide_eq_true this]; rfl
    · simp only [Region.free, ho, List.all_eq_true, List.mem_range]
      intro j hj
      rcases Nat.lt_trichotomy j k with hjk | hjk | hjk
      · have : listed.getD j true = true := by rw [Array.getD_eq_getD_getElem?, hL j, if_pos hj, decide_eq_true hjk]; rfl
        rw [this]; simp
      · subst hjk; simp
      · have hg : l[j - k - 1]? = ops[j]? := by
          have := hl (j - k)
          rw [show j - k = (j - k - 1) + 1 by omega, List.getElem?_cons_succ, show k + (j - k - 1 + 1) = j by omega] at this
          exact this
        obtain ⟨oj, hoj⟩ : ∃ oj, ops[j]? = some oj := ⟨_, Array.getElem?_eq_getElem hj⟩
        rw [hoj] at hg
        have := List.all_eq_true.1 h2 oj (List.mem_of_getElem? hg)
        rw [hoj]
        simp only [Bool.or_eq_true] at this ⊢
        exact .inr this
    · refine Region.lexFrom_of_fast l (k + 1) _ (fun j => ?_) (fun j => ?_) h3
      · have := hl (j + 1)
        rw [List.getElem?_cons_succ] at this
        rw [this, show k + (j + 1) = k + 1 + j by omega]
      · rw [Array.getElem?_setIfInBounds]
        have hls : listed.size = ops.size := by
          have h1 := hL listed.size
          have h2 := hL ops.size
          rw [if_neg (Nat.lt_irrefl _)] at h2
          have := Array.getElem?_eq_none_iff.1 h2
          rcases Nat.lt_or_ge listed.size ops.size with hlt | hge
          · rw [if_pos hlt, Array.getElem?_eq_none (Nat.le_refl _)] at h1; cases h1
          · omega
        by_cases hjk : k = j
        · subst hjk
          rw [if_pos rfl, if_pos (by omega), if_pos hk, decide_eq_true (by omega)]
        · rw [if_neg hjk, hL j]
          split
          · congr 1
            rw [decide_eq_decide]; omega
          · rfl
theorem Region.lexB_of_fast {md : Region.Mode} {l : List Oper} (h : (Region.noSelect l.toArray && Region.fast md l.toArray 0 l) = true) : Region.lexB md l.toArray = true := by
  rw [Bool.and_eq_true] at h
  unfold Region.lexB
  rw [Bool.and_eq_true]
  refine ⟨h.1, ?_⟩
  have := Region.lexFrom_of_fast (md := md) (ops := l.toArray) l 0 (Array.replicate l.toArray.size false) (fun j => by simp) (fun j => by
    rw [Array.getElem?_replicate]
    by_cases hj : j < l.toArray.size
    · rw [if_pos hj, if_pos hj, decide_eq_false (Nat.not_lt_zero _)]
    · rw [if_neg hj, if_neg hj]) h.2
  simpa using this
end Go
