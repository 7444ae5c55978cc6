/-
  WINDOWS: what a valid state's packets keep to; how long the results are. Of no program.
-/
import Derived.Test.YtldeflpaghbmmaaWnMath
namespace Go.Wn
open Go.Sq

theorem chkL_cons (s u last : Int) (h : Sn) (t : List Sn) : chkL s u last (h :: t) = if vl h.q = false ∨ h.tr < 0 then 4 else if dist s h.q ≤ last ∨ u ≤ dist s h.q then 12 else if 2048 < h.da.size then 2 else chkL s u (dist s h.q) t := rfl
theorem chkL_ok {s u last : Int} {h : Sn} {t : List Sn} : chkL s u last (h :: t) = 0 ↔ ((0 ≤ h.q ∧ h.q < 4096) ∧ 0 ≤ h.tr) ∧ (last < dist s h.q ∧ dist s h.q < u) ∧ h.da.size ≤ 2048 ∧ chkL s u (dist s h.q) t = 0 := by
  rw [chkL_cons]
  unfold vl
  split
  · rename_i h1
    simp only [decide_eq_false_iff_not] at h1
    constructor
    · intro e; cases e
    · intro e; omega
  · rename_i h1
    simp only [decide_eq_false_iff_not, not_or, Classical.not_not] at h1
    split
    · rename_i h2
      constructor
      · intro e; cases e
      · intro e; omega
    · rename_i h2
      split
      · rename_i h3
        constructor
        · intro e; cases e
        · intro e; omega
      · rename_i h3
        constructor
        · intro e; exact ⟨⟨h1.1, by omega⟩, by omega, by omega, e⟩
        · intro e; exact e.2.2.2
theorem chkL_all {s u : Int} : ∀ {l : List Sn} {last : Int}, chkL s u last l = 0 → ∀ p ∈ l, 0 ≤ p.tr ∧ (0 ≤ p.q ∧ p.q < 4096)
  | [], _, _, p, hp => absurd hp List.not_mem_nil
  | h :: t, _, e, p, hp => by
    obtain ⟨h1, h2, h3, h4⟩ := chkL_ok.1 e
    rcases List.mem_cons.1 hp with rfl | hp
    · exact ⟨h1.2, h1.1⟩
    · exact chkL_all h4 p hp
theorem chk_iff {s : St} : chk s = 0 ↔ ((0 ≤ s.nx ∧ s.nx < 4096) ∧ 0 ≤ s.sz ∧ s.sz ≤ 64) ∧ chkL (bgn s) (used s) (-1) s.l = 0 ∧ used s ≤ wid s.sz ∧ fstDn s.l = false := by
  unfold chk hdBad
  by_cases hb : (!vl s.nx || (decide (s.sz < 0) || decide (64 < s.sz))) = true
  · rw [if_pos hb]
    unfold vl at hb
    simp at hb
    constructor
    · intro e; cases e
    · intro e; omega
  · rw [if_neg hb]
    unfold vl at hb
    simp at hb
    unfold chkE
    by_cases hl : chkL (bgn s) (used s) (-1) s.l = 0
    · rw [if_pos hl]
      by_cases hu : wid s.sz < used s
      · rw [if_pos hu]
        constructor
        · intro e; cases e
        · intro e; omega
      · rw [if_neg hu]
        cases hd : fstDn s.l
        · exact ⟨fun _ => ⟨by omega, hl, by omega, rfl⟩, fun _ => rfl⟩
        · exact ⟨fun e => by simp at e, fun e => by simp at e⟩
    · rw [if_neg hl]
      exact ⟨fun e => absurd e hl, fun e => absurd e.2.1 hl⟩
theorem chk_all {s : St} (h : chk s = 0) : ∀ p ∈ s.l, 0 ≤ p.tr ∧ (0 ≤ p.q ∧ p.q < 4096) := chkL_all (chk_iff.1 h).2.1

theorem trimL_len (l : List Sn) : (trimL l).length ≤ l.length := by
  unfold trimL
  exact (List.dropWhile_suffix _).length_le
theorem acked_len (s : St) (st : Int) (m : Nat) : (acked s st m).1.l.length ≤ s.l.length ∧ (acked s st m).2.length ≤ s.l.length := by
  refine ⟨?_, ?_⟩
  · have := trimL_len (chg (ak st m) mk s.l)
    unfold chg at this
    rw [List.length_map] at this
    exact this
  · show (ids (s.l.filter _)).length ≤ _
    unfold ids; rw [List.length_map]; exact List.length_filter_le _ _
theorem missed_len (s : St) (Q : List Int) (lim : Int) : (missed s Q lim).1.l.length ≤ s.l.length ∧ (missed s Q lim).2.length ≤ s.l.length := by
  have hm : (missL s Q).length = s.l.length := by unfold missL chg; rw [List.length_map]
  refine ⟨?_, ?_⟩
  · have h1 := trimL_len ((missL s Q).filter (lft Q lim))
    have h2 := List.length_filter_le (lft Q lim) (missL s Q)
    show (trimL _).length ≤ _
    omega
  · show (goneL s Q lim).length ≤ _
    unfold goneL ids; rw [List.length_map]
    have h2 := List.length_filter_le (lst Q lim) (missL s Q)
    omega
end Go.Wn
