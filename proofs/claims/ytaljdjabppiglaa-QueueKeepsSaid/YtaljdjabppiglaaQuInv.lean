/-
  PACKET QUEUES: what every call keeps. Of no program.
-/
import Derived.Test.YtaljdjabppiglaaQuMath
namespace Go.Qu

def idsI (l : List It) : List Int := l.map (·.id)
/-- What is asked of an item by itself. -/
theorem cnx_zero {l : List It} {x : It} : cnx l x = 0 ↔ ierr x = 0 ∧ hasId l x.id = false := by
  unfold cnx
  by_cases h : ierr x = 0
  · rw [if_pos h]
    cases hasId l x.id <;> simp [h]
  · rw [if_neg h]
    exact ⟨fun e => absurd e h, fun e => absurd e.1 h⟩
theorem hasId_iff {l : List It} {k : Int} : hasId l k = true ↔ k ∈ idsI l := by
  unfold hasId idsI
  rw [List.any_eq_true, List.mem_map]
  exact ⟨fun ⟨x, h1, h2⟩ => ⟨x, h1, by simpa using h2⟩, fun ⟨x, h1, h2⟩ => ⟨x, h1, by simpa using h2⟩⟩
theorem hasId_no {l : List It} {k : Int} : hasId l k = false ↔ k ∉ idsI l := by
  rw [← hasId_iff]; simp
/-- Items that are good, their identifiers ascending: the list is valid. -/
theorem chkI_asc : ∀ (t p : List It), (∀ x ∈ t, ierr x = 0) → (idsI (p ++ t)).Pairwise (· < ·) → chkI p t = 0
  | [], _, _, _ => rfl
  | x :: t, p, h, ha => by
    have hc : cnx p x = 0 := by
      refine cnx_zero.2 ⟨h x (List.mem_cons_self ..), hasId_no.2 fun hm => ?_⟩
      unfold idsI at ha hm
      rw [List.map_append, List.pairwise_append] at ha
      have := ha.2.2 _ hm x.id (by simp)
      omega
    show (if cnx p x = 0 then chkI (p ++ [x]) t else cnx p x) = 0
    rw [if_pos hc]
    exact chkI_asc t (p ++ [x]) (fun y hy => h y (List.mem_cons_of_mem _ hy)) (by rw [List.append_assoc]; exact ha)
/-- What the law keeps: q the queue, g what is gone, n the number of calls, k of those that put. -/
structure Kq (q g : List It) (n k : Nat) : Prop where
  ok : ∀ x ∈ q, ierr x = 0
  wf : ∀ x ∈ q, Wf x
  asc : (idsI q).Pairwise (· < ·)
  top : ∀ i ∈ idsI q, i ≤ (n : Int)
  len : q.length ≤ 64
  gnd : (idsI g).Nodup
  gtop : ∀ i ∈ idsI g, i ≤ (n : Int)
  apart : ∀ i ∈ idsI q, i ∉ idsI g
  sum : k = q.length + g.length
theorem Kq.chk {q g : List It} {n k : Nat} (h : Kq q g n k) : chk q = 0 := by
  unfold Go.Qu.chk
  rw [if_neg (by have := h.len; omega)]
  exact chkI_asc q [] h.ok h.asc
theorem Kq.nil : Kq [] [] 0 0 := ⟨fun _ h => absurd h List.not_mem_nil, fun _ h => absurd h List.not_mem_nil, List.Pairwise.nil, fun _ h => absurd h List.not_mem_nil, Nat.zero_le _, List.nodup_nil, fun _ h => absurd h List.not_mem_nil, fun _ h => absurd h List.not_mem_nil, rfl⟩
theorem Kq.up {q g : List It} {n k : Nat} (h : Kq q g n k) : Kq q g (n + 1) k :=
  ⟨h.ok, h.wf, h.asc, fun i hi => by have := h.top i hi; omega, h.len, h.gnd, fun i hi => by have := h.gtop i hi; omega, h.apart, h.sum⟩
/-- Push. -/
theorem Kq.push {q g : List It} {n k : Nat} (h : Kq q g n k) {x : It} (hw : Wf x) (hx : x.id = (n : Int) + 1) {m : Int} (hp : (psh q x m).2 = 0) : psh q x m = (q ++ [x], 0) ∧ Kq (q ++ [x]) g (n + 1) (k + 1) := by
  unfold psh at *
  split at hp
  · rename_i hc
    split at hp
    · cases hp
    · rename_i hm
      rw [if_pos hc, if_neg hm]
      refine ⟨rfl, ?_⟩
      have hi := (cnx_zero.1 hc).1
      refine ⟨fun y hy => ?_, fun y hy => ?_, ?_, fun i hi => ?_, ?_, h.gnd, fun i hi => by have := h.gtop i hi; omega, fun i hi hg => ?_, ?_⟩
      · rcases List.mem_append.1 hy with hy | hy
        · exact h.ok y hy
        · rw [List.mem_singleton.1 hy]; exact hi
      · rcases List.mem_append.1 hy with hy | hy
        · exact h.wf y hy
        · rw [List.mem_singleton.1 hy]; exact hw
      · unfold idsI
        rw [List.map_append, List.pairwise_append]
        refine ⟨h.asc, by simp, fun a ha b hb => ?_⟩
        have := h.top a ha
        simp at hb
        omega
      · unfold idsI at hi
        rw [List.map_append] at hi
        rcases List.mem_append.1 hi with hi | hi
        · have := h.top i hi; omega
        · simp at hi; omega
      · rw [List.length_append, List.length_singleton]
        omega
      · unfold idsI at hi
        rw [List.map_append] at hi
        rcases List.mem_append.1 hi with hi | hi
        · exact h.apart i hi hg
        · simp at hi
          have := h.gtop i hg
          omega
      · rw [List.length_append, List.length_singleton]; have := h.sum; omega
  · rename_i hc
    exact absurd hp hc
/-- Items leave: the rest is a part of the queue, those that leave are the others. -/
theorem Kq.part {q g : List It} {n k : Nat} (h : Kq q g n k) {a b : List It} (hp : (a ++ b).Perm q) (ha : List.Sublist a q) : Kq a (g ++ b) n k := by
  have hids : (idsI a ++ idsI b).Perm (idsI q) := by
    have := hp.map (·.id)
    rwa [List.map_append] at this
  have hnd : (idsI q).Nodup := h.asc.imp (fun h => by omega)
  have hab := hids.nodup_iff.2 hnd
  rw [List.nodup_append] at hab
  refine ⟨fun x hx => h.ok x (ha.subset hx), fun x hx => h.wf x (ha.subset hx), h.asc.sublist (ha.map _), fun i hi => h.top i ((ha.map _).subset hi), Nat.le_trans ha.length_le h.len, ?_, fun i hi => ?_, fun i hi hg => ?_, ?_⟩
  · unfold idsI
    rw [List.map_append, List.nodup_append]
    exact ⟨h.gnd, hab.2.1, fun x hx y hy e => h.apart y (hids.subset (List.mem_append_right _ hy)) (e ▸ hx)⟩
  · unfold idsI at hi
    rw [List.map_append] at hi
    rcases List.mem_append.1 hi with hi | hi
    · exact h.gtop i hi
    · exact h.top i (hids.subset (List.mem_append_right _ hi))
  · unfold idsI at hg
    rw [List.map_append] at hg
    rcases List.mem_append.1 hg with hg | hg
    · exact h.apart i ((ha.map _).subset hi) hg
    · exact hab.2.2 i hi i hg rfl
  · have := hp.length_eq
    rw [List.length_append] at this ⊢
    have := h.sum
    omega
theorem filter_perm (P : It → Bool) : ∀ l : List It, (l.filter (neg P) ++ l.filter P).Perm l
  | [] => List.Perm.refl _
  | x :: t => by
    have ih := filter_perm P t
    rw [List.filter_cons, List.filter_cons]
    unfold neg at *
    cases hP : P x
    · simpa using ih
    · simp only [Bool.not_true, Bool.false_eq_true, if_false, if_true]
      exact List.perm_middle.trans (List.Perm.cons x ih)
theorem without_perm {l : List It} {i : Nat} (h : i < l.length) : (without l i ++ [l[i]]).Perm l := by
  unfold without
  have e : l.take i ++ l[i] :: l.drop (i + 1) = l := by rw [← List.drop_eq_getElem_cons h, List.take_append_drop]
  have := (List.perm_middle (a := l[i]) (l₁ := l.take i) (l₂ := l.drop (i + 1))).symm
  rw [e] at this
  exact (List.perm_append_singleton _ _).trans this
theorem without_sub {l : List It} (i : Nat) : List.Sublist (without l i) l := by
  unfold without
  have h1 : List.Sublist (l.take i ++ l.drop (i + 1)) (l.take i ++ l.drop i) := (List.Sublist.refl _).append (List.drop_sublist_drop_left l (Nat.le_succ i))
  rwa [List.take_append_drop] at h1
end Go.Qu
