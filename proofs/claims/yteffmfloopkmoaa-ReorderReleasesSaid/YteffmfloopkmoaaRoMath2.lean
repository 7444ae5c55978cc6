/-
  REORDER BUFFERS: what the reference does is what the program does; the results are valid. Of no program.
-/
import Derived.Test.YteffmfloopkmoaaRoMath
namespace Go.Ro
open Go.Sq

/-- The reference's Put. -/
def putR (b : Bf) (q : Int) (d : ByteArray) : Bf × Int × List ByteArray :=
  if old b q d then (b, 0, []) else
  if dist b.st q < b.sz then ((drn (ins b q d)).1, 1, (drn (ins b q d)).2) else
  ((drn (ins (adv b (add q (1 - b.sz))).1 q d)).1, 2, (adv b (add q (1 - b.sz))).2 ++ (drn (ins (adv b (add q (1 - b.sz))).1 q d)).2)

theorem not_old {b : Bf} {q : Int} {d : ByteArray} (h : ¬ old b q d = true) : held b q = false ∧ (0 ≤ q ∧ q < 4096) ∧ dist b.st q < 2048 ∧ d.size ≤ 2048 := by
  unfold old inn at h
  have h' : (held b q || (!(vl q && decide (dist b.st q < 2048)) || decide (2048 < d.size))) = false := by simpa using h
  rw [Bool.or_eq_false_iff, Bool.or_eq_false_iff] at h'
  obtain ⟨h1, h2, h3⟩ := h'
  have h2' : vl q = true ∧ dist b.st q < 2048 := by simpa using h2
  exact ⟨h1, (vl_iff q).1 h2'.1, h2'.2, by have := of_decide_eq_false h3; omega⟩
theorem held_false {b : Bf} {q : Int} (h : held b q = false) : ∀ x ∈ b.hs, dist b.st x.q ≠ dist b.st q := by
  intro x hx e
  unfold held at h
  rw [List.any_eq_false] at h
  exact h x hx (decide_eq_true e)

theorem snoc_nb {s d : Int} {l : List Hd} {x : Hd} (ha : Asc s l) (hx : d ≤ dist s x.q) : nb s d (l ++ [x]) = nb s d l := by
  refine (nb_unique s d (l ++ [x]) (nb s d l) ?_ ?_ ?_).symm
  · have := nb_le s d l; rw [List.length_append]; omega
  · intro i _ hin
    have hl := nb_le s d l
    rw [List.getElem_append_left (by omega)]
    exact nb_lt s d l i (by omega) hin
  · intro hn
    by_cases h : nb s d l < l.length
    · rw [List.getElem_append_left h]; exact nb_ge s d l ha _ h (Nat.le_refl _)
    · rw [List.getElem_append_right (by omega)]; simpa using hx

/-- Where a number beyond the window leads. -/
theorem beyond {b : Bf} (hb : Ok b) {q : Int} (h2 : dist b.st q < 2048) (hz : b.sz ≤ dist b.st q) : dist b.st (add q (1 - b.sz)) = dist b.st q + 1 - b.sz := by
  have h1 := hb.st
  have h3 := hb.sz
  generalize b.st = s at *
  generalize b.sz = z at *
  unfold dist add md at *
  omega
theorem shift_dist {s t q : Int} (h : dist s t ≤ dist s q) : dist t q = dist s q - dist s t := by
  unfold dist md at *
  omega
theorem ins_snoc {b : Bf} {q : Int} {d : ByteArray} (h : ∀ x ∈ b.hs, dist b.st x.q < dist b.st q) : ins b q d = ⟨b.st, b.sz, b.hs ++ [⟨q, d⟩]⟩ := by
  have e : n0 b q = b.hs.length := nb_all _ _ _ h
  unfold ins
  rw [e, List.take_length, List.drop_length]
theorem mem_drop_nb {s d : Int} {l : List Hd} (ha : Asc s l) {x : Hd} (hx : x ∈ l.drop (nb s d l)) : x ∈ l ∧ d ≤ dist s x.q := by
  refine ⟨List.mem_of_mem_drop hx, ?_⟩
  obtain ⟨i, hi, rfl⟩ := List.mem_iff_getElem.1 hx
  rw [List.getElem_drop]
  exact nb_ge s d l ha _ (by rw [List.length_drop] at hi; omega) (by omega)
theorem mem_take_nb {s d : Int} {l : List Hd} {x : Hd} (hx : x ∈ l.take (nb s d l)) : x ∈ l ∧ dist s x.q < d := by
  refine ⟨List.mem_of_mem_take hx, ?_⟩
  obtain ⟨i, hi, rfl⟩ := List.mem_iff_getElem.1 hx
  rw [List.getElem_take]
  rw [List.length_take] at hi
  exact nb_lt s d l _ (by omega) (by omega)

theorem put_ref (b : Bf) (hb : Ok b) (q : Int) (d : ByteArray) : put b q d = putR b q d := by
  unfold put putR
  by_cases ho : old b q d = true
  · rw [if_pos ho, if_pos ho]
  · rw [if_neg ho, if_neg ho]
    obtain ⟨hh, hq, h2, hd⟩ := not_old ho
    have hv : vl q = true := (vl_iff q).2 hq
    by_cases hz : dist b.st q < b.sz
    · rw [if_pos hz, if_pos (by unfold inn; rw [hv, decide_eq_true hz]; rfl)]
      rw [show rel (ins b q d) b.st = drn (ins b q d) from rel_start (ins b q d) hb.st]
    · rw [if_neg hz, if_neg (by unfold inn; rw [hv, decide_eq_false hz]; decide)]
      have hlt : ∀ x ∈ b.hs, dist b.st x.q < dist b.st q := fun x hx => by have := (hb.all x hx).2.2.1; omega
      have hdd := beyond hb h2 (by omega)
      have hsz := hb.sz
      rw [rel_adv]
      have e1 : adv (ins b q d) (add q (1 - b.sz)) = (⟨add q (1 - b.sz), b.sz, b.hs.drop (n0 b (add q (1 - b.sz))) ++ [⟨q, d⟩]⟩, (adv b (add q (1 - b.sz))).2) := by
        rw [ins_snoc hlt]
        have e : n0 ⟨b.st, b.sz, b.hs ++ [⟨q, d⟩]⟩ (add q (1 - b.sz)) = n0 b (add q (1 - b.sz)) := snoc_nb hb.asc (by show dist b.st _ ≤ dist b.st q; omega)
        have hl : n0 b (add q (1 - b.sz)) ≤ b.hs.length := nb_le _ _ _
        unfold adv
        rw [e]
        simp only [List.drop_append_of_le_length hl, List.take_append_of_le_length hl]
      have e2 : ins (adv b (add q (1 - b.sz))).1 q d = ⟨add q (1 - b.sz), b.sz, b.hs.drop (n0 b (add q (1 - b.sz))) ++ [⟨q, d⟩]⟩ := by
        refine ins_snoc (b := (adv b (add q (1 - b.sz))).1) fun x hx => ?_
        obtain ⟨hm, hge⟩ := mem_drop_nb hb.asc hx
        have h3 := shift_dist hge
        have h4 := shift_dist (s := b.st) (t := add q (1 - b.sz)) (q := q) (by omega)
        have h5 := hlt x hm
        show dist (add q (1 - b.sz)) x.q < dist (add q (1 - b.sz)) q
        omega
      rw [e1, e2]

/-- All that is released by Flush. -/
theorem fst_all (b : Bf) (hb : Ok b) : n0 b (fst b) = b.hs.length ∧ (0 ≤ fst b ∧ fst b < 4096) := by
  unfold fst
  cases hl : b.hs.getLast? with
  | none => rw [List.getLast?_eq_none_iff] at hl; refine ⟨?_, hb.st⟩; unfold n0; rw [hl]; rfl
  | some h =>
    refine ⟨?_, add_vl _ _⟩
    obtain ⟨t, ht⟩ := List.getLast?_eq_some_iff.1 hl
    have hm : h ∈ b.hs := by rw [ht]; simp
    obtain ⟨h1, h2, h3, h4⟩ := hb.all h hm
    have hd : dist b.st (add h.q 1) = dist b.st h.q + 1 := by
      have := hb.sz; have := hb.st
      generalize b.st = s at *
      generalize b.sz = z at *
      unfold dist add md at *; omega
    refine nb_all _ _ _ fun x hx => ?_
    have ha := hb.asc
    unfold Asc at ha
    rw [ht] at ha hx
    rw [hd]
    rcases List.mem_append.1 hx with hx | hx
    · have := (List.pairwise_append.1 ha).2.2 x hx h (by simp); omega
    · have : x = h := by simpa using hx
      subst this; omega
theorem flush_eq (b : Bf) (hb : Ok b) : flush b = (⟨fst b, b.sz, []⟩, b.hs.map (·.d)) := by
  obtain ⟨h1, h2⟩ := fst_all b hb
  unfold flush rel nd
  rw [h1, List.drop_length]
  show ((⟨add (fst b) ((0 : Nat) : Int), b.sz, b.hs.drop (b.hs.length + 0)⟩ : Bf), (b.hs.take (b.hs.length + 0)).map (·.d)) = _
  rw [Nat.add_zero, List.drop_length, List.take_length]
  have e : add (fst b) ((0 : Nat) : Int) = fst b := add_zero h2
  rw [e]

/-- A buffer that may hold a packet with the number Start. -/
structure Pre (b : Bf) : Prop where
  st : 0 ≤ b.st ∧ b.st < 4096
  sz : 1 ≤ b.sz ∧ b.sz ≤ 64
  asc : Asc b.st b.hs
  all : ∀ h ∈ b.hs, (0 ≤ h.q ∧ h.q < 4096) ∧ dist b.st h.q < b.sz ∧ h.d.size ≤ 2048
theorem Ok.pre {b : Bf} (h : Ok b) : Pre b := ⟨h.st, h.sz, h.asc, fun x hx => ⟨(h.all x hx).1, (h.all x hx).2.2⟩⟩
theorem pre_ok : ∀ (l : List Hd) (s z : Int), Pre ⟨s, z, l⟩ → Ok (drn ⟨s, z, l⟩).1
  | [], s, z, h => ⟨add_vl _ _, h.sz, List.Pairwise.nil, fun x hx => by simp [drn, dr] at hx⟩
  | h :: t, s, z, hp => by
    have hst : 0 ≤ s ∧ s < 4096 := hp.st
    have hsz : 1 ≤ z ∧ z ≤ 64 := hp.sz
    have ha0 : Asc s (h :: t) := hp.asc
    have ha := List.pairwise_cons.1 ha0
    have hall : ∀ x ∈ h :: t, (0 ≤ x.q ∧ x.q < 4096) ∧ dist s x.q < z ∧ x.d.size ≤ 2048 := hp.all
    by_cases e : h.q = s
    · have hge : ∀ x ∈ t, 1 ≤ dist s x.q := fun x hx => by
        have := ha.1 x hx; have := dist_in s h.q; omega
      have hsh : ∀ x ∈ t, dist (add s 1) x.q = dist s x.q - 1 := fun x hx => by
        have := hge x hx; unfold dist add md at *; omega
      have ih := pre_ok t (add s 1) z ⟨add_vl _ _, hsz, ha.2.imp_of_mem (fun {x y} hx hy hxy => by show dist (add s 1) x.q < dist (add s 1) y.q; rw [hsh x hx, hsh y hy]; omega),
        fun x hx => ⟨(hall x (List.mem_cons_of_mem _ hx)).1, by show dist (add s 1) x.q < z; have := (hall x (List.mem_cons_of_mem _ hx)).2.1; rw [hsh x hx]; omega, (hall x (List.mem_cons_of_mem _ hx)).2.2⟩⟩
      have e2 : (drn ⟨s, z, h :: t⟩).1 = (drn ⟨add s 1, z, t⟩).1 := by
        have e3 : dr s (h :: t) = dr (add s 1) t + 1 := by
          show (if h.q = s then dr (add s 1) t + 1 else 0) = _
          rw [if_pos e]
        show (⟨add s (dr s (h :: t) : Nat), z, (h :: t).drop (dr s (h :: t))⟩ : Bf) = ⟨add (add s 1) (dr (add s 1) t : Nat), z, t.drop (dr (add s 1) t)⟩
        rw [e3, add_one, List.drop_succ_cons]
      rw [e2]; exact ih
    · have e2 : (drn ⟨s, z, h :: t⟩).1 = ⟨s, z, h :: t⟩ := by
        have e3 : dr s (h :: t) = 0 := by
          show (if h.q = s then dr (add s 1) t + 1 else 0) = _
          rw [if_neg e]
        show (⟨add s (dr s (h :: t) : Nat), z, (h :: t).drop (dr s (h :: t))⟩ : Bf) = _
        rw [e3, List.drop_zero]
        have e4 : add s ((0 : Nat) : Int) = s := add_zero hst
        rw [e4]
      rw [e2]
      have h0 : 1 ≤ dist s h.q := by
        have := (hall h (List.mem_cons_self ..)).1
        unfold dist md; omega
      refine ⟨hst, hsz, hp.asc, fun x hx => ⟨(hall x hx).1, ?_, (hall x hx).2⟩⟩
      show 1 ≤ dist s x.q
      rcases List.mem_cons.1 hx with rfl | hx
      · exact h0
      · have := ha.1 x hx; omega
theorem drn_ok {b : Bf} (h : Pre b) : Ok (drn b).1 := pre_ok b.hs b.st b.sz h
theorem adv_pre {b : Bf} (hb : Pre b) {s : Int} (hs : 0 ≤ s ∧ s < 4096) : Pre (adv b s).1 := by
  have hsh : ∀ x ∈ b.hs.drop (n0 b s), dist s x.q = dist b.st x.q - dist b.st s := fun x hx => shift_dist (mem_drop_nb hb.asc hx).2
  refine ⟨hs, hb.sz, ?_, fun x hx => ?_⟩
  · have ha : (b.hs.drop (n0 b s)).Pairwise (fun x y => dist b.st x.q < dist b.st y.q) := List.Pairwise.drop hb.asc
    exact ha.imp_of_mem (fun {x y} hx hy hxy => by show dist s x.q < dist s y.q; rw [hsh x hx, hsh y hy]; omega)
  · have hm := hb.all x (List.mem_of_mem_drop hx)
    refine ⟨hm.1, ?_, hm.2.2⟩
    show dist s x.q < b.sz
    have := dist_in b.st s
    rw [hsh x hx]; omega
theorem ins_pre {b : Bf} (hb : Pre b) {q : Int} {d : ByteArray} (hq : 0 ≤ q ∧ q < 4096) (hz : dist b.st q < b.sz) (hn : ∀ x ∈ b.hs, dist b.st x.q ≠ dist b.st q) (hd : d.size ≤ 2048) : Pre (ins b q d) := by
  refine ⟨hb.st, hb.sz, ?_, fun x hx => ?_⟩
  · show (b.hs.take (n0 b q) ++ ⟨q, d⟩ :: b.hs.drop (n0 b q)).Pairwise _
    refine List.pairwise_append.2 ⟨List.Pairwise.take hb.asc, List.pairwise_cons.2 ⟨fun y hy => ?_, List.Pairwise.drop hb.asc⟩, fun x hx y hy => ?_⟩
    · have h1 := mem_drop_nb hb.asc hy
      have h2 := hn y h1.1
      show dist b.st q < dist b.st y.q
      omega
    · have h1 := mem_take_nb hx
      rcases List.mem_cons.1 hy with rfl | hy
      · exact h1.2
      · have h2 := mem_drop_nb hb.asc hy
        show dist b.st x.q < dist b.st y.q
        omega
  · have hx' : x ∈ b.hs.take (n0 b q) ++ ⟨q, d⟩ :: b.hs.drop (n0 b q) := hx
    rcases List.mem_append.1 hx' with hx | hx
    · exact hb.all x (List.mem_of_mem_take hx)
    · rcases List.mem_cons.1 hx with rfl | hx
      · exact ⟨hq, hz, hd⟩
      · exact hb.all x (List.mem_of_mem_drop hx)

theorem move_ok {b : Bf} (hb : Ok b) (s : Int) : Ok (move b s).1 := by
  unfold move
  by_cases h : inn b.st 2048 s = true
  · rw [if_pos h, rel_adv]
    have hv : vl s = true := by unfold inn at h; exact (Bool.and_eq_true_iff.1 h).1
    exact drn_ok (adv_pre hb.pre ((vl_iff s).1 hv))
  · rw [if_neg h]; exact hb
theorem flush_ok {b : Bf} (hb : Ok b) : Ok (flush b).1 := by
  rw [flush_eq b hb]
  exact ⟨(fst_all b hb).2, hb.sz, List.Pairwise.nil, fun x hx => absurd hx List.not_mem_nil⟩
theorem put_ok {b : Bf} (hb : Ok b) (q : Int) (d : ByteArray) : Ok (put b q d).1 := by
  rw [put_ref b hb]
  unfold putR
  by_cases ho : old b q d = true
  · rw [if_pos ho]; exact hb
  · rw [if_neg ho]
    obtain ⟨hh, hq, h2, hd⟩ := not_old ho
    by_cases hz : dist b.st q < b.sz
    · rw [if_pos hz]
      exact drn_ok (ins_pre hb.pre hq hz (held_false hh) hd)
    · rw [if_neg hz]
      have hdd := beyond hb h2 (by omega)
      have hsz := hb.sz
      have h4 := shift_dist (s := b.st) (t := add q (1 - b.sz)) (q := q) (by omega)
      refine drn_ok (ins_pre (adv_pre hb.pre (add_vl _ _)) hq ?_ ?_ hd)
      · show dist (add q (1 - b.sz)) q < b.sz
        omega
      · intro x hx
        obtain ⟨hm, hge⟩ := mem_drop_nb hb.asc hx
        have h3 := shift_dist hge
        have h5 := (hb.all x hm).2.2.1
        show dist (add q (1 - b.sz)) x.q ≠ dist (add q (1 - b.sz)) q
        omega
theorem new_ok {s z : Int} (h : hdOk s z = true) : Ok ⟨s, z, []⟩ := by
  have := (hdOk_iff s z).1 h
  exact ⟨this.1, this.2, List.Pairwise.nil, fun x hx => absurd hx List.not_mem_nil⟩
end Go.Ro
