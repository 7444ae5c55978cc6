/-
  REORDER BUFFERS: what a call hands out ascends and lies ahead of the new start; nothing is lost. Of no program.
-/
import Derived.Test.YteffmfloopkmoaaRoMath2
namespace Go.Ro
open Go.Sq

theorem dist_add {a s : Int} {k : Nat} (h : dist a s + (k : Int) < 4096) : dist a (add s (k : Int)) = dist a s + (k : Int) := by
  unfold dist add md at *; omega
theorem dist_chain {f a q : Int} (h : dist f a + dist a q < 4096) : dist f q = dist f a + dist a q := by
  unfold dist md at *; omega
theorem dr_get {l : List Hd} {s : Int} (hs : 0 ≤ s ∧ s < 4096) {j : Nat} (hj : j < dr s l) : ∃ h : j < l.length, l[j].q = add s (j : Int) :=
  (dr_next l s j hs (Nat.le_of_lt hj)).1 hj

/-- What a release hands out. -/
def relH (b : Bf) (s : Int) : List Hd := b.hs.take (n0 b s + nd b s)
theorem rel_le (b : Bf) (s : Int) : n0 b s + nd b s ≤ b.hs.length := by
  have h1 : n0 b s ≤ b.hs.length := nb_le _ _ _
  have h2 : nd b s ≤ (b.hs.drop (n0 b s)).length := dr_le _ _
  rw [List.length_drop] at h2
  omega
theorem rel_cnt (b : Bf) (s : Int) : (relH b s).length + (rel b s).1.hs.length = b.hs.length := by
  have := rel_le b s
  show (b.hs.take _).length + (b.hs.drop _).length = _
  rw [List.length_take, List.length_drop]
  omega
theorem rel_far {b : Bf} {s : Int} (hD : dist b.st s + (b.hs.length : Int) < 4096) : dist b.st (rel b s).1.st = dist b.st s + (nd b s : Int) := by
  have := rel_le b s
  exact dist_add (by omega)
theorem rel_asc {b : Bf} (ha : Asc b.st b.hs) (s : Int) : Asc b.st (relH b s) := List.Pairwise.take ha
theorem rel_lt {b : Bf} {s : Int} (hs : 0 ≤ s ∧ s < 4096) (hD : dist b.st s + (b.hs.length : Int) < 4096) : ∀ x ∈ relH b s, dist b.st x.q < dist b.st (rel b s).1.st := by
  intro x hx
  rw [rel_far hD]
  have hle := rel_le b s
  obtain ⟨i, hi, rfl⟩ := List.mem_iff_getElem.1 hx
  have hi' : i < n0 b s + nd b s := by
    have h := hi
    unfold relH at h
    rw [List.length_take] at h
    omega
  have e : (relH b s)[i] = b.hs[i]'(by omega) := by
    show (b.hs.take (n0 b s + nd b s))[i]'hi = _
    exact List.getElem_take ..
  rw [e]
  by_cases h : i < n0 b s
  · have := nb_lt b.st (dist b.st s) b.hs i (by omega) h
    omega
  · obtain ⟨h1, h2⟩ := dr_get (l := b.hs.drop (n0 b s)) hs (j := i - n0 b s) (show i - n0 b s < nd b s by omega)
    rw [List.getElem_drop] at h2
    have e2 : b.hs[n0 b s + (i - n0 b s)]'(by rw [List.length_drop] at h1; omega) = b.hs[i]'(by omega) := by congr 1; omega
    rw [e2] at h2
    rw [h2, dist_add (by omega)]
    omega

/-- A call: what is handed out, what is left. -/
structure Stp (b : Bf) (q : Int) (d : ByteArray) (p : Bf × Int × List ByteArray) (R : List Hd) : Prop where
  ds : p.2.2 = R.map (·.d)
  asc : Asc b.st R
  lt : ∀ x ∈ R, dist b.st x.q < dist b.st p.1.st
  far : dist b.st p.1.st ≤ 1100
  cnt : (R.length : Int) + p.1.hs.length = b.hs.length + (if p.2.1 = 0 then 0 else 1)
  mem : ∀ x, (x ∈ R ∨ x ∈ p.1.hs) → x ∈ b.hs ∨ x = ⟨q, d⟩

theorem rel_stp {b c : Bf} {s : Int} {q k : Int} {d : ByteArray} (he : c.st = b.st) (ha : Asc c.st c.hs) (hs : 0 ≤ s ∧ s < 4096) (hD : dist c.st s ≤ 1000) (hl : c.hs.length ≤ 64) (hm : ∀ x ∈ c.hs, x ∈ b.hs ∨ x = ⟨q, d⟩)
    (hk : (c.hs.length : Int) = b.hs.length + (if k = 0 then 0 else 1)) : Stp b q d ((rel c s).1, k, (rel c s).2) (relH c s) := by
  have h4 : dist c.st s + (c.hs.length : Int) < 4096 := by omega
  refine ⟨rfl, he ▸ rel_asc ha s, fun x hx => he ▸ rel_lt hs h4 x hx, ?_, ?_, fun x hx => ?_⟩
  · have h1 := rel_far h4
    have h2 := rel_le c s
    rw [← he]
    show dist c.st (rel c s).1.st ≤ 1100
    omega
  · have h1 := rel_cnt c s
    rw [← hk]
    show ((relH c s).length : Int) + ((rel c s).1.hs.length : Int) = _
    omega
  · rcases hx with hx | hx
    · exact hm x (List.mem_of_mem_take hx)
    · exact hm x (List.mem_of_mem_drop hx)
theorem stay_stp {b : Bf} (q : Int) (d : ByteArray) : Stp b q d (b, 0, []) [] :=
  ⟨rfl, List.Pairwise.nil, fun _ h => absurd h List.not_mem_nil, by show dist b.st b.st ≤ 1100; unfold dist md; omega, by simp, fun x hx => by rcases hx with hx | hx; exact absurd hx List.not_mem_nil; exact .inl hx⟩
theorem move_stp {b : Bf} (hb : Ok b) {s : Int} (q : Int) (d : ByteArray) (hs : 0 ≤ s ∧ s < 4096) (hD : dist b.st s ≤ 1000) : ∃ R, Stp b q d ((move b s).1, 0, (move b s).2) R := by
  have hl := hb.len
  unfold move
  by_cases h : inn b.st 2048 s = true
  · rw [if_pos h]
    exact ⟨_, rel_stp rfl hb.asc hs hD (by omega) (fun x hx => .inl hx) (by simp)⟩
  · rw [if_neg h]; exact ⟨_, stay_stp q d⟩
theorem flush_stp {b : Bf} (hb : Ok b) (q : Int) (d : ByteArray) : ∃ R, Stp b q d ((flush b).1, 0, (flush b).2) R := by
  have hl := hb.len
  refine ⟨_, rel_stp rfl hb.asc (fst_all b hb).2 ?_ (by omega) (fun x hx => .inl hx) (by simp)⟩
  unfold fst
  cases hg : b.hs.getLast? with
  | none => show dist b.st b.st ≤ 1000; unfold dist md; omega
  | some h =>
    obtain ⟨t, ht⟩ := List.getLast?_eq_some_iff.1 hg
    obtain ⟨h1, h2, h3, h4⟩ := hb.all h (by rw [ht]; simp)
    have h5 := hb.sz
    have h6 := hb.st
    show dist b.st (add h.q 1) ≤ 1000
    generalize b.st = s at *
    generalize b.sz = z at *
    unfold dist add md at *; omega
theorem put_stp {b : Bf} (hb : Ok b) {q : Int} {d : ByteArray} (hq : 0 ≤ q ∧ q < 4096) (hD : dist b.st q ≤ 1000) : ∃ R, Stp b q d (put b q d) R := by
  have hl := hb.len
  unfold put
  by_cases ho : old b q d = true
  · rw [if_pos ho]; exact ⟨_, stay_stp q d⟩
  rw [if_neg ho]
  obtain ⟨hh, -, h2, hd⟩ := not_old ho
  have hn := held_false hh
  have hle : n0 b q ≤ b.hs.length := nb_le _ _ _
  have hlen : (ins b q d).hs.length = b.hs.length + 1 := by
    show (b.hs.take (n0 b q) ++ ⟨q, d⟩ :: b.hs.drop (n0 b q)).length = _
    rw [List.length_append, List.length_cons, List.length_take, List.length_drop]; omega
  have ha : Asc (ins b q d).st (ins b q d).hs := by
    show (b.hs.take (n0 b q) ++ ⟨q, d⟩ :: b.hs.drop (n0 b q)).Pairwise _
    refine List.pairwise_append.2 ⟨List.Pairwise.take hb.asc, List.pairwise_cons.2 ⟨fun y hy => ?_, List.Pairwise.drop hb.asc⟩, fun x hx y hy => ?_⟩
    · have h1 := mem_drop_nb hb.asc hy
      have h2 := hn y h1.1
      show dist b.st q < dist b.st y.q
      omega
    · have h1 := mem_take_nb hx
      rcases List.mem_cons.1 hy with rfl | hy
      · exact h1.2
      · have h2 := mem_drop_nb hb.asc hy
        show dist b.st x.q < dist b.st y.q
        omega
  have hm : ∀ x ∈ (ins b q d).hs, x ∈ b.hs ∨ x = ⟨q, d⟩ := fun x hx => by
    have hx' : x ∈ b.hs.take (n0 b q) ++ ⟨q, d⟩ :: b.hs.drop (n0 b q) := hx
    rcases List.mem_append.1 hx' with hx | hx
    · exact .inl (List.mem_of_mem_take hx)
    · rcases List.mem_cons.1 hx with rfl | hx
      · exact .inr rfl
      · exact .inl (List.mem_of_mem_drop hx)
  by_cases hz : inn b.st b.sz q = true
  · rw [if_pos hz]
    exact ⟨_, rel_stp (c := ins b q d) (k := 1) rfl ha hb.st (by show dist b.st b.st ≤ 1000; unfold dist md; omega) (by omega) hm (by rw [hlen]; simp)⟩
  · rw [if_neg hz]
    have hz' : b.sz ≤ dist b.st q := by
      unfold inn at hz
      rw [(vl_iff q).2 hq] at hz
      simp at hz
      omega
    have hdd := beyond hb h2 hz'
    have hsz := hb.sz
    exact ⟨_, rel_stp (c := ins b q d) (k := 2) rfl ha (add_vl _ _) (by show dist b.st _ ≤ 1000; omega) (by omega) hm (by rw [hlen]; simp)⟩

/-- The two octets of a number. -/
structure Nu (h : Hd) : Prop where
  sz : h.d.size = 2
  val : ∀ (h0 : 0 < h.d.size) (h1 : 1 < h.d.size), ((h.d[0]'h0).toNat : Int) * 256 + ((h.d[1]'h1).toNat : Int) = h.q
/-- The loop of calls. -/
structure Lp (f : Int) (b : Bf) (last i o : Int) : Prop where
  ok : Ok b
  nu : ∀ h ∈ b.hs, Nu h
  last : last < dist f b.st
  cnt : i = o + b.hs.length
theorem lp_new {s z : Int} (h : hdOk s z = true) : Lp s ⟨s, z, []⟩ (-1) 0 0 :=
  ⟨new_ok h, fun _ h => absurd h List.not_mem_nil, by show (-1 : Int) < dist s s; have := dist_in s s; omega, rfl⟩
/-- What the law asks of the packets that a call hands out. -/
theorem lp_out {f : Int} {b : Bf} {last i o q : Int} {d : ByteArray} {p : Bf × Int × List ByteArray} {R : List Hd} (h : Lp f b last i o) (hf : dist f b.st ≤ 2000) (hn : Nu ⟨q, d⟩) (s : Stp b q d p R) :
    (∀ x ∈ R, Nu x ∧ dist f b.st ≤ dist f x.q ∧ dist f x.q < dist f p.1.st) ∧ Asc f R ∧ dist f b.st ≤ dist f p.1.st ∧ (∀ x ∈ p.1.hs, Nu x) := by
  have hc : dist f p.1.st = dist f b.st + dist b.st p.1.st := dist_chain (by have := s.far; omega)
  have hx : ∀ x ∈ R, dist f x.q = dist f b.st + dist b.st x.q := fun x hx => dist_chain (by have := s.lt x hx; have := s.far; omega)
  have hnu : ∀ x, (x ∈ R ∨ x ∈ p.1.hs) → Nu x := fun x hx => by
    rcases s.mem x hx with h1 | rfl
    · exact h.nu x h1
    · exact hn
  have h0 := dist_in b.st p.1.st
  refine ⟨fun x hm => ⟨hnu x (.inl hm), ?_, ?_⟩, ?_, by omega, fun x hm => hnu x (.inr hm)⟩
  · have := dist_in b.st x.q; rw [hx x hm]; omega
  · have := s.lt x hm; rw [hx x hm]; omega
  · exact s.asc.imp_of_mem (fun {x y} hm hm2 hxy => by rw [hx x hm, hx y hm2]; omega)
end Go.Ro
