/-
  WINDOWS: what every call keeps. Of no program.
-/
import Derived.Test.YtldeflpaghbmmaaWnFit
namespace Go.Wn
open Go.Sq

theorem dist_lo (a b : Int) : 0 ≤ dist a b := by unfold dist md; omega
theorem dist_hi (a b : Int) : dist a b < 4096 := by unfold dist md; omega
theorem dist_self (a : Int) : dist a a = 0 := by unfold dist md; omega
/-- From a later start. -/
theorem dist_from {a b c : Int} (h : dist a b ≤ dist a c) : dist b c = dist a c - dist a b := by unfold dist md at *; omega
theorem dist_next {a b : Int} (h : dist a b < 4095) : dist a (add b 1) = dist a b + 1 := by unfold dist add md at *; omega

/-- What chkL asks of each packet. -/
def fit (p : Sn) : Prop := ((0 ≤ p.q ∧ p.q < 4096) ∧ 0 ≤ p.tr) ∧ p.da.size ≤ 2048
/-- The numbers lie apart, in order, between last and u. -/
def Up (b u : Int) : Int → List Int → Prop
  | last, [] => last < u ∨ True
  | last, q :: t => (last < dist b q ∧ dist b q < u) ∧ Up b u (dist b q) t
theorem chkL_up {b u : Int} : ∀ {l : List Sn} {last : Int}, chkL b u last l = 0 ↔ (∀ p ∈ l, fit p) ∧ Up b u last (l.map (·.q))
  | [], last => ⟨fun _ => ⟨fun p hp => absurd hp List.not_mem_nil, .inr trivial⟩, fun _ => rfl⟩
  | h :: t, last => by
    rw [chkL_ok, chkL_up (l := t) (last := dist b h.q), List.map_cons]
    show _ ↔ _ ∧ ((last < dist b h.q ∧ dist b h.q < u) ∧ Up b u (dist b h.q) (t.map (·.q)))
    constructor
    · rintro ⟨h1, h2, h3, h4, h5⟩
      refine ⟨fun p hp => ?_, h2, h5⟩
      rcases List.mem_cons.1 hp with rfl | hp
      · exact ⟨h1, h3⟩
      · exact h4 p hp
    · rintro ⟨h1, h2, h3⟩
      have := h1 h (List.mem_cons_self ..)
      exact ⟨this.1, h2, this.2, fun p hp => h1 p (List.mem_cons_of_mem _ hp), h3⟩
theorem Up.last {b u : Int} : ∀ {l : List Int} {m n : Int}, Up b u m l → n ≤ m → Up b u n l
  | [], _, _, _, _ => .inr trivial
  | _ :: _, _, _, h, hn => ⟨⟨by have := h.1.1; omega, h.1.2⟩, h.2⟩
/-- Fewer of them. -/
theorem Up.sub {b u : Int} {l l' : List Int} (hs : List.Sublist l' l) : ∀ {m : Int}, Up b u m l → Up b u m l' := by
  induction hs with
  | slnil => exact fun h => h
  | cons a hs ih => exact fun h => ih (h.2.last (by have := h.1.1; omega))
  | cons_cons a hs ih => exact fun h => ⟨h.1, ih h.2⟩
/-- From a later start. -/
theorem Up.from {b c u : Int} : ∀ {l : List Int} {m : Int}, Up b u m l → dist b c ≤ m → Up c (u - dist b c) (m - dist b c) l
  | [], _, _, _ => .inr trivial
  | q :: t, m, h, hc => by
    have e : dist c q = dist b q - dist b c := dist_from (by have := h.1.1; omega)
    refine ⟨⟨by rw [e]; have := h.1.1; omega, by rw [e]; have := h.1.2; omega⟩, ?_⟩
    rw [e]
    exact h.2.from (by have := h.1.1; omega)
theorem Up.more {b u v : Int} (hv : u ≤ v) : ∀ {l : List Int} {m : Int}, Up b u m l → Up b v m l
  | [], _, _ => .inr trivial
  | _ :: _, _, h => ⟨⟨h.1.1, by have := h.1.2; omega⟩, h.2.more hv⟩
theorem Up.snoc {b u q : Int} (h0 : dist b q < u) : ∀ {l : List Int} {m : Int}, Up b (dist b q) m l → m < dist b q → Up b u m (l ++ [q])
  | [], _, _, hm => ⟨⟨hm, h0⟩, .inr trivial⟩
  | _ :: _, _, h, _ => ⟨⟨h.1.1, by have := h.1.2; omega⟩, h.2.snoc h0 h.1.2⟩
theorem Up.len {b u : Int} : ∀ {l : List Int} {m : Int}, Up b u m l → m < u → m + l.length < u
  | [], _, _, hm => by simpa using hm
  | _ :: t, m, h, _ => by
    have := h.2.len h.1.2
    have h1 := h.1.1
    rw [List.length_cons]; push_cast; omega

def ini (nx : Int) : List Int → Int
  | [] => nx
  | q :: _ => q
theorem startL_ini (nx : Int) (l : List Sn) : startL nx l = ini nx (l.map (·.q)) := by cases l <;> rfl
/-- Fewer numbers: from the new start they are in order, and fewer are in use. -/
theorem up_sub {nx : Int} {l l' : List Int} (hs : List.Sublist l' l) (h : Up (ini nx l) (dist (ini nx l) nx) (-1) l) :
    Up (ini nx l') (dist (ini nx l') nx) (-1) l' ∧ dist (ini nx l') nx ≤ dist (ini nx l) nx := by
  have h1 := h.sub hs
  cases l' with
  | nil => exact ⟨.inr trivial, by show dist nx nx ≤ _; rw [dist_self]; exact dist_lo _ _⟩
  | cons q t =>
    have e : dist q nx = dist (ini nx l) nx - dist (ini nx l) q := dist_from (by have := h1.1.2; omega)
    have hlo := dist_lo (ini nx l) q
    refine ⟨?_, by show dist q nx ≤ _; omega⟩
    show Up q (dist q nx) (-1) (q :: t)
    refine ⟨⟨by rw [dist_self]; omega, by rw [dist_self, e]; have := h1.1.2; omega⟩, ?_⟩
    rw [dist_self, e]
    have := h1.2.from (c := q) (Int.le_refl _)
    rw [Int.sub_self] at this
    exact this

/-- What every call keeps: the state is valid; identifiers are from 0 to n - 1, each once. -/
structure Inv (s : St) (n : Nat) : Prop where
  ok : chk s = 0
  id : ∀ p ∈ s.l, 0 ≤ p.id ∧ p.id < n
  nd : (s.l.map (·.id)).Nodup
theorem Inv.sub {s t : St} {n : Nat} (h : Inv s n) (hq : List.Sublist (t.l.map (·.q)) (s.l.map (·.q))) (hi : List.Sublist (t.l.map (·.id)) (s.l.map (·.id)))
    (hp : ∀ p ∈ t.l, 0 ≤ p.tr ∧ p.da.size ≤ 2048) (hn : t.nx = s.nx) (hz : 0 ≤ t.sz ∧ t.sz ≤ 64) (hw : t.l = [] ∨ wid s.sz ≤ wid t.sz) (hd : fstDn t.l = false) : Inv t n := by
  obtain ⟨h1, h2, h3, h4⟩ := chk_iff.1 h.ok
  have hu := chkL_up.1 h2
  unfold used bgn at hu h3
  rw [startL_ini] at hu h3
  obtain ⟨u1, u2⟩ := up_sub hq hu.2
  refine ⟨chk_iff.2 ⟨⟨by rw [hn]; exact h1.1, hz⟩, chkL_up.2 ⟨fun p hpt => ?_, ?_⟩, ?_, hd⟩, fun p hpt => ?_, hi.nodup h.nd⟩
  · have h5 := hp p hpt
    have h6 : p.q ∈ s.l.map (·.q) := hq.subset (List.mem_map_of_mem hpt)
    obtain ⟨p0, hp0, e0⟩ := List.mem_map.1 h6
    have h7 := hu.1 p0 hp0
    unfold fit at h7 ⊢
    rw [← e0]
    exact ⟨⟨h7.1.1, h5.1⟩, h5.2⟩
  · show Up (startL t.nx t.l) (dist (startL t.nx t.l) t.nx) (-1) _
    rw [startL_ini, hn]; exact u1
  · show dist (startL t.nx t.l) t.nx ≤ _
    rw [startL_ini, hn]
    rcases hw with e | e
    · rw [e]; show dist s.nx s.nx ≤ _; rw [dist_self]; unfold wid; split <;> omega
    · omega
  · have h6 : p.id ∈ s.l.map (·.id) := hi.subset (List.mem_map_of_mem hpt)
    obtain ⟨p0, hp0, e0⟩ := List.mem_map.1 h6
    rw [← e0]; exact h.id p0 hp0
/-- What the law asks of a valid state. -/
theorem Inv.asks {s : St} {n : Nat} (h : Inv s n) : used s ≤ wid s.sz ∧ 0 ≤ room s ∧ (s.l.length : Int) ≤ used s := by
  obtain ⟨h1, h2, h3, h4⟩ := chk_iff.1 h.ok
  refine ⟨h3, ?_, ?_⟩
  · unfold room; split <;> omega
  · have := (chkL_up.1 h2).2.len (by have := dist_lo (bgn s) s.nx; unfold used; omega)
    rw [List.length_map] at this; omega
theorem Inv.new (q : Int) : Inv ⟨md q, 0, [], false⟩ 0 := by
  have hm := md_in q
  refine ⟨chk_iff.2 ⟨⟨hm, Int.le_refl _, show (0 : Int) ≤ 64 by decide⟩, rfl, ?_, rfl⟩, fun p hp => absurd hp List.not_mem_nil, List.nodup_nil⟩
  show dist (md q) (md q) ≤ wid 0
  rw [dist_self]; decide
theorem Inv.len {s : St} {n : Nat} (h : Inv s n) : s.l.length ≤ 64 := by
  obtain ⟨h1, h2, h3⟩ := h.asks
  have h4 := (chk_iff.1 h.ok).1.2
  unfold wid at h1
  split at h1 <;> omega

theorem List.inj_on_of_nodup_map22 {α β : Type} {f : α → β} : ∀ {l : List α}, (l.map f).Nodup → ∀ {x y : α}, x ∈ l → y ∈ l → f x = f y → x = y
  | [], _, _, _, h, _, _ => absurd h List.not_mem_nil
  | a :: t, hd, x, y, hx, hy, e => by
    rw [List.map_cons, List.nodup_cons] at hd
    rcases List.mem_cons.1 hx with rfl | hx' <;> rcases List.mem_cons.1 hy with rfl | hy'
    · rfl
    · exact absurd (e ▸ List.mem_map_of_mem hy') hd.1
    · exact absurd (e ▸ List.mem_map_of_mem hx') hd.1
    · exact List.inj_on_of_nodup_map22 hd.2 hx' hy' e

/-- Whether an identifier is in progress. -/
def opn (s : St) (k : Int) : Bool := s.l.any (fun p => isOp p && decide (p.id = k))
theorem opn_iff {s : St} {k : Int} : opn s k = true ↔ ∃ p ∈ s.l, isOp p = true ∧ p.id = k := by
  unfold opn; rw [List.any_eq_true]; simp
/-- What a call makes of a state. -/
structure After (s : St) (n : Nat) (t : St) (g : List Int) (put : Bool) : Prop where
  inv : Inv t (if put then n + 1 else n)
  gin : ∀ k ∈ g, 0 ≤ k ∧ k < n ∧ opn s k = true
  nd : g.Nodup
  o : ∀ k, opn t k = true ↔ (opn s k = true ∧ k ∉ g) ∨ (put = true ∧ k = n)
  gl : g.length ≤ 64
/-- Some of the packets are completed or given up. -/
theorem part {L : List Sn} (f : Sn → Bool) (hd : (L.map (·.id)).Nodup) (k : Int) :
    (∃ p ∈ L, f p = false ∧ isOp p = true ∧ p.id = k) ↔ (∃ p ∈ L, isOp p = true ∧ p.id = k) ∧ k ∉ ids (L.filter f) := by
  constructor
  · rintro ⟨p, hp, h1, h2, h3⟩
    refine ⟨⟨p, hp, h2, h3⟩, fun hk => ?_⟩
    obtain ⟨q, hq, e⟩ := List.mem_map.1 hk
    obtain ⟨hq1, hq2⟩ := List.mem_filter.1 hq
    have : p = q := List.inj_on_of_nodup_map22 hd hp hq1 (by rw [h3, ← e])
    subst this
    rw [h1] at hq2; cases hq2
  · rintro ⟨⟨p, hp, h2, h3⟩, hk⟩
    refine ⟨p, hp, ?_, h2, h3⟩
    cases h : f p
    · rfl
    · exact absurd (List.mem_map.2 ⟨p, List.mem_filter.2 ⟨hp, h⟩, h3⟩) hk

theorem chg_map {β : Type} (f : Sn → Bool) (g : Sn → Sn) (h : Sn → β) (hg : ∀ p, h (g p) = h p) (l : List Sn) : (chg f g l).map h = l.map h := by
  unfold chg
  rw [List.map_map]
  refine List.map_congr_left fun p _ => ?_
  show h (if f p then g p else p) = h p
  split
  · exact hg p
  · rfl
theorem trim_sub (l : List Sn) : List.Sublist (trimL l) l := (List.dropWhile_suffix _).sublist
theorem trim_fst (l : List Sn) : fstDn (trimL l) = false := by
  unfold trimL
  induction l with
  | nil => rfl
  | cons a t ih =>
    rw [List.dropWhile_cons]
    split
    · exact ih
    · rename_i h; show a.dn = false; simpa using h
theorem trim_op (l : List Sn) (k : Int) : (∃ p ∈ trimL l, isOp p = true ∧ p.id = k) ↔ ∃ p ∈ l, isOp p = true ∧ p.id = k := by
  unfold trimL
  induction l with
  | nil => exact Iff.rfl
  | cons a t ih =>
    rw [List.dropWhile_cons]
    split
    · rename_i h
      rw [ih]
      constructor
      · rintro ⟨p, hp, h1⟩; exact ⟨p, List.mem_cons_of_mem _ hp, h1⟩
      · rintro ⟨p, hp, h1⟩
        rcases List.mem_cons.1 hp with rfl | hp
        · unfold isOp at h1; rw [h] at h1; exact absurd h1.1 (by decide)
        · exact ⟨p, hp, h1⟩
    · exact Iff.rfl
/-- Acked. -/
theorem after_acked {s : St} {n : Nat} (h : Inv s n) (st : Int) (m : Nat) : After s n (acked s st m).1 (acked s st m).2 false := by
  have hk := chk_iff.1 h.ok
  have hall := (chkL_up.1 hk.2.1).1
  have e1 : ((acked s st m).1.l.map (·.q)).Sublist (s.l.map (·.q)) := by
    have := (trim_sub (chg (ak st m) mk s.l)).map (·.q)
    rw [chg_map (ak st m) mk (·.q) (fun _ => rfl)] at this; exact this
  have e2 : ((acked s st m).1.l.map (·.id)).Sublist (s.l.map (·.id)) := by
    have := (trim_sub (chg (ak st m) mk s.l)).map (·.id)
    rw [chg_map (ak st m) mk (·.id) (fun _ => rfl)] at this; exact this
  refine ⟨h.sub e1 e2 (fun p hp => ?_) rfl hk.1.2 (.inr (Int.le_refl _)) (trim_fst _), fun k hg => ?_, ?_, fun k => ?_, Nat.le_trans (acked_len s st m).2 h.len⟩
  · have hp' : p ∈ chg (ak st m) mk s.l := (trim_sub _).subset hp
    obtain ⟨p0, hp0, e0⟩ := List.mem_map.1 hp'
    have := hall p0 hp0
    unfold fit at this
    subst e0
    try dsimp only
    split <;> exact ⟨this.1.2, this.2⟩
  · obtain ⟨p, hp, e⟩ := List.mem_map.1 hg
    obtain ⟨hp1, hp2⟩ := List.mem_filter.1 hp
    have h1 := h.id p hp1
    rw [e] at h1
    refine ⟨h1.1, h1.2, opn_iff.2 ⟨p, hp1, ?_, e⟩⟩
    unfold ak at hp2
    exact (Bool.and_eq_true_iff.1 hp2).1
  · exact ((List.filter_sublist (l := s.l)).map (·.id)).nodup h.nd
  · have h1 := part (ak st m) h.nd k
    have h2 := trim_op (chg (ak st m) mk s.l) k
    rw [opn_iff, opn_iff]
    show (∃ p ∈ trimL _, _) ↔ ((∃ p ∈ s.l, _) ∧ k ∉ ids (s.l.filter (ak st m))) ∨ _
    rw [h2, ← h1]
    constructor
    · rintro ⟨p, hp, h3, h4⟩
      obtain ⟨p0, hp0, e0⟩ := List.mem_map.1 hp
      subst e0
      try dsimp only at h3 h4
      cases hh : ak st m p0
      · rw [hh] at h3 h4
        exact .inl ⟨p0, hp0, hh, h3, h4⟩
      · rw [hh] at h3
        exact absurd h3 (by simp [isOp, mk])
    · rintro (⟨p, hp, h3, h4, h5⟩ | ⟨h6, -⟩)
      · exact ⟨p, List.mem_map.2 ⟨p, hp, by rw [h3]; rfl⟩, h4, h5⟩
      · cases h6
theorem bump_id (p : Sn) : (bump p).id = p.id := by unfold bump; split <;> rfl
theorem bump_q (p : Sn) : (bump p).q = p.q := by unfold bump; split <;> rfl
theorem bump_op (p : Sn) : isOp (bump p) = isOp p := by unfold bump; split <;> rfl
theorem bump_fit {p : Sn} (h : 0 ≤ p.tr ∧ p.da.size ≤ 2048) : 0 ≤ (bump p).tr ∧ (bump p).da.size ≤ 2048 := by
  unfold bump
  split
  · exact ⟨show 0 ≤ p.tr + 1 by omega, h.2⟩
  · exact h
theorem ids_eq (l : List Sn) : ids l = l.map (·.id) := rfl
/-- Missed. -/
theorem after_missed {s : St} {n : Nat} (h : Inv s n) (Q : List Int) (lim : Int) : After s n (missed s Q lim).1 (missed s Q lim).2 false := by
  have hk := chk_iff.1 h.ok
  have hall := (chkL_up.1 hk.2.1).1
  have m1 : (missL s Q).map (·.q) = s.l.map (·.q) := chg_map _ _ _ bump_q _
  have m2 : (missL s Q).map (·.id) = s.l.map (·.id) := chg_map _ _ _ bump_id _
  have hsub : ((missed s Q lim).1.l).Sublist (missL s Q) := (trim_sub _).trans List.filter_sublist
  have hmem : ∀ p ∈ missL s Q, ∃ p0 ∈ s.l, p.id = p0.id ∧ isOp p = isOp p0 ∧ 0 ≤ p.tr ∧ p.da.size ≤ 2048 := by
    intro p hp
    obtain ⟨p0, hp0, e0⟩ := List.mem_map.1 hp
    have := hall p0 hp0
    unfold fit at this
    subst e0
    refine ⟨p0, hp0, ?_⟩
    try dsimp only
    split
    · exact ⟨bump_id _, bump_op _, bump_fit ⟨this.1.2, this.2⟩⟩
    · exact ⟨rfl, rfl, this.1.2, this.2⟩
  have hop : ∀ k, (∃ p ∈ missL s Q, isOp p = true ∧ p.id = k) ↔ ∃ p ∈ s.l, isOp p = true ∧ p.id = k := by
    intro k
    constructor
    · rintro ⟨p, hp, h1, h2⟩
      obtain ⟨p0, hp0, e1, e2, -⟩ := hmem p hp
      exact ⟨p0, hp0, e2 ▸ h1, e1 ▸ h2⟩
    · rintro ⟨p, hp, h1, h2⟩
      refine ⟨_, List.mem_map.2 ⟨p, hp, rfl⟩, ?_⟩
      try dsimp only
      split
      · exact ⟨(bump_op p).trans h1, (bump_id p).trans h2⟩
      · exact ⟨h1, h2⟩
  refine ⟨h.sub (m1 ▸ hsub.map _) (m2 ▸ hsub.map _) (fun p hp => ?_) rfl hk.1.2 (.inr (Int.le_refl _)) (trim_fst _), fun k hg => ?_, ?_, fun k => ?_, Nat.le_trans (missed_len s Q lim).2 h.len⟩
  · obtain ⟨p0, -, -, -, h3⟩ := hmem p (hsub.subset hp)
    exact h3
  · obtain ⟨p, hp, e⟩ := List.mem_map.1 hg
    obtain ⟨hp1, hp2⟩ := List.mem_filter.1 hp
    obtain ⟨p0, hp0, e1, e2, -⟩ := hmem p hp1
    have h1 := h.id p0 hp0
    rw [← e1, e] at h1
    refine ⟨h1.1, h1.2, opn_iff.2 ⟨p0, hp0, ?_, e1 ▸ e⟩⟩
    unfold lst ms at hp2
    rw [← e2]
    exact (Bool.and_eq_true_iff.1 (Bool.and_eq_true_iff.1 hp2).1).1
  · show (ids _).Nodup
    rw [ids_eq]
    exact ((List.filter_sublist (l := missL s Q)).map (·.id)).nodup (m2 ▸ h.nd)
  · have h1 := part (L := missL s Q) (lst Q lim) (m2 ▸ h.nd) k
    have h2 := trim_op ((missL s Q).filter (lft Q lim)) k
    rw [opn_iff, opn_iff, ← hop]
    show (∃ p ∈ trimL _, _) ↔ (_ ∧ k ∉ ids ((missL s Q).filter (lst Q lim))) ∨ _
    rw [h2, ← h1]
    constructor
    · rintro ⟨p, hp, h3, h4⟩
      obtain ⟨hp1, hp2⟩ := List.mem_filter.1 hp
      unfold lft at hp2
      exact .inl ⟨p, hp1, by simpa using hp2, h3, h4⟩
    · rintro (⟨p, hp, h3, h4, h5⟩ | ⟨h6, -⟩)
      · exact ⟨p, List.mem_filter.2 ⟨hp, by unfold lft; rw [h3]; rfl⟩, h4, h5⟩
      · cases h6
/-- Reset. -/
theorem after_reset {s : St} {n : Nat} (h : Inv s n) : After s n (reset s).1 (reset s).2 false := by
  have hk := chk_iff.1 h.ok
  refine ⟨h.sub (List.nil_sublist _) (List.nil_sublist _) (fun p hp => absurd hp List.not_mem_nil) rfl ⟨Int.le_refl _, show (0 : Int) ≤ 64 by decide⟩ (.inl rfl) rfl, fun k hg => ?_, ?_, fun k => ?_, ?_⟩
  · obtain ⟨p, hp, e⟩ := List.mem_map.1 hg
    obtain ⟨hp1, hp2⟩ := List.mem_filter.1 hp
    have h1 := h.id p hp1
    rw [e] at h1
    exact ⟨h1.1, h1.2, opn_iff.2 ⟨p, hp1, hp2, e⟩⟩
  · exact ((List.filter_sublist (l := s.l)).map (·.id)).nodup h.nd
  · constructor
    · intro e; cases e
    · rintro (⟨h1, h2⟩ | ⟨h6, -⟩)
      · obtain ⟨p, hp, h3, h4⟩ := opn_iff.1 h1
        exact absurd (List.mem_map.2 ⟨p, List.mem_filter.2 ⟨hp, h3⟩, h4⟩) h2
      · cases h6
  · show (ids _).length ≤ 64
    rw [ids_eq, List.length_map]
    exact Nat.le_trans (List.length_filter_le _ _) h.len
/-- Nothing done, with or without Request. -/
theorem after_same {s : St} {n : Nat} (h : Inv s n) : After s n s [] false :=
  ⟨h, fun _ hk => absurd hk List.not_mem_nil, List.nodup_nil, fun _ => ⟨fun e => .inl ⟨e, List.not_mem_nil⟩, fun e => e.elim (fun e => e.1) (fun e => (nomatch e.1))⟩, Nat.zero_le _⟩
theorem after_confirm {s : St} {n : Nat} (h : Inv s n) : After s n (confirm s) [] false :=
  ⟨⟨h.ok, h.id, h.nd⟩, fun _ hk => absurd hk List.not_mem_nil, List.nodup_nil, fun _ => ⟨fun e => .inl ⟨e, List.not_mem_nil⟩, fun e => e.elim (fun e => e.1) (fun e => (nomatch e.1))⟩, Nat.zero_le _⟩
/-- Resize. -/
theorem after_resize {s : St} {n : Nat} (h : Inv s n) (z : Int) (hz : (resize s z).2 = 0) : After s n (resize s z).1 [] false := by
  unfold resize at *
  split at hz
  · cases hz
  · rename_i h1
    split at hz
    · cases hz
    · rename_i h2
      rw [if_neg h1, if_neg h2]
      have hl : s.l = [] := List.length_eq_zero_iff.1 (by omega)
      refine ⟨h.sub (List.nil_sublist _) (List.nil_sublist _) (fun p hp => absurd hp List.not_mem_nil) rfl (show 0 ≤ z ∧ z ≤ 64 by omega) (.inl rfl) rfl, fun _ hk => absurd hk List.not_mem_nil, List.nodup_nil, fun k => ?_, Nat.zero_le _⟩
      unfold opn
      rw [hl]
      exact ⟨fun e => (nomatch e), fun e => e.elim (fun e => (nomatch e.1)) (fun e => (nomatch e.1))⟩
/-- Put. -/
theorem after_put {s : St} {n : Nat} (h : Inv s n) (d : ByteArray) (hd : d.size ≤ 2048) (hz : (put s n d).2.2 = 0) : After s n (put s n d).1 [] true := by
  unfold put at *
  rw [if_neg (by omega)] at *
  split at hz
  · cases hz
  · rename_i h1
    rw [if_neg h1]
    obtain ⟨k1, k2, k3, k4⟩ := chk_iff.1 h.ok
    have hup := chkL_up.1 k2
    have hrq : ¬ s.rq = true := fun e => h1 (by unfold room; rw [if_pos e])
    have hu : used s < wid s.sz := by unfold room at h1; rw [if_neg hrq] at h1; omega
    have hw : wid s.sz ≤ 64 := by unfold wid; split <;> omega
    have hb : bgn { s with nx := add s.nx 1, l := s.l ++ [⟨n, s.nx, 0, false, d⟩] } = bgn s := by
      unfold bgn
      cases s.l <;> rfl
    have hus : used { s with nx := add s.nx 1, l := s.l ++ [⟨n, s.nx, 0, false, d⟩] } = used s + 1 := by
      unfold used at *
      rw [hb]
      exact dist_next (by omega)
    refine ⟨⟨chk_iff.2 ⟨⟨md_in _, k1.2⟩, chkL_up.2 ⟨fun p hp => ?_, ?_⟩, ?_, ?_⟩, fun p hp => ?_, ?_⟩, fun _ hk => absurd hk List.not_mem_nil, List.nodup_nil, fun k => ?_, Nat.zero_le _⟩
    · rcases List.mem_append.1 hp with hp | hp
      · exact hup.1 p hp
      · rw [List.mem_singleton.1 hp]; exact ⟨⟨k1.1, Int.le_refl _⟩, hd⟩
    · rw [hb, hus]
      show Up _ _ _ ((s.l ++ [_]).map _)
      rw [List.map_append]
      exact Up.snoc (b := bgn s) (u := used s + 1) (q := s.nx) (show used s < used s + 1 by omega) hup.2 (show -1 < used s by have := dist_lo (bgn s) s.nx; unfold used; omega)
    · rw [hus]; show used s + 1 ≤ wid s.sz; omega
    · show fstDn (s.l ++ [_]) = false
      cases hl : s.l with
      | nil => rfl
      | cons a t => rw [hl] at k4; exact k4
    · rw [if_pos rfl]
      rcases List.mem_append.1 hp with hp | hp
      · have := h.id p hp; push_cast; omega
      · rw [List.mem_singleton.1 hp]; push_cast; show 0 ≤ (n : Int) ∧ _; omega
    · show ((s.l ++ [_]).map _).Nodup
      rw [List.map_append, List.nodup_append]
      refine ⟨h.nd, by simp, fun a ha b hb => ?_⟩
      obtain ⟨p, hp, e⟩ := List.mem_map.1 ha
      have := h.id p hp
      simp at hb
      omega
    · constructor
      · intro e
        obtain ⟨p, hp, h2, h3⟩ := opn_iff.1 e
        rcases List.mem_append.1 hp with hp | hp
        · exact .inl ⟨opn_iff.2 ⟨p, hp, h2, h3⟩, List.not_mem_nil⟩
        · rw [List.mem_singleton.1 hp] at h3; exact .inr ⟨rfl, h3.symm⟩
      · rintro (⟨h2, -⟩ | ⟨-, h2⟩)
        · obtain ⟨p, hp, h3⟩ := opn_iff.1 h2
          exact opn_iff.2 ⟨p, List.mem_append_left _ hp, h3⟩
        · exact opn_iff.2 ⟨_, List.mem_append_right _ (List.mem_singleton_self _), rfl, h2.symm⟩
end Go.Wn
