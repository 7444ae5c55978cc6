/-
  LAYER 19, of no program: a history; five of them; a table as the list of its peers in ascending order, each with its five; what the calls make of it.
-/
import Derived.Maps.OwnSet
import Derived.MapViews
namespace Go.Hi

structure La where
  v : Bool
  q : Int
  f : Int
deriving DecidableEq
def zl : La := ⟨false, 0, 0⟩
instance : Inhabited La := ⟨zl⟩
structure Fl where
  a0 : La
  a1 : La
  a2 : La
  a3 : La
  a4 : La
deriving DecidableEq
def zf : Fl := ⟨zl, zl, zl, zl, zl⟩
def Fl.get (F : Fl) : Nat → La
  | 0 => F.a0 | 1 => F.a1 | 2 => F.a2 | 3 => F.a3 | _ => F.a4
def Fl.set (F : Fl) (i : Nat) (x : La) : Fl :=
  match i with
  | 0 => { F with a0 := x } | 1 => { F with a1 := x } | 2 => { F with a2 := x } | 3 => { F with a3 := x } | _ => { F with a4 := x }
theorem get_set (F : Fl) (i j : Nat) (hi : i < 5) (hj : j < 5) (x : La) : (F.set i x).get j = if i = j then x else F.get j := by
  match i, hi with
  | 0, _ | 1, _ | 2, _ | 3, _ | 4, _ => match j, hj with | 0, _ | 1, _ | 2, _ | 3, _ | 4, _ => rfl
theorem zf_get (i : Nat) : zf.get i = zl := by
  match i with
  | 0 | 1 | 2 | 3 | (_ + 4) => rfl

abbrev Tb := List (Int × Fl)
def look (M : Tb) (p : Int) : Fl := match M.find? (fun x => decide (x.1 = p)) with | some x => x.2 | none => zf
def isF (k : Int) : Bool := decide (0 ≤ k ∧ k < 5)
def get (M : Tb) (p k : Int) : La := if isF k then (look M p).get k.toNat else zl
def ins (M : Tb) (p : Int) (F : Fl) : Tb := M.filter (fun x => decide (x.1 < p)) ++ (p, F) :: M.filter (fun x => decide (p < x.1))
def put (M : Tb) (p k : Int) (x : La) : Tb := if isF k then ins M p ((look M p).set k.toNat x) else M
def drp (M : Tb) (p : Int) : Tb := M.filter (fun x => decide (x.1 ≠ p))
/-- Ascending; each address is one of 64 bits. -/
def Up (M : Tb) : Prop := M.Pairwise (fun x y => x.1 < y.1)
def Ok (M : Tb) : Prop := Up M ∧ ∀ x ∈ M, (Lit.int .u64 x.1).wf = true

theorem ok_nil : Ok [] := ⟨List.Pairwise.nil, fun _ h => absurd h List.not_mem_nil⟩
theorem mem_ins {M : Tb} {p : Int} {F : Fl} {x : Int × Fl} : x ∈ ins M p F → x ∈ M ∨ x = (p, F) := by
  intro h
  unfold ins at h
  rcases List.mem_append.1 h with h | h
  · exact .inl (List.mem_filter.1 h).1
  · rcases List.mem_cons.1 h with h | h
    · exact .inr h
    · exact .inl (List.mem_filter.1 h).1
theorem ok_ins {M : Tb} (h : Ok M) {p : Int} (hp : (Lit.int .u64 p).wf = true) (F : Fl) : Ok (ins M p F) := by
  refine ⟨?_, fun x hx => ?_⟩
  · unfold Up ins
    refine List.pairwise_append.2 ⟨h.1.filter _, List.pairwise_cons.2 ⟨fun x hx => of_decide_eq_true (List.mem_filter.1 hx).2, h.1.filter _⟩, fun a ha b hb => ?_⟩
    have ha' : a.1 < p := of_decide_eq_true (List.mem_filter.1 ha).2
    rcases List.mem_cons.1 hb with rfl | hb
    · exact ha'
    · have hb' : p < b.1 := of_decide_eq_true (List.mem_filter.1 hb).2
      omega
  · rcases mem_ins hx with hx | rfl
    · exact h.2 x hx
    · exact hp
theorem ok_put {M : Tb} (h : Ok M) {p : Int} (hp : (Lit.int .u64 p).wf = true) (k : Int) (x : La) : Ok (put M p k x) := by
  unfold put
  split
  · exact ok_ins h hp _
  · exact h
theorem ok_drp {M : Tb} (h : Ok M) (p : Int) : Ok (drp M p) := ⟨h.1.filter _, fun x hx => h.2 x (List.mem_filter.1 hx).1⟩
theorem len_ins {M : Tb} (p : Int) (F : Fl) : (ins M p F).length ≤ M.length + 1 := by
  unfold ins
  rw [List.length_append, List.length_cons]
  have : (M.filter (fun x => decide (x.1 < p))).length + (M.filter (fun x => decide (p < x.1))).length ≤ M.length := by
    clear F
    induction M with
    | nil => simp
    | cons a r ih =>
      simp only [List.filter_cons]
      by_cases h1 : a.1 < p
      · have h2 : ¬ p < a.1 := by omega
        simp [h1, h2]; omega
      · by_cases h2 : p < a.1 <;> simp [h1, h2] <;> omega
  omega
theorem len_put {M : Tb} (p k : Int) (x : La) : (put M p k x).length ≤ M.length + 1 := by
  unfold put
  split
  · exact len_ins _ _
  · omega
theorem len_drp {M : Tb} (p : Int) : (drp M p).length ≤ M.length := List.length_filter_le _ _

/-! Looked up. -/
theorem find_none {M : Tb} {p : Int} (h : ∀ x ∈ M, x.1 ≠ p) : look M p = zf := by
  unfold look
  rw [List.find?_eq_none.2 (fun x hx => by simpa using h x hx)]
theorem find_some {M : Tb} (h : Up M) {x : Int × Fl} (hx : x ∈ M) : look M x.1 = x.2 := by
  unfold look
  induction M with
  | nil => cases hx
  | cons a r ih =>
    rw [List.find?_cons]
    rcases List.mem_cons.1 hx with rfl | hx'
    · simp
    · have : a.1 < x.1 := (List.pairwise_cons.1 h).1 x hx'
      have hne : decide (a.1 = x.1) = false := decide_eq_false (by omega)
      rw [hne]
      exact ih (List.pairwise_cons.1 h).2 hx'
theorem look_ins {M : Tb} (h : Ok M) {p : Int} (hp : (Lit.int .u64 p).wf = true) (F : Fl) (r : Int) : look (ins M p F) r = if r = p then F else look M r := by
  have ho := ok_ins h hp F
  have hm : (p, F) ∈ ins M p F := List.mem_append_right _ (List.mem_cons_self ..)
  by_cases hr : r = p
  · subst hr; rw [if_pos rfl]; exact find_some ho.1 hm
  · rw [if_neg hr]
    by_cases hx : ∃ x ∈ M, x.1 = r
    · obtain ⟨x, hx, rfl⟩ := hx
      have : x ∈ ins M p F := by
        unfold ins
        rcases Int.lt_or_gt_of_ne hr with hlt | hgt
        · exact List.mem_append_left _ (List.mem_filter.2 ⟨hx, decide_eq_true hlt⟩)
        · exact List.mem_append_right _ (List.mem_cons_of_mem _ (List.mem_filter.2 ⟨hx, decide_eq_true hgt⟩))
      rw [find_some ho.1 this, find_some h.1 hx]
    · rw [find_none (M := M) (fun x hx' e => hx ⟨x, hx', e⟩)]
      refine find_none (fun x hx' e => ?_)
      rcases mem_ins hx' with hx'' | rfl
      · exact hx ⟨x, hx'', e⟩
      · exact hr e.symm
theorem look_drp {M : Tb} (h : Ok M) (p r : Int) : look (drp M p) r = if r = p then zf else look M r := by
  by_cases hr : r = p
  · subst hr
    rw [if_pos rfl]
    exact find_none (fun x hx => of_decide_eq_true (List.mem_filter.1 hx).2)
  · rw [if_neg hr]
    by_cases hx : ∃ x ∈ M, x.1 = r
    · obtain ⟨x, hx, rfl⟩ := hx
      have : x ∈ drp M p := List.mem_filter.2 ⟨hx, decide_eq_true hr⟩
      rw [find_some (ok_drp h p).1 this, find_some h.1 hx]
    · rw [find_none (M := M) (fun x hx' e => hx ⟨x, hx', e⟩)]
      exact find_none (fun x hx' e => hx ⟨x, (List.mem_filter.1 hx').1, e⟩)

/-- A call, as the laws are handed it. -/
structure Oq where
  k : Int
  p : Int
  w : Int
  x : La
instance : Inhabited Oq := ⟨⟨0, 0, 0, zl⟩⟩
/-- One entry of the reference. -/
structure En where
  p : Int
  x : Fl
def ze : En := ⟨0, zf⟩

/-! Note. -/
def nt (s f : Int) : La := ⟨true, s, f⟩
def ag (l : La) (s f : Int) : Int := if l = ⟨true, s, f⟩ then 1 else 0

/-! As a datum. -/
def dL (a : La) : DataW Unit := .agg [.lit (.bool a.v), .lit (.int .i64 a.q), .lit (.int .i64 a.f)]
def dF (F : Fl) : DataW Unit := .agg [dL F.a0, dL F.a1, dL F.a2, dL F.a3, dL F.a4]
theorem dL_inj {a b : La} (h : dL a = dL b) : a = b := by
  unfold dL at h
  obtain ⟨_, _, _⟩ := a
  obtain ⟨_, _, _⟩ := b
  simp_all
theorem dF_inj {a b : Fl} (h : dF a = dF b) : a = b := by
  unfold dF at h
  simp only [DataW.agg.injEq, List.cons.injEq, and_true] at h
  obtain ⟨h0, h1, h2, h3, h4⟩ := h
  obtain ⟨_, _, _, _, _⟩ := a
  obtain ⟨_, _, _, _, _⟩ := b
  have e0 := dL_inj h0; have e1 := dL_inj h1; have e2 := dL_inj h2; have e3 := dL_inj h3; have e4 := dL_inj h4
  simp only at e0 e1 e2 e3 e4
  rw [e0, e1, e2, e3, e4]
def en (x : Int × Fl) : Lit × DataW Unit := (.int .u64 x.1, dF x.2)
def dT (M : Tb) : DataW Unit := .map (M.map en)
theorem at_look (M : Tb) (p : Int) : (dT M).atKey (.int .u64 p) (dF zf) = dF (look M p) := by
  unfold dT DataW.atKey look
  simp only [List.find?_map]
  have e : ((fun q : Lit × DataW Unit => q.1.sameKey (.int .u64 p)) ∘ en) = fun x => decide (x.1 = p) := by
    funext x; simp [en, Lit.sameKey]
  rw [e]
  cases M.find? (fun x => decide (x.1 = p)) <;> rfl
theorem filt (M : Tb) (p : Int) : (M.map en).filter (fun q => !q.1.sameKey (.int .u64 p)) = (drp M p).map en := by
  unfold drp
  rw [List.filter_map]
  congr 1
  refine List.filter_congr fun x _ => ?_
  simp [en, Lit.sameKey]
theorem del_drp (M : Tb) (p : Int) : (dT M).del (.int .u64 p) = dT (drp M p) := by
  unfold dT DataW.del
  simp only [filt]
theorem ins_eq (p : Int) (F : Fl) : ∀ M : Tb, Up M → DataW.insert (en (p, F)) ((drp M p).map en) = (ins M p F).map en
  | [], _ => rfl
  | a :: r, h => by
    have ih := ins_eq p F r (List.pairwise_cons.1 h).2
    have hr : ∀ x ∈ r, a.1 < x.1 := (List.pairwise_cons.1 h).1
    rcases Int.lt_trichotomy a.1 p with hlt | heq | hgt
    · have e1 : drp (a :: r) p = a :: drp r p := by unfold drp; rw [List.filter_cons, if_pos (decide_eq_true (by omega))]
      have e2 : ins (a :: r) p F = a :: ins r p F := by
        have e3 : (a :: r).filter (fun x : Int × Fl => decide (x.1 < p)) = a :: r.filter (fun x => decide (x.1 < p)) := by rw [List.filter_cons, if_pos (decide_eq_true hlt)]
        have e4 : (a :: r).filter (fun x : Int × Fl => decide (p < x.1)) = r.filter (fun x => decide (p < x.1)) := by rw [List.filter_cons, if_neg (by simp; omega)]
        unfold ins; rw [e3, e4]; rfl
      rw [e1, e2, List.map_cons, List.map_cons, ← ih, DataW.insert, if_neg (by simp [en, Lit.before]; omega)]
    · have e1 : drp (a :: r) p = drp r p := by unfold drp; rw [List.filter_cons, if_neg (by simp [heq])]
      have e2 : ins (a :: r) p F = ins r p F := by
        have e3 : (a :: r).filter (fun x : Int × Fl => decide (x.1 < p)) = r.filter (fun x => decide (x.1 < p)) := by rw [List.filter_cons, if_neg (by simp; omega)]
        have e4 : (a :: r).filter (fun x : Int × Fl => decide (p < x.1)) = r.filter (fun x => decide (p < x.1)) := by rw [List.filter_cons, if_neg (by simp; omega)]
        unfold ins; rw [e3, e4]
      rw [e1, e2, ih]
    · have e1 : drp (a :: r) p = a :: r := by unfold drp; exact List.filter_eq_self.2 (fun x hx => decide_eq_true (by rcases List.mem_cons.1 hx with rfl | hx; omega; have := hr x hx; omega))
      have e2 : ins (a :: r) p F = (p, F) :: a :: r := by
        unfold ins
        rw [List.filter_eq_nil_iff.2 (fun x hx => by simp; rcases List.mem_cons.1 hx with rfl | hx; omega; have := hr x hx; omega),
          List.filter_eq_self.2 (fun x hx => decide_eq_true (by rcases List.mem_cons.1 hx with rfl | hx; omega; have := hr x hx; omega))]; rfl
      rw [e1, e2, List.map_cons, List.map_cons, DataW.insert, if_pos (by simp [en, Lit.before]; omega), List.map_cons]
theorem put_ins {M : Tb} (h : Up M) (p : Int) (F : Fl) : (dT M).put (.int .u64 p) (dF F) = dT (ins M p F) := by
  unfold dT DataW.put
  simp only [filt]
  exact congrArg DataW.map (ins_eq p F M h)
end Go.Hi
