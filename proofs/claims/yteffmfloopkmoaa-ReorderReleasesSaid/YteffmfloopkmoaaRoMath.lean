/-
  REORDER BUFFERS. Of no program.
-/
import Derived.Test.YteffmfloopkmoaaSqMath
namespace Go.Ro
open Go.Sq

/-- A packet that waits: its number and its octets. -/
structure Hd where
  q : Int
  d : ByteArray
/-- A buffer: start, size, what it holds. -/
structure Bf where
  st : Int
  sz : Int
  hs : List Hd
/-- A buffer as the machine has it. -/
structure Rw where
  st : Int
  sz : Int
  sa : Option Addr
  n : Nat
  c : Nat
/-- A call. -/
structure Oq where
  k : Int
  q : Int
  d : ByteArray

def chkL (s z : Int) : Int → List Hd → Int
  | _, [] => 0
  | last, h :: t => if vl h.q = false ∨ dist s h.q < 1 ∨ z ≤ dist s h.q then 4 else if dist s h.q ≤ last then 12 else if 2048 < h.d.size then 2 else chkL s z (dist s h.q) t
def hdOk (s z : Int) : Bool := vl s && (decide (1 ≤ z) && decide (z ≤ 64))
def chk (b : Bf) : Int := if hdOk b.st b.sz then chkL b.st b.sz 0 b.hs else 4
def new (s z : Int) : Bf × Int := if hdOk s z then (⟨s, z, []⟩, 0) else (⟨0, 0, []⟩, 4)

def Asc (s : Int) (l : List Hd) : Prop := l.Pairwise (fun x y => dist s x.q < dist s y.q)
structure Ok (b : Bf) : Prop where
  st : 0 ≤ b.st ∧ b.st < 4096
  sz : 1 ≤ b.sz ∧ b.sz ≤ 64
  asc : Asc b.st b.hs
  all : ∀ h ∈ b.hs, (0 ≤ h.q ∧ h.q < 4096) ∧ 1 ≤ dist b.st h.q ∧ dist b.st h.q < b.sz ∧ h.d.size ≤ 2048

theorem dist_in (s q : Int) : 0 ≤ dist s q ∧ dist s q < 4096 := md_in _
theorem vl_iff (n : Int) : vl n = true ↔ 0 ≤ n ∧ n < 4096 := by unfold vl; simp
theorem hdOk_iff (s z : Int) : hdOk s z = true ↔ (0 ≤ s ∧ s < 4096) ∧ 1 ≤ z ∧ z ≤ 64 := by unfold hdOk vl; simp
theorem chkL_ok (s z : Int) : ∀ (l : List Hd) (last : Int), chkL s z last l = 0 ↔ Asc s l ∧ ∀ h ∈ l, last < dist s h.q ∧ (0 ≤ h.q ∧ h.q < 4096) ∧ 1 ≤ dist s h.q ∧ dist s h.q < z ∧ h.d.size ≤ 2048
  | [], last => by simp [chkL, Asc]
  | h :: t, last => by
    unfold chkL
    have hv := vl_iff h.q
    by_cases h1 : vl h.q = false ∨ dist s h.q < 1 ∨ z ≤ dist s h.q
    · rw [if_pos h1]
      refine ⟨fun e => absurd e (by decide), fun e => ?_⟩
      obtain ⟨-, e1, e2, e3, -⟩ := e.2 h (List.mem_cons_self ..)
      rw [hv.2 e1] at h1
      rcases h1 with h1 | h1 | h1
      · cases h1
      · omega
      · omega
    · rw [if_neg h1]
      rw [not_or, not_or] at h1
      obtain ⟨g1, g2, g3⟩ := h1
      have g1' : 0 ≤ h.q ∧ h.q < 4096 := hv.1 (by simpa using g1)
      by_cases h2 : dist s h.q ≤ last
      · rw [if_pos h2]
        refine ⟨fun e => absurd e (by decide), fun e => ?_⟩
        have := (e.2 h (List.mem_cons_self ..)).1
        omega
      · rw [if_neg h2]
        by_cases h3 : 2048 < h.d.size
        · rw [if_pos h3]
          refine ⟨fun e => absurd e (by decide), fun e => ?_⟩
          have := (e.2 h (List.mem_cons_self ..)).2.2.2.2
          omega
        · rw [if_neg h3, chkL_ok s z t (dist s h.q)]
          constructor
          · rintro ⟨a, b⟩
            refine ⟨List.pairwise_cons.2 ⟨fun y hy => (b y hy).1, a⟩, fun y hy => ?_⟩
            rcases List.mem_cons.1 hy with rfl | hy
            · exact ⟨by omega, g1', by omega, by omega, by omega⟩
            · have := b y hy
              exact ⟨by omega, this.2.1, this.2.2⟩
          · rintro ⟨a, b⟩
            have a' := List.pairwise_cons.1 a
            exact ⟨a'.2, fun y hy => ⟨a'.1 y hy, (b y (List.mem_cons_of_mem _ hy)).2⟩⟩
theorem chk_ok (b : Bf) : chk b = 0 ↔ Ok b := by
  unfold chk
  by_cases h : hdOk b.st b.sz = true
  · rw [if_pos h, chkL_ok]
    have h' := (hdOk_iff _ _).1 h
    constructor
    · rintro ⟨a, c⟩
      exact ⟨h'.1, h'.2, a, fun x hx => (c x hx).2⟩
    · rintro ⟨-, -, a, c⟩
      exact ⟨a, fun x hx => ⟨by have := (c x hx).2.1; omega, c x hx⟩⟩
  · rw [if_neg h]
    refine ⟨fun e => absurd e (by decide), fun e => absurd ((hdOk_iff _ _).2 ⟨e.st, e.sz⟩) h⟩

/-- Ascending distances between two bounds are few. -/
theorem asc_len (s : Int) : ∀ (l : List Hd) (a z : Int), Asc s l → (∀ h ∈ l, a ≤ dist s h.q ∧ dist s h.q < z) → l = [] ∨ (l.length : Int) ≤ z - a
  | [], _, _, _, _ => .inl rfl
  | h :: t, a, z, ha, hb => by
    right
    have ha' := List.pairwise_cons.1 ha
    have h0 := hb h (List.mem_cons_self ..)
    rcases asc_len s t (dist s h.q + 1) z ha'.2 (fun y hy => ⟨by have := ha'.1 y hy; omega, (hb y (List.mem_cons_of_mem _ hy)).2⟩) with rfl | hl
    · simp; omega
    · rw [List.length_cons]; omega
theorem Ok.len {b : Bf} (h : Ok b) : b.hs.length ≤ 63 := by
  have hs := h.sz
  rcases asc_len b.st b.hs 1 b.sz h.asc (fun x hx => ⟨(h.all x hx).2.1, (h.all x hx).2.2.1⟩) with e | e
  · rw [e]; simp
  · omega

/-- How many come before the distance d. -/
def nb (s d : Int) (l : List Hd) : Nat := (l.takeWhile (fun h => decide (dist s h.q < d))).length
theorem nb_le (s d : Int) (l : List Hd) : nb s d l ≤ l.length := by
  unfold nb
  exact (List.takeWhile_prefix _).length_le
theorem nb_lt (s d : Int) : ∀ (l : List Hd) (i : Nat) (h : i < l.length), i < nb s d l → dist s l[i].q < d
  | h :: t, i, hi, hn => by
    unfold nb at hn
    rw [List.takeWhile_cons] at hn
    split at hn
    · rename_i hd
      cases i with
      | zero => simpa using hd
      | succ i => exact nb_lt s d t i (by simpa using hi) (by unfold nb; simpa using hn)
    · simp at hn
theorem nb_ge (s d : Int) : ∀ (l : List Hd), Asc s l → ∀ (i : Nat) (h : i < l.length), nb s d l ≤ i → d ≤ dist s l[i].q
  | h :: t, ha, i, hi, hn => by
    have ha' := List.pairwise_cons.1 ha
    unfold nb at hn
    rw [List.takeWhile_cons] at hn
    split at hn
    · rename_i hd
      cases i with
      | zero => simp at hn
      | succ i => exact nb_ge s d t ha'.2 i (by simpa using hi) (by unfold nb; simpa using hn)
    · rename_i hd
      have hd' : ¬ dist s h.q < d := by simpa using hd
      cases i with
      | zero => show d ≤ dist s h.q; omega
      | succ i =>
        have := ha'.1 (t[i]'(by simpa using hi)) (List.getElem_mem _)
        show d ≤ dist s (t[i]'(by simpa using hi)).q
        omega
theorem nb_unique (s d : Int) : ∀ (l : List Hd) (n : Nat), n ≤ l.length → (∀ i (h : i < l.length), i < n → dist s l[i].q < d) → (∀ (h : n < l.length), d ≤ dist s l[n].q) → n = nb s d l
  | [], n, hn, _, _ => by simp at hn; subst hn; rfl
  | h :: t, n, hn, h1, h2 => by
    unfold nb
    rw [List.takeWhile_cons]
    cases n with
    | zero =>
      have : d ≤ dist s h.q := h2 (by simp)
      rw [if_neg (by simpa using this)]; rfl
    | succ n =>
      have h0 : dist s h.q < d := h1 0 (by simp) (by omega)
      rw [if_pos (by simpa using h0), List.length_cons]
      have := nb_unique s d t n (by simpa using hn) (fun i hi hin => h1 (i + 1) (by simpa using hi) (by omega)) (fun hi => h2 (by simpa using hi))
      rw [this]; rfl
theorem nb_all (s d : Int) (l : List Hd) (h : ∀ x ∈ l, dist s x.q < d) : nb s d l = l.length :=
  (nb_unique s d l l.length (Nat.le_refl _) (fun _ hi _ => h _ (List.getElem_mem hi)) (fun hi => absurd hi (Nat.lt_irrefl _))).symm
theorem nb_zero (s d : Int) (l : List Hd) (h : ∀ x ∈ l, d ≤ dist s x.q) : nb s d l = 0 :=
  (nb_unique s d l 0 (Nat.zero_le _) (fun _ _ h0 => absurd h0 (Nat.not_lt_zero _)) (fun hi => h _ (List.getElem_mem hi))).symm

/-- How many follow without a gap. -/
def dr : Int → List Hd → Nat
  | _, [] => 0
  | s, h :: t => if h.q = s then dr (add s 1) t + 1 else 0
theorem dr_le : ∀ (l : List Hd) (s : Int), dr s l ≤ l.length
  | [], _ => Nat.le_refl _
  | h :: t, s => by
    unfold dr
    split
    · rw [List.length_cons]; exact Nat.succ_le_succ (dr_le t _)
    · exact Nat.zero_le _
theorem add_one (s : Int) (k : Nat) : add (add s 1) (k : Int) = add s ((k + 1 : Nat) : Int) := by unfold add md; omega
theorem add_next (s : Int) (k : Nat) : add (add s (k : Int)) 1 = add s ((k + 1 : Nat) : Int) := by unfold add md; omega
theorem add_zero {s : Int} (h : 0 ≤ s ∧ s < 4096) : add s 0 = s := by unfold add md; omega
theorem add_vl (s k : Int) : 0 ≤ add s k ∧ add s k < 4096 := md_in _
theorem dr_next : ∀ (l : List Hd) (s : Int) (j : Nat), (0 ≤ s ∧ s < 4096) → j ≤ dr s l → (j < dr s l ↔ ∃ h : j < l.length, l[j].q = add s (j : Int))
  | [], s, j, _, _ => by simp [dr]
  | h :: t, s, j, hs, hj => by
    unfold dr at hj ⊢
    by_cases e : h.q = s
    · rw [if_pos e] at hj ⊢
      cases j with
      | zero => refine ⟨fun _ => ⟨by simp, ?_⟩, fun _ => Nat.succ_pos _⟩
                show h.q = add s 0
                rw [add_zero hs]; exact e
      | succ j =>
        have ih := dr_next t (add s 1) j (add_vl _ _) (by omega)
        rw [Nat.succ_lt_succ_iff, ih, add_one]
        constructor
        · rintro ⟨a, b⟩; exact ⟨by simpa using a, b⟩
        · rintro ⟨a, b⟩; exact ⟨by simpa using a, b⟩
    · rw [if_neg e] at hj ⊢
      obtain rfl : j = 0 := by omega
      refine ⟨fun h => absurd h (Nat.lt_irrefl _), ?_⟩
      rintro ⟨_, hq⟩
      have h2 : h.q = add s 0 := hq
      rw [add_zero hs] at h2
      exact absurd h2 e

/-- Draining, releasing. -/
def drn (b : Bf) : Bf × List ByteArray := (⟨add b.st (dr b.st b.hs : Nat), b.sz, b.hs.drop (dr b.st b.hs)⟩, (b.hs.take (dr b.st b.hs)).map (·.d))
def n0 (b : Bf) (s : Int) : Nat := nb b.st (dist b.st s) b.hs
def nd (b : Bf) (s : Int) : Nat := dr s (b.hs.drop (n0 b s))
def rel (b : Bf) (s : Int) : Bf × List ByteArray := (⟨add s (nd b s : Nat), b.sz, b.hs.drop (n0 b s + nd b s)⟩, (b.hs.take (n0 b s + nd b s)).map (·.d))
def adv (b : Bf) (s : Int) : Bf × List ByteArray := (⟨s, b.sz, b.hs.drop (n0 b s)⟩, (b.hs.take (n0 b s)).map (·.d))
def ins (b : Bf) (q : Int) (d : ByteArray) : Bf := ⟨b.st, b.sz, b.hs.take (n0 b q) ++ ⟨q, d⟩ :: b.hs.drop (n0 b q)⟩
def held (b : Bf) (q : Int) : Bool := b.hs.any (fun h => decide (dist b.st h.q = dist b.st q))
def has (b : Bf) (q : Int) : Bool := b.hs.any (fun h => decide (h.q = q))
def old (b : Bf) (q : Int) (d : ByteArray) : Bool := held b q || (!inn b.st 2048 q || decide (2048 < d.size))
def put (b : Bf) (q : Int) (d : ByteArray) : Bf × Int × List ByteArray :=
  if old b q d then (b, 0, []) else
  if inn b.st b.sz q then ((rel (ins b q d) b.st).1, 1, (rel (ins b q d) b.st).2) else
  ((rel (ins b q d) (add q (1 - b.sz))).1, 2, (rel (ins b q d) (add q (1 - b.sz))).2)
def move (b : Bf) (s : Int) : Bf × List ByteArray := if inn b.st 2048 s then rel b s else (b, [])
def fst (b : Bf) : Int := match b.hs.getLast? with | some h => add h.q 1 | none => b.st
def flush (b : Bf) : Bf × List ByteArray := rel b (fst b)

/-- A release is an advance and a drain. -/
theorem rel_adv (b : Bf) (s : Int) : rel b s = ((drn (adv b s).1).1, (adv b s).2 ++ (drn (adv b s).1).2) := by
  unfold rel drn adv nd
  simp only [List.drop_drop, Prod.mk.injEq, true_and]
  rw [← List.map_append, List.take_add]
theorem old_ref (b : Bf) (hb : Ok b) (q : Int) (d : ByteArray) : old b q d = (!vl q || (decide (2048 ≤ dist b.st q) || (has b q || decide (2048 < d.size)))) := by
  unfold old inn
  by_cases hv : vl q = true
  · have hv' := (vl_iff q).1 hv
    have e : held b q = has b q := by
      unfold held has
      rw [Bool.eq_iff_iff, List.any_eq_true, List.any_eq_true]
      constructor
      · rintro ⟨h, hm, he⟩
        refine ⟨h, hm, ?_⟩
        have h1 := (hb.all h hm).1
        have he' := of_decide_eq_true he
        unfold dist md at he'
        exact decide_eq_true (by omega)
      · rintro ⟨h, hm, he⟩
        exact ⟨h, hm, by rw [of_decide_eq_true he]; exact decide_eq_true rfl⟩
    rw [e, hv]
    by_cases h2 : dist b.st q < 2048
    · rw [decide_eq_true h2, decide_eq_false (show ¬ 2048 ≤ dist b.st q by omega)]; simp
    · rw [decide_eq_false h2, decide_eq_true (show 2048 ≤ dist b.st q by omega)]; simp
  · have hv' : vl q = false := by simpa using hv
    rw [hv']; simp

/-- Where the insertion of a number in the window leads. -/
theorem rel_start (b : Bf) : (0 ≤ b.st ∧ b.st < 4096) → rel b b.st = drn b := by
  intro h
  have e : n0 b b.st = 0 := nb_zero _ _ _ (fun x _ => by have := dist_in b.st x.q; unfold dist md at *; omega)
  unfold rel drn nd
  rw [e, List.drop_zero, Nat.zero_add]
end Go.Ro
