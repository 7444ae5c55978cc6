/-
  PACKET QUEUES. Of no program.
-/
import Derived.Test.YtaljdjabppiglaaAdMath
namespace Go.Qu
open Go.Ad Go.Wr

/-- An item: identifier, category, to, from, octets, born, life. -/
structure It where
  id : Int
  cat : Int
  to : Int
  fr : Int
  da : ByteArray
  bo : Int
  li : Int
def zit : It := ⟨0, 0, 0, 0, ⟨#[]⟩, 0, 0⟩
/-- What its type lets in. -/
structure Wf (x : It) : Prop where
  t0 : 0 ≤ x.to
  t1 : x.to < 18446744073709551616
  f0 : 0 ≤ x.fr
  f1 : x.fr < 18446744073709551616
  b0 : -9223372036854775808 ≤ x.bo
  b1 : x.bo ≤ 9223372036854775807
  l0 : -9223372036854775808 ≤ x.li
  l1 : x.li ≤ 9223372036854775807
def vld (a : Int) : Bool := vald a.toNat
def sgl (a : Int) : Bool := vald a.toNat && !grp a.toNat
def slt (n : Int) : Bool := decide (0 ≤ n) && decide (n ≤ 16777216)
/-- The error of an item. -/
def ierr (x : It) : Int :=
  if x.id < 1 ∨ x.cat < 0 ∨ 4 ≤ x.cat then 4 else if vld x.to = false ∨ sgl x.fr = false then 4 else if slt x.bo = false ∨ slt x.li = false then 4 else if 1024 < x.da.size then 2 else 0
def hasId (l : List It) (i : Int) : Bool := l.any (fun p => p.id == i)
/-- The error of an item that comes behind others. -/
def cnx (l : List It) (x : It) : Int := if ierr x = 0 then (if hasId l x.id then 8 else 0) else ierr x
def chkI (p : List It) : List It → Int
  | [] => 0
  | x :: t => if cnx p x = 0 then chkI (p ++ [x]) t else cnx p x
def chk (l : List It) : Int := if 64 < l.length then 6 else chkI [] l
def psh (l : List It) (x : It) (most : Int) : List It × Int :=
  if cnx l x = 0 then (if min most 64 ≤ l.length then ([], 6) else (l ++ [x], 0)) else ([], cnx l x)
def isTo (a : Int) (p : It) : Bool := p.to == a
/-- The first place of an item that is told of. -/
def fidx (P : It → Bool) : List It → Nat
  | [] => 0
  | x :: t => if P x then 0 else fidx P t + 1
def itAt (l : List It) (i : Nat) : It := (l[i]?).getD zit
def without (l : List It) (i : Nat) : List It := l.take i ++ l.drop (i + 1)
def head (l : List It) (sk : It → Bool) : It × Bool := if fidx (fun p => !sk p) l < l.length then (itAt l (fidx (fun p => !sk p) l), true) else (zit, false)
def exps (now : Int) (x : It) : Bool := decide (0 < x.li) && (decide (x.bo ≤ now) && decide (x.li ≤ now - x.bo))
def neg (P : It → Bool) (x : It) : Bool := !P x

theorem fidx_le (P : It → Bool) : ∀ l, fidx P l ≤ l.length
  | [] => Nat.le_refl _
  | x :: t => by
    have := fidx_le P t
    show (if P x then 0 else fidx P t + 1) ≤ t.length + 1
    split <;> omega
theorem fidx_lt {P : It → Bool} : ∀ {l : List It} {i : Nat} (h : i < l.length), P l[i] = true → (∀ j (hj : j < i), P (l[j]'(by omega)) = false) → fidx P l = i
  | x :: t, 0, _, h1, _ => if_pos h1
  | x :: t, i + 1, h, h1, h2 => by
    have h3 := h2 0 (by omega)
    have ih := fidx_lt (P := P) (l := t) (i := i) (by simpa using h) (by simpa using h1) (fun j hj => by simpa using h2 (j + 1) (by omega))
    show (if P x then 0 else fidx P t + 1) = i + 1
    rw [if_neg (by rw [show P x = false from h3]; decide), ih]
theorem fidx_all {P : It → Bool} : ∀ {l : List It}, (∀ j (hj : j < l.length), P l[j] = false) → fidx P l = l.length
  | [], _ => rfl
  | x :: t, h => by
    have h3 := h 0 (by simp)
    have ih := fidx_all (P := P) (l := t) (fun j hj => h (j + 1) (Nat.succ_lt_succ hj))
    show (if P x then 0 else fidx P t + 1) = t.length + 1
    rw [if_neg (by rw [show P x = false from h3]; decide), ih]
theorem fidx_at {P : It → Bool} : ∀ {l : List It} (h : fidx P l < l.length), P (l[fidx P l]) = true
  | [], h => absurd h (Nat.not_lt_zero _)
  | x :: t, h => by
    by_cases hx : P x = true
    · have e : fidx P (x :: t) = 0 := if_pos hx
      simp [e, hx]
    · have e : fidx P (x :: t) = fidx P t + 1 := if_neg hx
      have h' : fidx P t < t.length := by rw [e] at h; simpa using h
      have := fidx_at h'
      simp [e, this]
theorem fidx_before {P : It → Bool} : ∀ {l : List It} {j : Nat} (h : j < fidx P l), P (l[j]'(Nat.lt_of_lt_of_le h (fidx_le P l))) = false
  | [], j, h => absurd h (Nat.not_lt_zero _)
  | x :: t, j, h => by
    by_cases hx : P x = true
    · have e : fidx P (x :: t) = 0 := if_pos hx
      omega
    · have e : fidx P (x :: t) = fidx P t + 1 := if_neg hx
      cases j with
      | zero => simpa using hx
      | succ j => simpa using fidx_before (P := P) (l := t) (j := j) (by omega)
theorem itAt_eq {l : List It} {i : Nat} (h : i < l.length) : itAt l i = l[i] := by unfold itAt; rw [List.getElem?_eq_getElem h]; rfl
theorem any_fidx (P : It → Bool) (l : List It) : l.any P = decide (fidx P l < l.length) := by
  by_cases h : fidx P l < l.length
  · rw [decide_eq_true h, List.any_eq_true]
    exact ⟨_, List.getElem_mem h, fidx_at h⟩
  · rw [decide_eq_false h, List.any_eq_false]
    intro x hx hp
    obtain ⟨j, hj, rfl⟩ := List.mem_iff_getElem.1 hx
    have := fidx_before (P := P) (l := l) (j := j) (by have := fidx_le P l; omega)
    rw [this] at hp; cases hp
theorem filter_takeI {P : It → Bool} {l : List It} {i : Nat} (h : i < l.length) : (l.take (i + 1)).filter P = (l.take i).filter P ++ (if P l[i] then [l[i]] else []) := by
  rw [List.take_succ_eq_append_getElem h, List.filter_append]
  congr 1
  by_cases hp : P l[i] = true
  · simp [hp]
  · simp [hp]
theorem chkI_at {l : List It} {i : Nat} (h : i < l.length) : chkI (l.take i) (l.drop i) = if cnx (l.take i) l[i] = 0 then chkI (l.take (i + 1)) (l.drop (i + 1)) else cnx (l.take i) l[i] := by
  rw [List.drop_eq_getElem_cons h]
  show (if _ then chkI (l.take i ++ [l[i]]) _ else _) = _
  rw [← List.take_succ_eq_append_getElem h]
theorem chkI_end {l : List It} {i : Nat} (h : l.length ≤ i) : chkI (l.take i) (l.drop i) = 0 := by rw [List.drop_eq_nil_of_le h]; rfl
end Go.Qu
