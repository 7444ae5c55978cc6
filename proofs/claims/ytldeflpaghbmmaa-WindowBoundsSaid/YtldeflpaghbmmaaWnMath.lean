/-
  WINDOWS OF ORIGINATORS. Of no program.
-/
import Derived.Test.YtldeflpaghbmmaaSqMath
namespace Go.Wn
open Go.Sq

/-- A packet in progress: identifier, number, tries, whether it is done, octets. -/
structure Sn where
  id : Int
  q : Int
  tr : Int
  dn : Bool
  da : ByteArray
/-- A state as the machine has it. -/
structure Wn where
  nx : Int
  sz : Int
  sa : Option Addr
  n : Nat
  c : Nat
  rq : Bool
/-- A state. -/
structure St where
  nx : Int
  sz : Int
  l : List Sn
  rq : Bool

def startL (nx : Int) : List Sn → Int
  | [] => nx
  | x :: _ => x.q
def bgn (s : St) : Int := startL s.nx s.l
def used (s : St) : Int := dist (bgn s) s.nx
def wid (z : Int) : Int := if 1 < z then z else 1
def room (s : St) : Int := if s.rq then 0 else wid s.sz - used s
def chkL (s u : Int) : Int → List Sn → Int
  | _, [] => 0
  | last, h :: t => if vl h.q = false ∨ h.tr < 0 then 4 else if dist s h.q ≤ last ∨ u ≤ dist s h.q then 12 else if 2048 < h.da.size then 2 else chkL s u (dist s h.q) t
def fstDn : List Sn → Bool
  | [] => false
  | x :: _ => x.dn
def hdBad (s : St) : Bool := !vl s.nx || (decide (s.sz < 0) || decide (64 < s.sz))
def chkE (s : St) : Int := if chkL (bgn s) (used s) (-1) s.l = 0 then (if wid s.sz < used s then 12 else if fstDn s.l then 3 else 0) else chkL (bgn s) (used s) (-1) s.l
def chk (s : St) : Int := if hdBad s then 4 else chkE s
def zst : St := ⟨0, 0, [], false⟩
def put (s : St) (id : Int) (d : ByteArray) : St × Int × Int :=
  if 2048 < d.size then (zst, 0, 2) else if room s = 0 then (zst, 0, 6) else ({ s with nx := add s.nx 1, l := s.l ++ [⟨id, s.nx, 0, false, d⟩] }, s.nx, 0)
def isOp (p : Sn) : Bool := !p.dn
def dueL (s : St) (m : Int) : List Sn := (s.l.filter isOp).take m.toNat
def ids (l : List Sn) : List Int := l.map (·.id)
def bt (m : Nat) (d : Int) : Bool := m.testBit d.toNat
def ak (st : Int) (m : Nat) (p : Sn) : Bool := isOp p && bt m (dist st p.q)
def mk (p : Sn) : Sn := { p with dn := true }
def chg (f : Sn → Bool) (g : Sn → Sn) (l : List Sn) : List Sn := l.map (fun p => if f p then g p else p)
def trimL (l : List Sn) : List Sn := l.dropWhile (·.dn)
def acked (s : St) (st : Int) (m : Nat) : St × List Int := ({ s with l := trimL (chg (ak st m) mk s.l) }, ids (s.l.filter (ak st m)))
def amg (seqs : List Int) (q : Int) : Bool := seqs.any (fun n => decide (dist n q = 0))
def ms (seqs : List Int) (p : Sn) : Bool := isOp p && amg seqs p.q
def bump (p : Sn) : Sn := if p.tr < 1073741824 then { p with tr := p.tr + 1 } else p
def lst (seqs : List Int) (lim : Int) (p : Sn) : Bool := ms seqs p && decide (lim ≤ p.tr)
def lft (seqs : List Int) (lim : Int) (p : Sn) : Bool := !lst seqs lim p
def missL (s : St) (seqs : List Int) : List Sn := chg (ms seqs) bump s.l
def goneL (s : St) (seqs : List Int) (lim : Int) : List Int := ids ((missL s seqs).filter (lst seqs lim))
def rqOf (s : St) (g : List Int) : Bool := s.rq || (decide (0 < g.length) && decide (s.sz ≠ 0))
def missed (s : St) (seqs : List Int) (lim : Int) : St × List Int := ({ s with l := trimL ((missL s seqs).filter (lft seqs lim)), rq := rqOf s (goneL s seqs lim) }, goneL s seqs lim)
def confirm (s : St) : St := { s with rq := false }
def resize (s : St) (z : Int) : St × Int := if z < 0 ∨ 64 < z then (zst, 4) else if 0 < s.l.length ∨ s.rq = true then (zst, 9) else (⟨s.nx, z, [], false⟩, 0)
def reset (s : St) : St × List Int := (⟨s.nx, 0, [], false⟩, ids (s.l.filter isOp))

theorem startL_cons {nx : Int} {l : List Sn} (h : 0 < l.length) : startL nx l = l[0].q := by cases l with | nil => cases h | cons x t => rfl
theorem startL_nil {nx : Int} {l : List Sn} (h : l.length = 0) : startL nx l = nx := by cases l with | nil => rfl | cons x t => cases h
theorem fstDn_cons {l : List Sn} (h : 0 < l.length) : fstDn l = l[0].dn := by cases l with | nil => cases h | cons x t => rfl
theorem fstDn_nil {l : List Sn} (h : l.length = 0) : fstDn l = false := by cases l with | nil => rfl | cons x t => cases h
theorem drop_cons22 {l : List Sn} {i : Nat} (h : i < l.length) : l.drop i = l[i] :: l.drop (i + 1) := List.drop_eq_getElem_cons h
end Go.Wn
