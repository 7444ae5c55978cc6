/-
  ANSWERS AND CALLS as the machine has them. Of no program.
-/
import Derived.Test.YtldeflpaghbmmaaWnMath
namespace Go.Wn
/-- A block acknowledgement, with numbers that are missed and a limit of tries. -/
structure An where
  st : Int
  m : Int
  sa : Option Addr
  n : Nat
  c : Nat
  lim : Int
/-- A call: its kind, a number, an answer. -/
structure Oq where
  kd : Int
  nn : Int
  st : Int
  m : Int
  sa : Option Addr
  n : Nat
  c : Nat
  lim : Int
def Oq.a (o : Oq) : An := ⟨o.st, o.m, o.sa, o.n, o.c, o.lim⟩
end Go.Wn
