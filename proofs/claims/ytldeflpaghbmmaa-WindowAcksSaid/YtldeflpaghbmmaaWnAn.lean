/-
  ANSWERS AND CALLS as the machine has them. Of no program.
-/
import Derived.Test.YtldeflpaghbmmaaWnMath
namespace Go.Wn
/-- A block acknowledgement, with numbers that are missed and a limit of tries. -/
structure An where
  st : Int
  m : Int
  sa : Option Addr
  n : Nat
  c : Nat
  lim : Int
end Go.Wn
