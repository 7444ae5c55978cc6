/-
  LAYER 19, of no program: a value of sequence control: two integers.
-/
import Derived.Maps.OwnSet
namespace Go.Hi
structure Pr where
  a : Int
  b : Int
deriving DecidableEq
def zr : Pr := ⟨0, 0⟩
instance : Inhabited Pr := ⟨zr⟩
end Go.Hi
