/-
  WHAT THE LANDED FUNCTIONS OF LAYER 5 DO: all contracts.
-/
import Derived.Test.YtnbcphpjgahgoaaAdDoneE
import Derived.Test.YtnbcphpjgahgoaaAdLaws3
