/-
  WALKS of the reference of layer 5: Valid, Group, Node, Number, Of, digit.
-/
import Derived.Test.YtkhnhlahfedkhaaDoorRows
import Derived.Test.YtkhnhlahfedkhaaDoorAdMath
import Derived.WalkKit
import Derived.WalkSpells
import Derived.WalkLawsBesides
import Derived.Deep.QuietTactic
import Derived.BigQuiet
import Derived.Lib.Hide
import Derived.Handy
namespace Go.Proofs.YtkhnhlahfedkhaaDoor
open Go.RowKit Go.Wr Go.Ad

theorem dstr_get : ∀ i : Fin 16, ((⟨#[48, 49, 50, 51, 52, 53, 54, 55, 56, 57, 97, 98, 99, 100, 101, 102]⟩ : ByteArray)[i.val]'(i.isLt)).toNat = (hexd i.val).toNat := by decide +kernel

end Go.Proofs.YtkhnhlahfedkhaaDoor
