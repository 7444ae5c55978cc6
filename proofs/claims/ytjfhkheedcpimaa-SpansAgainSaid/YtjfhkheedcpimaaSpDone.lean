/-
  THE LANDED CODE OF LAYER 7 DOES WHAT XSpProg ASKS: the contracts of Length, Has, Cross, Union, Total, Gaps, Next.
-/
import Derived.Test.YtjfhkheedcpimaaSpForms
import Derived.Test.YtjfhkheedcpimaaSpDoneT
import Derived.Test.YtjfhkheedcpimaaSpDoneN
namespace Go.Proofs.Ytjfhkheedcpimaa
open Go.RowKit Go.Sp

theorem does : Does where
  length_any := length_any
  has_any := fun s t w _ => has_any s t w
  cross_any := fun a b w _ _ => cross_any a b w
  union_any := fun l sa c w hl hn h => union_any l sa c w (by omega) hn h
  total_any := fun l u sa c w hl hn h hu => total_any l u sa c w hl hn h hu
  gaps_any := fun s l sa c w hl _ hn h => gaps_any s l sa c w hl hn h
  next_any := fun now f p w h1 _ h3 => (next_any now f p w h1 h3).mono fun _ _ ⟨he, hw⟩ => ⟨he, hw ▸ Below.refl _ _⟩
end Go.Proofs.Ytjfhkheedcpimaa
