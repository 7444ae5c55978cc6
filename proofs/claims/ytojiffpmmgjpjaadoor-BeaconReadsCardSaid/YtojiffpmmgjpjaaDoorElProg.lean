/-
  WHAT THE PROGRAM's FUNCTIONS OF LAYER 9 DO, as the laws' walks ask it: a structure of contracts (XElDone proves it over the landed code); the examples that every law ends with.
-/
import Derived.Test.YtojiffpmmgjpjaaDoorElRef3
namespace Go.Proofs.YtojiffpmmgjpjaaDoor
open Go.RowKit Go.Em El_

def l1 : List El := [⟨3, ⟨#[120]⟩⟩, ⟨0, ⟨#[]⟩⟩]
def e1 : El := ⟨3, ⟨#[121, 122]⟩⟩
def s1 : ByteArray := ⟨#[3, 1, 120, 0, 0]⟩
def s2 : ByteArray := ⟨#[3, 1]⟩
def l2 : List El := [⟨256, ⟨#[]⟩⟩]
theorem enc1 : enc l1 = ⟨#[3, 1, 120, 0, 0]⟩ ∧ chk l1 = 0 := ⟨ba_ext (by decide), by decide⟩
theorem dec1 : dec s1 = (l1, 0) := by
  have h := dec_enc enc1.2
  rwa [enc1.1] at h
theorem dec2 : (dec s2).2 = 1 := by decide
theorem wth1 : fnd (wth l1 e1) 3 = (⟨#[121, 122]⟩, true) := wth_self l1 e1
theorem sz1 : sz l1 := ⟨by decide, fun e he => by simp [l1] at he; rcases he with rfl | rfl <;> decide⟩
theorem sz2 : sz l2 := ⟨by decide, fun e he => by simp [l2] at he; subst he; decide⟩

end Go.Proofs.YtojiffpmmgjpjaaDoor
