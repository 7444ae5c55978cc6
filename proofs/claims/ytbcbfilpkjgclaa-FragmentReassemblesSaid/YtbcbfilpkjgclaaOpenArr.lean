/-
  An array of integers that came in by value, opened.
-/
import Derived.Test.YtbcbfilpkjgclaaRows
import Derived.OpenShut
import Derived.ProofKit
namespace Go.Proofs.Ytbcbfilpkjgclaa
open Go.ChangeShapes Go.WideShapes Go.RowKit

section
variable {H : Type} {enc : TypeId × Value → H} {P : Program} {W : World} {b0 base : Nat} {sp : Nat → Bool} {held : Bool}

/-- AN ARRAY OF INTEGERS BY VALUE: its cells are integers of the kind. -/
theorem open_ints_array {t e : TypeId} {n : Nat} {k : IntKind} {v : Value} {d : DataW H} {ps : List MemPlace} (ht : P.underlying t = some (.array n e)) (he : P.underlying e = some (.int k)) (hce : P.cellsOf e = 1) (hct : P.cellsOf t = n)
    (hv : Value.okWide P W .any base t v) (hd : DataW.Trod enc P W b0 sp held t v d ps) :
    ∃ zs : List Int, zs.length = n ∧ v = .agg (zs.map fun z => Value.int k z).toArray ∧ ∀ z ∈ zs, (Lit.int k z).wf = true := by
  simp only [Value.okWide, ht] at hv
  obtain ⟨cs, rfl, hsz, _⟩ := hv
  obtain ⟨fuel, hf⟩ := hd
  obtain ⟨xs, m, rfl, hx, hl, hxn, hel⟩ := DataW.trod_array ht hf
  simp only [Value.cells] at hl hel
  have key : ∀ i, i < n → ∃ z, cs.toList[i]? = some (.int k z) ∧ (Lit.int k z).wf = true := by
    intro i hi
    have h1 := hel i hi
    obtain ⟨x, hxi⟩ : ∃ x, xs[i]? = some x := ⟨xs[i]'(by omega), by simp [hxn, hi]⟩
    rw [hxi] at h1
    obtain ⟨z, hc, -, hz⟩ := DataW.trod_int he h1
    refine ⟨z, ?_, hz⟩
    have := congrArg (·[0]?) hc
    simpa [hce, List.getElem?_take, List.getElem?_drop] using this
  have all : ∀ (l : List Value), (∀ i, i < l.length → ∃ z, l[i]? = some (.int k z) ∧ (Lit.int k z).wf = true) → ∃ zs : List Int, zs.length = l.length ∧ l = zs.map (fun z => Value.int k z) ∧ ∀ z ∈ zs, (Lit.int k z).wf = true := by
    intro l
    induction l with
    | nil => intro _; exact ⟨[], rfl, rfl, by simp⟩
    | cons a r ih =>
      intro h
      obtain ⟨z, h0, hz⟩ := h 0 (by simp)
      obtain ⟨zs, e1, e2, e3⟩ := ih (fun i hi => by
        have := h (i + 1) (by simpa using hi)
        simpa using this)
      simp at h0
      exact ⟨z :: zs, by simp [e1], by simp [h0, e2], by simpa using ⟨hz, e3⟩⟩
  obtain ⟨zs, e1, e2, e3⟩ := all cs.toList (fun i hi => key i (by rw [hl, hct] at hi; exact hi))
  refine ⟨zs, by rw [e1, hl, hct], ?_, e3⟩
  congr 1
  rw [← e2]
end
end Go.Proofs.Ytbcbfilpkjgclaa
