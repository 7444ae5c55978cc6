/-
  WHAT THE ROW's LIST OF VARIABLES GIVES THE WALKS; an array of integers that came in by value, opened.
-/
import Derived.Test.YtfmjekfgfkcleaaDoorRows
import Derived.Test.YtfmjekfgfkcleaaDoorBsElem
import Derived.OpenShut
import Derived.ProofKit
import Derived.Lib.LaidTab
import Derived.Stop.LaidErr
import Derived.MakeChecks
namespace Go.Proofs.YtfmjekfgfkcleaaDoor
open Go.ChangeShapes Go.WideShapes Go.RowKit

/-- The table of math/bits.TrailingZeros64 in its variable; the two errors of strconv. -/
structure LaidFacts (W : World) : Prop where
  tab : Lib.TabIs Tryd.prog W "math/bits.deBruijn64tab" .u8 [0, 1, 56, 2, 57, 49, 28, 3, 61, 58, 42, 50, 38, 29, 17, 4, 62, 47, 59, 36, 45, 43, 51, 22, 53, 39, 33, 30, 24, 18, 12, 5, 63, 55, 48, 27, 60, 41, 37, 16, 46, 35, 44, 21, 52, 32, 23, 11, 54, 26, 40, 15, 34, 20, 31, 10, 25, 14, 19, 9, 13, 8, 7, 6]
  errs : ErrVars W

theorem gT : Tryd.prog.globalNamed "math/bits.deBruijn64tab" = some 0 := by kernel_rfl
theorem gTType : (Tryd.prog.globals[0]?).map (·.type) = some 58 := by kernel_rfl
theorem gES : Tryd.prog.globalNamed "strconv.ErrSyntax" = some 3 := by kernel_rfl
theorem gER : Tryd.prog.globalNamed "strconv.ErrRange" = some 4 := by kernel_rfl

theorem gEType (g : Nat) (h : g = 3 ∨ g = 4) : (Tryd.prog.globals[g]?).map (·.type) = some 66 := by
  rcases h with rfl | rfl
  · kernel_rfl
  · kernel_rfl
theorem cellsE : Tryd.prog.cellsOf 107 = 1 := by kernel_rfl
theorem cellsS : Tryd.prog.cellsOf 9 = 1 := by kernel_rfl
theorem starE : "*" ++ "errors.errorString" = "*errors.errorString" := by decide
theorem rowE (u : TypeId) (h : Tryd.prog.typeName? 3 u = some "*errors.errorString") : u = 105 :=
  typeName_ptr_named (nm := "errors.errorString") (by rw [starE]; kernel_rfl) (by kernel_rfl) (by decide) u (by rw [starE]; exact h)

theorem laidFacts {W : World} (h : laidMetH Tryd.prog Rows.bitsetElementsRow.laid W) : LaidFacts W := by
  rw [MakeChecks.laidMetH_plain _ _ _ (by kernel_rfl)] at h
  have h1 := laidMet.tail h
  have h2 := laidMet.tail (laidMet.tail h1)
  have h3 := laidMet.tail h2
  have t := Lib.tabIs_of_head (k := .u8) (zs := [0, 1, 56, 2, 57, 49, 28, 3, 61, 58, 42, 50, 38, 29, 17, 4, 62, 47, 59, 36, 45, 43, 51, 22, 53, 39, 33, 30, 24, 18, 12, 5, 63, 55, 48, 27, 60, 41, 37, 16, 46, 35, 44, 21, 52, 32, 23, 11, 54, 26, 40, 15, 34, 20, 31, 10, 25, 14, 19, 9, 13, 8, 7, 6]) gT gTType Tryd.underlying58 Tryd.underlying5 (by kernel_rfl) (by kernel_rfl) h1
  obtain ⟨a1, s1, hv1, -, -, -⟩ := laid_sentinel h2 gER (gEType _ (.inr rfl)) Tryd.underlying66 rowE Tryd.underlying105 Tryd.underlying107 rfl rfl Tryd.underlying9 cellsE cellsS
  obtain ⟨a0, s0, hv0, -, -, -⟩ := laid_sentinel h3 gES (gEType _ (.inl rfl)) Tryd.underlying66 rowE Tryd.underlying105 Tryd.underlying107 rfl rfl Tryd.underlying9 cellsE cellsS
  have c1 : W.cell? ⟨4, 0, none⟩ = some (.iface 105 (.pointer (some a1))) := by have h0 := World.var?_cell gER hv1 0; simpa using h0
  have c0 : W.cell? ⟨3, 0, none⟩ = some (.iface 105 (.pointer (some a0))) := by have h0 := World.var?_cell gES hv0 0; simpa using h0
  exact ⟨t, ⟨⟨_, _, c0⟩, ⟨_, _, c1⟩, World.block_lt_of_cell? _ _ c0, World.block_lt_of_cell? _ _ c1⟩⟩

theorem nat_of_u64 {a : Int} (h : (Lit.int .u64 a).wf = true) : ∃ n : Nat, a = n ∧ n < 18446744073709551616 := by
  simp [Lit.wf, IntKind.min, IntKind.max, IntKind.signed, IntKind.bits] at h
  exact ⟨a.toNat, by omega, by omega⟩

section
variable {H : Type} {enc : TypeId × Value → H} {P : Program} {W : World} {b0 base : Nat} {sp : Nat → Bool} {held : Bool}

/-- AN ARRAY OF INTEGERS BY VALUE: its cells are integers of the kind. -/
theorem open_ints_array {t e : TypeId} {n : Nat} {k : IntKind} {v : Value} {d : DataW H} {ps : List MemPlace} (ht : P.underlying t = some (.array n e)) (he : P.underlying e = some (.int k)) (hce : P.cellsOf e = 1) (hct : P.cellsOf t = n)
    (hv : Value.okWide P W .any base t v) (hd : DataW.Trod enc P W b0 sp held t v d ps) :
    ∃ zs : List Int, zs.length = n ∧ v = .agg (zs.map fun z => Value.int k z).toArray ∧ ∀ z ∈ zs, (Lit.int k z).wf = true := by
  simp only [Value.okWide, ht] at hv
  obtain ⟨cs, rfl, hsz, _⟩ := hv
  obtain ⟨fuel, hf⟩ := hd
  obtain ⟨xs, m, rfl, hx, hl, hxn, hel⟩ := DataW.trod_array ht hf
  simp only [Value.cells] at hl hel
  have key : ∀ i, i < n → ∃ z, cs.toList[i]? = some (.int k z) ∧ (Lit.int k z).wf = true := by
    intro i hi
    have h1 := hel i hi
    obtain ⟨x, hxi⟩ : ∃ x, xs[i]? = some x := ⟨xs[i]'(by omega), by simp [hxn, hi]⟩
    rw [hxi] at h1
    obtain ⟨z, hc, -, hz⟩ := DataW.trod_int he h1
    refine ⟨z, ?_, hz⟩
    have := congrArg (·[0]?) hc
    simpa [hce, List.getElem?_take, List.getElem?_drop] using this
  have all : ∀ (l : List Value), (∀ i, i < l.length → ∃ z, l[i]? = some (.int k z) ∧ (Lit.int k z).wf = true) → ∃ zs : List Int, zs.length = l.length ∧ l = zs.map (fun z => Value.int k z) ∧ ∀ z ∈ zs, (Lit.int k z).wf = true := by
    intro l
    induction l with
    | nil => intro _; exact ⟨[], rfl, rfl, by simp⟩
    | cons a r ih =>
      intro h
      obtain ⟨z, h0, hz⟩ := h 0 (by simp)
      obtain ⟨zs, e1, e2, e3⟩ := ih (fun i hi => by
        have := h (i + 1) (by simpa using hi)
        simpa using this)
      simp at h0
      exact ⟨z :: zs, by simp [e1], by simp [h0, e2], by simpa using ⟨hz, e3⟩⟩
  obtain ⟨zs, e1, e2, e3⟩ := all cs.toList (fun i hi => key i (by rw [hl, hct] at hi; exact hi))
  refine ⟨zs, by rw [e1, hl, hct], ?_, e3⟩
  congr 1
  rw [← e2]
end
end Go.Proofs.YtfmjekfgfkcleaaDoor
