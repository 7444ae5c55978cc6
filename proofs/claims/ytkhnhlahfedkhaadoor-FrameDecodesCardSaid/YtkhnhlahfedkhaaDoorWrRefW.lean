/-
  WALKS of the reference's Limit, Octets, and of its Writer: Num, Text, Done.
-/
import Derived.Test.YtkhnhlahfedkhaaDoorWrAll
import Derived.Laws.Concat
import Derived.Laws.IdiomStrings
import Derived.Deep.RegionWith
namespace Go.Proofs.YtkhnhlahfedkhaaDoor
open Go.RowKit Go.Wr

/-- The reference's Writer or Reader as a value. -/
def rv (s : ByteArray) (e : Int) : Value := .agg #[.string s, .int .i64 e]

theorem infoByte' : (Tryd.prog.info? 5).map (fun i => (i.zero, i.size, i.bytes)) = some (some (.int .u8 0), 1, 1) := by kernel_rfl

/-- The octets as values. -/
def bv (l : List UInt8) : List Value := l.map fun b => Value.int .u8 (b.toNat : Int)

theorem owns_conv {wr : World} {B : Nat} {v : Value} {l : List UInt8} (h : wr.ownsRow B 5 1 v l.length (bv l)) (hne : l ≠ []) :
    (convert 63 9 v).run Tryd.prog wr = .ok (.string ⟨l.toArray⟩) wr := by
  have h0 := h
  obtain ⟨_, ⟨h1, h2⟩ | ⟨g, cap, cur, rfl, hb, hh, hn, hc, hs, ht⟩⟩ := h
  · exact absurd (List.eq_nil_of_length_eq_zero h2) hne
  · refine run_convert_bytes_back (P := Tryd.prog) wr 63 9 5 ⟨g, 0, none⟩ cap l Tryd.underlying63 Tryd.underlying5 Tryd.underlying9 (fun j hj => ?_)
    exact h0.cells (g := g) rfl j (.int .u8 (l[j].toNat : Int)) (by simp [bv, hj])

end Go.Proofs.YtkhnhlahfedkhaaDoor
