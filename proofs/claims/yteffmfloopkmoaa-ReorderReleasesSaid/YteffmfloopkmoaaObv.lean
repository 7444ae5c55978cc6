/-
  OCTETS that a slice of its own owns: as values, and as a string.
-/
import Derived.Test.YteffmfloopkmoaaRows
import Derived.WalkKit
import Derived.ProofKit
import Derived.Deep.OwnRows
import Derived.Below
import Derived.Lib.AppendStr
namespace Go.Proofs.Yteffmfloopkmoaa
open Go.RowKit

theorem infoOctet : (Try.prog.info? 5).map (fun i => (i.zero, i.size, i.bytes)) = some (some (.int .u8 0), 1, 1) := by kernel_rfl
def obv (l : List UInt8) : List Value := l.map fun x => Value.int .u8 (x.toNat : Int)
theorem obv_len (l : List UInt8) : (obv l).length = l.length := List.length_map ..
theorem obv_app (l m : List UInt8) : obv (l ++ m) = obv l ++ obv m := List.map_append
theorem obv_conv {wr : World} {base cap : Nat} {g : Nat} {l : List UInt8} (h : wr.ownsRow base 5 1 (.slice (some ⟨g, 0, none⟩) l.length cap) l.length (obv l)) :
    (convert 34 9 (.slice (some ⟨g, 0, none⟩) l.length cap)).run Try.prog wr = .ok (.string ⟨l.toArray⟩) wr :=
  run_convert_bytes_back (P := Try.prog) wr 34 9 5 ⟨g, 0, none⟩ cap l Try.underlying34 Try.underlying5 Try.underlying9 (fun j hj => by
    have := h.cells (g := g) rfl j (Value.int .u8 (l[j].toNat : Int)) (by simp [obv, hj])
    rw [this])

set_option maxRecDepth 100000 in
theorem conv_any {wr : World} {base cap : Nat} {v0 : Option Addr} {l : List UInt8} (h : wr.ownsRow base 5 1 (.slice v0 l.length cap) l.length (obv l)) :
    (convert 34 9 (.slice v0 l.length cap)).run Try.prog wr = .ok (.string ⟨l.toArray⟩) wr := by
  obtain ⟨_, ⟨h1, h2⟩ | ⟨g, cap', cur, h1, -⟩⟩ := id h
  · injection h1 with e1 e2 e3
    subst e1; subst e3
    obtain rfl : l = [] := List.eq_nil_of_length_eq_zero h2
    kernel_rfl
  · injection h1 with e1 e2 e3
    subst e1
    exact obv_conv h
end Go.Proofs.Yteffmfloopkmoaa
