/-
  WALKS of the reference of layer 3: Add32, Sum32, Sum8, Last, Seal, Open.
-/
import Derived.Test.YtacbhbejchjbiaaDoorRows
import Derived.Test.YtacbhbejchjbiaaDoorCkMath
import Derived.WalkKit
import Derived.WalkSpells
import Derived.WalkLawsBesides
import Derived.Deep.QuietTactic
import Derived.BigQuiet
import Derived.Lib.Hide
import Derived.Handy
import Derived.Laws.Concat
import Derived.Laws.IdiomStrings
import Derived.Deep.RegionWith
namespace Go.Proofs.YtacbhbejchjbiaaDoor
open Go.RowKit Go.Wr Go.Ck

theorem le4 (n : Nat) : le n 4 = [UInt8.ofNat (n % 256), UInt8.ofNat (n / 256 % 256), UInt8.ofNat (n / 65536 % 256), UInt8.ofNat (n / 16777216 % 256)] := by
  simp [le, pow]

theorem last_conv (n : Nat) (hn : n < 4294967296) (g : Nat) (W : World) (h0 : W.cell? ⟨g, 0, none⟩ = some (.int .u8 ((n : Int) % 256))) (h1 : W.cell? ⟨g, 1, none⟩ = some (.int .u8 ((n : Int) / 256 % 256)))
    (h2 : W.cell? ⟨g, 2, none⟩ = some (.int .u8 ((n : Int) / 65536 % 256))) (h3 : W.cell? ⟨g, 3, none⟩ = some (.int .u8 ((n : Int) / 16777216))) :
    (convert 39 9 (.slice (some ⟨g, 0, none⟩) 4 4)).run Tryd.prog W = .ok (.string ⟨(le n 4).toArray⟩) W := by
  have := run_convert_bytes_back (P := Tryd.prog) W 39 9 5 ⟨g, 0, none⟩ 4 (le n 4) Tryd.underlying39 Tryd.underlying5 Tryd.underlying9 (fun j hj => by
    have hj4 : j < 4 := by rw [le_len] at hj; exact hj
    have e : (⟨g, 0, none⟩ : Addr).add j = ⟨g, j, none⟩ := by unfold Addr.add; split <;> simp_all
    rw [e]
    match j, hj4 with
    | 0, _ => rw [h0]; simp [le4]
    | 1, _ => rw [h1]; simp [le4]
    | 2, _ => rw [h2]; simp [le4]
    | 3, _ => rw [h3]; simp [le4]; omega)
  rwa [le_len] at this

/-! Seal, Open -/
theorem str_snoc (s : ByteArray) (l : List UInt8) : s ++ ⟨l.toArray⟩ = ⟨(s.data.toList ++ l).toArray⟩ := by apply ByteArray.ext; simp

theorem sliceFrom (s : ByteArray) (n : Nat) (h : n ≤ s.size) (W : World) : (Instr.slice 9 (.string s) (some (.int .i64 n)) none none).run Tryd.prog W = .ok (.string (s.extract n s.size)) W := by
  rw [run_slice_string_from_if W 9 s .i64 n Tryd.underlying9, if_pos (by omega)]; simp
theorem sliceTo (s : ByteArray) (n : Nat) (h : n ≤ s.size) (W : World) : (Instr.slice 9 (.string s) none (some (.int .i64 n)) none).run Tryd.prog W = .ok (.string (s.extract 0 n)) W := by
  rw [run_slice_string_to_if W 9 s .i64 n Tryd.underlying9, if_pos (by omega)]; simp

end Go.Proofs.YtacbhbejchjbiaaDoor
