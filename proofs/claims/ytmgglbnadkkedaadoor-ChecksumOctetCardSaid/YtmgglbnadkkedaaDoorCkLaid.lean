/-
  WHAT THE ROWS' LIST OF VARIABLES GIVES THE WALKS of layer 3: the two tables lie in their variables.
-/
import Derived.Test.YtmgglbnadkkedaaDoorCkAwake
import Derived.OpenShut
import Derived.ProofKit
import Derived.Lib.LaidTab
import Derived.Stop.LaidErr
import Derived.MakeChecks
namespace Go.Proofs.YtmgglbnadkkedaaDoor
open Go.ChangeShapes Go.WideShapes Go.RowKit Go.Wr Go.Ck

abbrev LaidFacts (W : World) : Prop := Tabs W

theorem g32 : Tryd.prog.globalNamed "airtime/checksum.steps32" = some 1 := by kernel_rfl
theorem g32Type : (Tryd.prog.globals[1]?).map (·.type) = some 42 := by kernel_rfl
theorem g8 : Tryd.prog.globalNamed "airtime/checksum.steps8" = some 0 := by kernel_rfl
theorem g8Type : (Tryd.prog.globals[0]?).map (·.type) = some 40 := by kernel_rfl

theorem tab_zs : ∀ i : Fin 16, ([0, 498536548, 997073096, 651767980, 1994146192, 1802195444, 1303535960, 1342533948, 3988292384, 4027552580, 3604390888, 3412177804, 2607071920, 2262029012, 2685067896, 3183342108] : List Int).getD i.val 0 = (tab i.val : Int) := by decide +kernel
theorem tab8_zs : ∀ i : Fin 16, ([0, 7, 14, 9, 28, 27, 18, 21, 56, 63, 54, 49, 36, 35, 42, 45] : List Int).getD i.val 0 = (tab8 i.val : Int) := by decide +kernel

theorem laidFacts {W : World} (h : laidMetH Tryd.prog Rows.checksumSumsRow.laid W) : LaidFacts W := by
  rw [MakeChecks.laidMetH_plain _ _ _ (by kernel_rfl)] at h
  have h1 := laidMet.tail h
  have t := Lib.tabIs_of_head (k := .u32) (zs := [0, 498536548, 997073096, 651767980, 1994146192, 1802195444, 1303535960, 1342533948, 3988292384, 4027552580, 3604390888, 3412177804, 2607071920, 2262029012, 2685067896, 3183342108]) g32 g32Type Tryd.underlying42 Tryd.underlying23 (by kernel_rfl) (by kernel_rfl) h
  have t8 := Lib.tabIs_of_head (k := .u8) (zs := [0, 7, 14, 9, 28, 27, 18, 21, 56, 63, 54, 49, 36, 35, 42, 45]) g8 g8Type Tryd.underlying40 Tryd.underlying5 (by kernel_rfl) (by kernel_rfl) h1
  have c : ∀ i, i < 16 → W.cell? ⟨1, i, none⟩ = some (.int .u32 (tab i : Int)) := fun i hi => (t.cell g32 i hi).trans (congrArg (fun z => some (Value.int .u32 z)) (tab_zs ⟨i, hi⟩))
  have c8 : ∀ i, i < 16 → W.cell? ⟨0, i, none⟩ = some (.int .u8 (tab8 i : Int)) := fun i hi => (t8.cell g8 i hi).trans (congrArg (fun z => some (Value.int .u8 z)) (tab8_zs ⟨i, hi⟩))
  exact ⟨c, c8, World.block_lt_of_cell? _ _ (c 0 (by decide)), World.block_lt_of_cell? _ _ (c8 0 (by decide))⟩
end Go.Proofs.YtmgglbnadkkedaaDoor
