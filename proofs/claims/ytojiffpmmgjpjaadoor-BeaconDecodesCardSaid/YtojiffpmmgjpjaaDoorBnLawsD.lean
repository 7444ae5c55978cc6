/-
  THE LAW of layer 14: BeaconDecodes.
-/
import Derived.Test.YtojiffpmmgjpjaaDoorBnLaws
import Derived.Test.YtojiffpmmgjpjaaDoorBnRefF2
namespace Go.Proofs.YtojiffpmmgjpjaaDoor
open Go.RowKit Go.Bn Go.Wr

theorem fdC14 : FdC := fun b K sa c w h ho hs => refFields14_any b K sa c w h ho hs
theorem beaconDecodes_walk0 (s : ByteArray) (_ : s.size ≤ 140737488351232) (W : World) (ht : KnTab W) :
    Calls Tryd.prog 5 #[.string s] W fun e W' => e = .returned (.bool true) ∧ Below W.heap.size W W' :=
  beaconDecodes_of fdC14 s W ht
end Go.Proofs.YtojiffpmmgjpjaaDoor
