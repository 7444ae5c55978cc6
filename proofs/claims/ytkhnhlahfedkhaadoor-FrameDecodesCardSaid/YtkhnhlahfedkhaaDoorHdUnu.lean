/-
  THE WALK of layer 10: the reference's unused.
-/
import Derived.Test.YtkhnhlahfedkhaaDoorHdUnuMg
import Derived.Test.YtkhnhlahfedkhaaDoorHdUnuData
import Derived.Test.YtkhnhlahfedkhaaDoorHdUnuNull
import Derived.Test.YtkhnhlahfedkhaaDoorHdUnuResp
import Derived.Test.YtkhnhlahfedkhaaDoorHdUnuBlock
import Derived.Test.YtkhnhlahfedkhaaDoorHdUnuRest
namespace Go.Proofs.YtkhnhlahfedkhaaDoor
open Go.RowKit Go.Hd

set_option maxHeartbeats 400000 in
theorem refUnused_any (f : Fr) (w : World) :
    Calls Tryd.prog 60 #[Fr_.v f] w fun e w' => e = .returned (.bool (decide (unu f))) ∧ Below w.heap.size w w' := by
  by_cases g1 : mg f.kd
  · exact refUnused_mg f w (by unfold mg at g1; unfold pl; omega) (by unfold mg at g1; unfold fro; omega) (.inl g1) (.inl g1) (by unfold mg at g1; omega)
  have g1' : ¬ (1 ≤ f.kd ∧ f.kd ≤ 11) := g1
  by_cases g2 : f.kd = 18
  · exact refUnused_data f w (.inl g2) (by unfold fro; omega) (.inr (.inl g2)) (.inr (.inr (.inr g2))) g2
  by_cases g3 : f.kd = 19
  · exact refUnused_null f w (.inr g3) (by unfold fro; omega) (.inr (.inr g3)) (by unfold bd mg; omega) g2
  by_cases g4 : f.kd = 13 ∨ f.kd = 14
  · exact refUnused_resp f w (by unfold pl; omega) (by unfold fro; omega) (by unfold nb mg pl; omega) (by unfold bd mg; omega) g2
  by_cases g5 : f.kd = 15 ∨ f.kd = 16
  · exact refUnused_block f w (by unfold pl; omega) (by unfold fro; omega) (by unfold nb mg pl; omega) (by unfold bd mg; omega) g2
  · exact refUnused_rest f w (by unfold pl; omega) (by unfold fro; omega) (by unfold nb mg pl; omega) (by unfold bd mg; omega) g2
end Go.Proofs.YtkhnhlahfedkhaaDoor
