/-
  THE WALK of layer 10: the reference's Length.
-/
import Derived.Test.YthpilpcjnpnodaaDoorHdRef
namespace Go.Proofs.YthpilpcjnpnodaaDoor
open Go.RowKit Go.Hd

set_option maxRecDepth 100000 in
set_option maxHeartbeats 4000000 in
theorem refLength_any (f : Fr) (w : World) :
    Calls Tryd.prog 12 #[Fr_.v f] w fun e w' => e = .returned (.int .i64 (len f)) ∧ Below w.heap.size w w' := by
  have CI := Lib.hid (refIs_any f.kd)
  have CF := Lib.hid (refFrom_any f.kd)
  have CN := Lib.hid (refNumbered_any f.kd)
  have CP := Lib.hid (refPolicy_any f.kd)
  have HL : Hid (len f = if ¬ isK f.kd then 0 else 10 + (if fro f.kd then 6 else 0) + (if nb f.kd then 8 else 0) + (if pl f.kd then 1 else 0) + (if f.kd = 18 then (if f.ky = 0 then 2 else 7) else 0)) := rfl
  unfold Fr_.v at *
  obtain ⟨w0, hw0⟩ : ∃ w0, w0 = w.alloc (.cells #[.int .i64 f.kd, .bool f.rt, .bool f.mo, .bool f.pw, .bool f.st, .bool f.la, .bool f.jo, .int .i64 f.po, .int .i64 f.du, .int .u64 f.ta, .int .u64 f.fa, .int .u64 f.th, .int .i64 f.sq, .int .i64 f.fg, .int .i64 f.ct, .int .i64 f.ky, .int .i64 f.cn, .string f.bo] 25) := ⟨_, rfl⟩
  have X0 : Fr_.Box w0 w.heap.size f := by rw [hw0]; exact Fr_.Box.new w f rfl
  have B0 : Below w.heap.size w w0 := by rw [hw0]; exact (Below.refl _ _).alloc (Nat.le_refl _) _
  have k0 : w0.cell? ⟨w.heap.size, 0, none⟩ = some (.int .i64 f.kd) := X0.cell 0
  have k15 : w0.cell? ⟨w.heap.size, 15, none⟩ = some (.int .i64 f.ky) := X0.cell 15
  have BB := Lib.hid B0
  clear X0 B0
  go_enter Tryd.func12, Tryd.ntmps12
  go_wp2_with fail
  rw [← hw0]
  clear hw0
  go_wp2_with (first
    | (go_at_call 40; refine (CI.out _).mono ?_; rintro e w' ⟨rfl, rfl⟩)
    | (go_at_call 46; refine (CF.out _).mono ?_; rintro e w' ⟨rfl, rfl⟩)
    | (go_at_call 47; refine (CN.out _).mono ?_; rintro e w' ⟨rfl, rfl⟩)
    | (go_at_call 45; refine (CP.out _).mono ?_; rintro e w' ⟨rfl, rfl⟩))
  all_goals
    go_returns
    clear CI CF CN CP k0 k15
    refine ⟨congrArg (fun z : Int => Ending.returned (Value.int .i64 z)) ?_, BB.out⟩
    rw [HL.out]
    clear HL BB
    first
      | (simp [*]; done)
      | (simp_all; done)
      | (simp_all [isK, fro, nb, pl, mg]; done)
      | (exfalso; simp_all [isK, fro, nb, pl, mg]; omega)
end Go.Proofs.YthpilpcjnpnodaaDoor
