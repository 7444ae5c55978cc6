/-
  THE LAWS SpansNext and SpansOne, over the contracts.
-/
import Derived.Deep.RegionWith
import Derived.Deep.RegionHeld3
import Derived.Test.YtjfhkheedcpimaaSpProg
namespace Go.Proofs.Ytjfhkheedcpimaa
open Go.RowKit Go.Sp

set_option maxRecDepth 100000 in
set_option maxHeartbeats 2000000 in
theorem spansNext_walk1 (D : Does) (now first period : Int) (hn : (Lit.int .i64 now).wf = true) (hf : (Lit.int .i64 first).wf = true) (hp : (Lit.int .i64 period).wf = true) (W : World) :
    Calls Try.prog 5 #[.int .i64 now, .int .i64 first, .int .i64 period] W fun e w' => e = .returned (.bool true) ∧ Below W.heap.size W w' := by
  have LV := Lib.hid (lives_any D)
  have H1 := Lib.hid (fun w => D.next_any now first period w hn hf hp)
  have H2 := Lib.hid (fun w => refNext_any now first period w hn)
  generalize nxt now first period = r at *
  obtain ⟨v, ok⟩ := r
  have B0 := Lib.hid (Below.refl W.heap.size W)
  go_enter Try.func5, Try.ntmps5
  go_wp2_with (first
    | (go_at_call 23; refine (H1.out _).mono ?_; rintro e w1 ⟨rfl, hb⟩; have B1 := Lib.hid (B0.out.trans (hb.mono B0.out.size)); clear hb)
    | (go_at_call 24; refine (H2.out _).mono ?_; rintro e w2 ⟨rfl, rfl⟩)
    | (go_at_call 9; refine (LV.out _).mono ?_; rintro e w3 ⟨rfl, hb⟩; have B3 := Lib.hid (B1.out.trans (hb.mono B1.out.size)); clear hb))
  go_returns
  exact ⟨rfl, B3.out⟩
end Go.Proofs.Ytjfhkheedcpimaa
