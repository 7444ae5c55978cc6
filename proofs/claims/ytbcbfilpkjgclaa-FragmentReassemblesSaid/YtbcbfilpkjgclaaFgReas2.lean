/-
  THE LAW FragmentReassembles, as its row calls it.
-/
import Derived.Test.YtbcbfilpkjgclaaFgReas
import Derived.Test.YtbcbfilpkjgclaaFgPt
import Derived.Test.YtbcbfilpkjgclaaOpenArr
namespace Go.Proofs.Ytbcbfilpkjgclaa
open Go.RowKit Go.Fg
attribute [local go_sem ↓ high] Pw_.loadF Pw_.storeF Pw_.v_cells Pw_.v_match
attribute [local go_sem] Pw_.C0 Pw_.C1 Pw_.C2 Pw_.C3 Pw_.loadF_new

set_option maxRecDepth 100000 in
set_option maxHeartbeats 4000000 in
theorem reas_long (p : Pt) (s : ByteArray) (a0 a1 : Int) (W : World) (h : (2048 : Int) < (s.size : Int) ∨ (5000 : Int) < (p.s.size : Int)) :
    Calls Try.prog 6 #[Pw_.v p, .string s, .agg #[.int .i64 a0, .int .i64 a1]] W fun e w' => e = .returned (.bool true) ∧ Below W.heap.size W w' := by
  have AW := Lib.hid awake18_any
  obtain ⟨w1, hw1⟩ : ∃ w1, W.alloc (.cells (Pw_.C p) 29) = w1 := ⟨_, rfl⟩
  obtain ⟨w2, hw2⟩ : ∃ w2, w1.alloc (.cells #[.int .i64 a0, .int .i64 a1] 36) = w2 := ⟨_, rfl⟩
  have b1 : Below W.heap.size W w1 := hw1 ▸ (Below.refl _ _).alloc (Nat.le_refl _) _
  have B2 : Hid (Below W.heap.size W w2) := hw2 ▸ b1.alloc b1.size _
  have P2 : Hid (Pw_.Box w2 W.heap.size p) := hw2 ▸ (show Pw_.Box w1 W.heap.size p from hw1 ▸ Pw_.Box.new W p).allocC _
  have ep := P2.out.all
  clear b1
  by_cases h1 : (2048 : Int) < (s.size : Int)
  · clear h
    go_enter Try.func6, Try.ntmps6
    go_wp2_with (go_at_call 7; refine (AW.out _).mono ?_; rintro e w3 ⟨rfl, hb1⟩)
    go_returns
    exact ⟨rfl, B2.out.trans (hb1.mono B2.out.size)⟩
  · have h2 : (5000 : Int) < (p.s.size : Int) := h.resolve_left h1
    clear h
    go_enter Try.func6, Try.ntmps6
    go_wp2_with (go_at_call 7; refine (AW.out _).mono ?_; rintro e w3 ⟨rfl, hb1⟩)
    go_returns
    exact ⟨rfl, B2.out.trans (hb1.mono B2.out.size)⟩

theorem fragmentReassembles_walk0 (p : Pt) (_ : (Lit.int .i64 p.q).wf = true ∧ (Lit.int .i64 p.n).wf = true) (s : ByteArray) (_ : s.size ≤ 140737488351232) (zs : List Int) (hz : zs.length = 2) (_ : ∀ z ∈ zs, (Lit.int .i64 z).wf = true) (W : World) :
    Calls Try.prog 6 #[Pw_.v p, .string s, .agg (zs.map fun z => Value.int .i64 z).toArray] W fun e w' => e = .returned (.bool true) ∧ Below W.heap.size W w' := by
  obtain ⟨a0, a1, rfl⟩ : ∃ a0 a1, zs = [a0, a1] := by
    match zs, hz with
    | [a, b], _ => exact ⟨a, b, rfl⟩
  show Calls Try.prog 6 #[Pw_.v p, .string s, .agg #[.int .i64 a0, .int .i64 a1]] W fun e w' => e = .returned (.bool true) ∧ Below W.heap.size W w'
  by_cases h : (2048 : Int) < (s.size : Int) ∨ (5000 : Int) < (p.s.size : Int)
  · exact reas_long p s a0 a1 W h
  · have hr := rem_small a0
    by_cases hn : a0.tmod 4096 < 0
    · exact reas_walk p s a0 a1 (-(a0.tmod 4096)) W (by omega) (by omega) (by omega) (.inl ⟨hn, IntWalk.wrap64_in _ (by omega)⟩)
    · exact reas_walk p s a0 a1 (a0.tmod 4096) W (by omega) (by omega) (by omega) (.inr ⟨hn, rfl⟩)
end Go.Proofs.Ytbcbfilpkjgclaa
