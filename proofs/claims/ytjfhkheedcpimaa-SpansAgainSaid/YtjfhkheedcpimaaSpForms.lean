/-
  THE LAWS OF LAYER 7 over the contracts, as the rows call them.
-/
import Derived.Test.YtjfhkheedcpimaaSpAt
import Derived.Test.YtjfhkheedcpimaaSpOne
import Derived.Test.YtjfhkheedcpimaaSpUnions
import Derived.Test.YtjfhkheedcpimaaSpTile
import Derived.Test.YtjfhkheedcpimaaSpAgain
namespace Go.Proofs.Ytjfhkheedcpimaa
open Go.RowKit Go.Sp

theorem spansOne_walk2 (D : Does) (a : Sp) (_ : (Lit.int .i64 a.f).wf = true ∧ (Lit.int .i64 a.t).wf = true) (b : Sp) (_ : (Lit.int .i64 b.f).wf = true ∧ (Lit.int .i64 b.t).wf = true) (t : Int) (ht : (Lit.int .i64 t).wf = true) (W : World) :
    Calls Try.prog 3 #[Sp_.v a, Sp_.v b, .int .i64 t] W fun e w' => e = .returned (.bool true) ∧ Below W.heap.size W w' := spansOne_walk1 D a b t ht W
theorem spansUnions_walk2 (D : Does) (s : Sp) (_ : (Lit.int .i64 s.f).wf = true ∧ (Lit.int .i64 s.t).wf = true) (l : List Sp) (sa : Option Addr) (c : Nat) (W : World) (h : Sp_.Sl W sa l c) (hl : l.length ≤ maxLen) :
    Calls Try.prog 4 #[Sp_.v s, .slice sa l.length c] W fun e w' => e = .returned (.bool true) ∧ Below W.heap.size W w' := spansUnions_walk1 D s l sa c W hl h.lies
theorem spansNext_walk2 (D : Does) (now : Int) (hn : (Lit.int .i64 now).wf = true) (first : Int) (hf : (Lit.int .i64 first).wf = true) (period : Int) (hp : (Lit.int .i64 period).wf = true) (W : World) :
    Calls Try.prog 5 #[.int .i64 now, .int .i64 first, .int .i64 period] W fun e w' => e = .returned (.bool true) ∧ Below W.heap.size W w' := spansNext_walk1 D now first period hn hf hp W
theorem spansTile_walk2 (D : Does) (s : Sp) (_ : (Lit.int .i64 s.f).wf = true ∧ (Lit.int .i64 s.t).wf = true) (l : List Sp) (sa : Option Addr) (c : Nat) (W : World) (h : Sp_.Sl W sa l c) (_ : l.length ≤ maxLen) (t : Int) (ht : (Lit.int .i64 t).wf = true) :
    Calls Try.prog 6 #[Sp_.v s, .slice sa l.length c, .int .i64 t] W fun e w' => e = .returned (.bool true) ∧ Below W.heap.size W w' := spansTile_walk1 D s l sa c t ht W h.lies
theorem spansAgain_walk2 (D : Does) (l : List Sp) (sa : Option Addr) (c : Nat) (W : World) (h : Sp_.Sl W sa l c) (_ : l.length ≤ maxLen) :
    Calls Try.prog 7 #[.slice sa l.length c] W fun e w' => e = .returned (.bool true) ∧ Below W.heap.size W w' := spansAgain_walk1 D l sa c W h.lies
end Go.Proofs.Ytjfhkheedcpimaa
