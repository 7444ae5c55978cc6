/-
  OF NO PROGRAM: a region that draws its order, whose operations only read, whose callees leave a condition S on the world as it was, and hand back one value whatever the world: walked once, in the order of the text, over the worlds that meet S.
-/
import Derived.Deep.QuietTactic
import Derived.BigQuiet
import Derived.Below
import Derived.WalkKit
namespace Go
open Go.RowKit
/-- A world that meets S. -/
structure Of (S : World → Prop) where
  w : World
  ok : S w
theorem wp_region_of {P : Program} {id : Nat} {Q : Exit → Act → World → Prop} {a : Act} {w : World} {l : List Oper} (S : World → Prop) (hm : P.follows .mixedOrders = true) (hB : Region.lexB .any l.toArray = true) (hS : S w.drew)
    (h : wpQuiet P l.toArray (fun w' => ∃ p : Of S, w' = p.w) (fun a' => ∀ w', (∃ p : Of S, w' = p.w) → Q .normal a' w') l a) : (Code.region id l.toArray true).wp P Q a w :=
  wp_region_quiet (C := fun w' => ∃ p : Of S, w' = p.w) hm hB ⟨⟨_, hS⟩, rfl⟩ (by simpa using h)
/-- A callee's contract, met in a world of the class. -/
theorem Calls.of_of {P : Program} {f : FuncId} {args : Array Value} {S : World → Prop} {w : World} {v : Value}
    (h : Calls P f args w fun e w' => e = .returned v ∧ S w') : Calls P f args w fun e w'' => e = .returned v ∧ ∃ p : Of S, w'' = p.w :=
  h.mono fun _ w' ⟨he, hs⟩ => ⟨he, ⟨⟨w', hs⟩, rfl⟩⟩
/-- A callee that leaves the world as it was. -/
theorem Calls.of_same {P : Program} {f : FuncId} {args : Array Value} {S : World → Prop} {p : Of S} {v : Value}
    (h : Calls P f args p.w fun e w' => e = .returned v ∧ p.w = w') : Calls P f args p.w fun e w'' => e = .returned v ∧ ∃ p : Of S, w'' = p.w :=
  h.mono fun _ _ ⟨he, hs⟩ => ⟨he, ⟨p, hs.symm⟩⟩
/-- A callee that only makes blocks of its own, under a condition that such a call keeps. -/
theorem Calls.of_below {P : Program} {f : FuncId} {args : Array Value} {S : World → Prop} {p : Of S} {v : Value} (hk : ∀ w w', S w → Below w.heap.size w w' → S w')
    (h : Calls P f args p.w fun e w' => e = .returned v ∧ Below p.w.heap.size p.w w') : Calls P f args p.w fun e w'' => e = .returned v ∧ ∃ p : Of S, w'' = p.w :=
  h.mono fun _ w' ⟨he, hb⟩ => ⟨he, ⟨⟨w', hk _ _ p.ok hb⟩, rfl⟩⟩
end Go
