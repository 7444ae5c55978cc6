/-
  OF NO PROGRAM: a region that draws its order, whose operations only read, whose callees leave a condition S on the world as it was, and hand back one value whatever the world: walked once, in the order of the text, over the worlds that meet S.
  OF NO PROGRAM: an array that reads as a list of data: each element's cells.
-/
import Derived.Deep.QuietTactic
import Derived.BigQuiet
import Derived.Below
import Derived.WalkKit
import Derived.Lib.LaidTab
namespace Go
open Go.RowKit
/-- A world that meets S. -/
structure Of (S : World → Prop) where
  w : World
  ok : S w
theorem wp_region_of {P : Program} {id : Nat} {Q : Exit → Act → World → Prop} {a : Act} {w : World} {l : List Oper} (S : World → Prop) (hm : P.follows .mixedOrders = true) (hB : Region.lexB .any l.toArray = true) (hS : S w.drew)
    (h : wpQuiet P l.toArray (fun w' => ∃ p : Of S, w' = p.w) (fun a' => ∀ w', (∃ p : Of S, w' = p.w) → Q .normal a' w') l a) : (Code.region id l.toArray true).wp P Q a w :=
  wp_region_quiet (C := fun w' => ∃ p : Of S, w' = p.w) hm hB ⟨⟨_, hS⟩, rfl⟩ (by simpa using h)
/-- A callee's contract, met in a world of the class. -/
theorem Calls.of_of {P : Program} {f : FuncId} {args : Array Value} {S : World → Prop} {w : World} {v : Value}
    (h : Calls P f args w fun e w' => e = .returned v ∧ S w') : Calls P f args w fun e w'' => e = .returned v ∧ ∃ p : Of S, w'' = p.w :=
  h.mono fun _ w' ⟨he, hs⟩ => ⟨he, ⟨⟨w', hs⟩, rfl⟩⟩
/-- A callee that leaves the world as it was. -/
theorem Calls.of_same {P : Program} {f : FuncId} {args : Array Value} {S : World → Prop} {p : Of S} {v : Value}
    (h : Calls P f args p.w fun e w' => e = .returned v ∧ p.w = w') : Calls P f args p.w fun e w'' => e = .returned v ∧ ∃ p : Of S, w'' = p.w :=
  h.mono fun _ _ ⟨he, hs⟩ => ⟨he, ⟨p, hs.symm⟩⟩
/-- A callee that only makes blocks of its own, under a condition that such a call keeps. -/
theorem Calls.of_below {P : Program} {f : FuncId} {args : Array Value} {S : World → Prop} {p : Of S} {v : Value} (hk : ∀ w w', S w → Below w.heap.size w w' → S w')
    (h : Calls P f args p.w fun e w' => e = .returned v ∧ Below p.w.heap.size p.w w') : Calls P f args p.w fun e w'' => e = .returned v ∧ ∃ p : Of S, w'' = p.w :=
  h.mono fun _ w' ⟨he, hb⟩ => ⟨he, ⟨⟨w', hk _ _ p.ok hb⟩, rfl⟩⟩
end Go

namespace Go.Lib
theorem trod_arr {H : Type} {enc : TypeId × Value → H} {P : Program} {w : World} {base : Nat} {sp : Nat → Bool} {held : Bool} {fuel : Nat} {t e : TypeId} {n m : Nat} {cs : List Value} {ds : List (DataW H)} {p : List MemPlace}
    (ht : P.underlying t = some (.array n e)) (hce : P.cellsOf e = m)
    (h : DataW.trod enc P w base sp held fuel t cs = some (.agg ds, p)) : ∀ i, i < n → ∃ f y, DataW.trod enc P w base sp held f e ((cs.drop (i * m)).take m) = some y ∧ ds[i]? = some y.1 := by
  cases fuel with
  | zero => simp [DataW.trod] at h
  | succ fuel =>
    simp only [DataW.trod, ht, hce] at h
    split at h
    · obtain ⟨xs, hm, hx⟩ := Option.map_eq_some_iff.1 h
      have hxs : xs.map (·.1) = ds := by
        have := congrArg Prod.fst hx
        simpa using this
      intro i hi
      obtain ⟨b, hb, hf⟩ := mapM_at hm i i (by simp [hi])
      exact ⟨fuel, b, hf, by rw [← hxs, List.getElem?_map, hb]; rfl⟩
    · cases h
/-- The variable that stands first on the list, an array: each element's cells read as its datum. -/
theorem laid_arr {P : Program} {W : World} {name : String} {ds : List (DataW Unit)} {rest : List (String × DataW Unit)} {g : Nat} {t e : TypeId} {n m : Nat}
    (hg : P.globalNamed name = some g) (hty : (P.globals[g]?).map (·.type) = some t) (ht : P.underlying t = some (.array n e)) (hce : P.cellsOf e = m)
    (h : laidMet P ((name, .agg ds) :: rest) W) :
    ∃ cs : Array Value, (∀ j, W.cell? ⟨g, j, none⟩ = cs[j]?) ∧ ∀ i, i < n → ∃ f y, DataW.trod (fun _ => ()) P W 0 (fun _ => true) false f e ((cs.toList.drop (i * m)).take m) = some y ∧ ds[i]? = some y.1 := by
  obtain ⟨ps, ⟨g', t', cs, fuel, p, q, hg', ht', hvar, hd, _, _⟩, _⟩ := h
  obtain rfl := Option.some.inj (hg.symm.trans hg')
  obtain rfl := Option.some.inj (hty.symm.trans ht')
  exact ⟨cs, fun j => World.var?_cell hg hvar j, trod_arr ht hce hd⟩
theorem take_drop_cell {cs l : List Value} {a m : Nat} (h : (cs.drop a).take m = l) (j : Nat) (v : Value) (hv : l[j]? = some v) : cs[a + j]? = some v := by
  subst h
  rw [List.getElem?_take] at hv
  split at hv
  · rwa [List.getElem?_drop] at hv
  · cases hv
end Go.Lib
