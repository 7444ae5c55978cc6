/-
  OF NO PROGRAM: an array that reads as a list of data: each element's cells.
-/
import Derived.Lib.LaidTab
namespace Go.Lib
theorem trod_arr {H : Type} {enc : TypeId × Value → H} {P : Program} {w : World} {base : Nat} {sp : Nat → Bool} {held : Bool} {fuel : Nat} {t e : TypeId} {n m : Nat} {cs : List Value} {ds : List (DataW H)} {p : List MemPlace}
    (ht : P.underlying t = some (.array n e)) (hce : P.cellsOf e = m)
    (h : DataW.trod enc P w base sp held fuel t cs = some (.agg ds, p)) : ∀ i, i < n → ∃ f y, DataW.trod enc P w base sp held f e ((cs.drop (i * m)).take m) = some y ∧ ds[i]? = some y.1 := by
  cases fuel with
  | zero => simp [DataW.trod] at h
  | succ fuel =>
    simp only [DataW.trod, ht, hce] at h
    split at h
    · obtain ⟨xs, hm, hx⟩ := Option.map_eq_some_iff.1 h
      have hxs : xs.map (·.1) = ds := by
        have := congrArg Prod.fst hx
        simpa using this
      intro i hi
      obtain ⟨b, hb, hf⟩ := mapM_at hm i i (by simp [hi])
      exact ⟨fuel, b, hf, by rw [← hxs, List.getElem?_map, hb]; rfl⟩
    · cases h
/-- The variable that stands first on the list, an array: each element's cells read as its datum. -/
theorem laid_arr {P : Program} {W : World} {name : String} {ds : List (DataW Unit)} {rest : List (String × DataW Unit)} {g : Nat} {t e : TypeId} {n m : Nat}
    (hg : P.globalNamed name = some g) (hty : (P.globals[g]?).map (·.type) = some t) (ht : P.underlying t = some (.array n e)) (hce : P.cellsOf e = m)
    (h : laidMet P ((name, .agg ds) :: rest) W) :
    ∃ cs : Array Value, (∀ j, W.cell? ⟨g, j, none⟩ = cs[j]?) ∧ ∀ i, i < n → ∃ f y, DataW.trod (fun _ => ()) P W 0 (fun _ => true) false f e ((cs.toList.drop (i * m)).take m) = some y ∧ ds[i]? = some y.1 := by
  obtain ⟨ps, ⟨g', t', cs, fuel, p, q, hg', ht', hvar, hd, _, _⟩, _⟩ := h
  obtain rfl := Option.some.inj (hg.symm.trans hg')
  obtain rfl := Option.some.inj (hty.symm.trans ht')
  exact ⟨cs, fun j => World.var?_cell hg hvar j, trod_arr ht hce hd⟩
theorem take_drop_cell {cs l : List Value} {a m : Nat} (h : (cs.drop a).take m = l) (j : Nat) (v : Value) (hv : l[j]? = some v) : cs[a + j]? = some v := by
  subst h
  rw [List.getElem?_take] at hv
  split at hv
  · rwa [List.getElem?_drop] at hv
  · cases hv
end Go.Lib
