/-
  BEACONS COMPARED: a beacon with itself, with the zero beacon as a literal.
-/
import Derived.Test.YtojiffpmmgjpjaaDoorBnW2
import Derived.DeepKeys
namespace Go.Proofs.YtojiffpmmgjpjaaDoor
open Go.RowKit Go.Bn

theorem eqFields_of {P : Program} (d : Nat) (xs : Array Value) (w : World) : ∀ fs : List Field, (∀ f ∈ fs, f.name ≠ "_" ∧ ∃ v, (part f.type xs f.offset).run P w = .ok v w ∧ (Op.equalIn d f.type v v).run P w = .ok true w) → (Op.eqFields d xs xs fs).run P w = .ok true w
  | [], _ => by simp [Op.eqFields]
  | f :: fs, h => by
    have ih := eqFields_of d xs w fs (fun g hg => h g (List.mem_cons_of_mem _ hg))
    obtain ⟨hn, v, hx, he⟩ := h f (List.mem_cons_self ..)
    simp only [Op.eqFields, if_pos hn, Sem.run_bind, hx, Result.andThen_ok, he]
    simpa using ih
theorem eqItems_of {P : Program} (d : Nat) (e : TypeId) (n : Nat) (xs : Array Value) (w : World) : ∀ is : List Nat, (∀ i ∈ is, ∃ v, (part e xs (i * n)).run P w = .ok v w ∧ (Op.equalIn d e v v).run P w = .ok true w) → (Op.eqItems d e n xs xs is).run P w = .ok true w
  | [], _ => by simp [Op.eqItems]
  | i :: is, h => by
    have ih := eqItems_of d e n xs w is (fun g hg => h g (List.mem_cons_of_mem _ hg))
    obtain ⟨v, hx, he⟩ := h i (List.mem_cons_self ..)
    simp only [Op.eqItems, Sem.run_bind, hx, Result.andThen_ok, he]
    simpa using ih
/-- A field of integers, bools or strings, and what lies in it. -/
def okFb14 (P : Program) (xs : Array Value) (f : Field) : Bool :=
  f.name != "_" && P.plainKey f.type && (match P.underlying f.type, xs[f.offset]? with
    | some (.int _), some (.int _ _) => true
    | some .bool, some (.bool _) => true
    | some .string, some (.string _) => true
    | _, _ => false)
theorem okFb_eq {P : Program} (d : Nat) (xs : Array Value) (w : World) (f : Field) (h : okFb14 P xs f = true) : f.name ≠ "_" ∧ ∃ v, (part f.type xs f.offset).run P w = .ok v w ∧ (Op.equalIn (d + 1) f.type v v).run P w = .ok true w := by
  unfold okFb14 at h
  simp only [Bool.and_eq_true, bne_iff_ne] at h
  obtain ⟨⟨hn, hp⟩, hm⟩ := h
  have key : ∃ v, xs[f.offset]? = some v ∧ (Op.equalIn (d + 1) f.type v v).run P w = .ok true w := by
    split at hm
    · rename_i k k' n hu hx; exact ⟨_, hx, by rw [run_equalIn_int w d _ _ _ _ _ hu]; simp⟩
    · rename_i b hu hx; exact ⟨_, hx, by rw [run_equalIn_bool w d _ _ _ hu]; simp⟩
    · rename_i s hu hx; exact ⟨_, hx, by rw [run_equalIn_string w d _ _ _ hu]; simp⟩
    · cases hm
  obtain ⟨v, hx, he⟩ := key
  exact ⟨hn, v, run_part_plain w hp hx, he⟩
theorem flat_eq {t : TypeId} {xs : Array Value} (d : Nat) (w : World) (ht : Tryd.prog.underlying t = some (.struct (Tryd.prog.fieldsOf t))) (hp : Tryd.prog.stoodInHeld t = false) (hf : ((Tryd.prog.fieldsOf t).toList.all (okFb14 Tryd.prog xs)) = true) :
    (Op.equalIn (d + 1 + 1) t (.agg xs) (.agg xs)).run Tryd.prog w = .ok true w := by
  rw [run_equalIn_agg w _ _ _ _ ht hp]
  exact eqFields_of _ _ w _ fun f hm => okFb_eq d xs w f (List.all_eq_true.1 hf f hm)
theorem tim_eq (t : Go.Tm.Tm) (d : Nat) (w : World) : (Op.equalIn (d + 1 + 1) 24 (.agg (Bn_.TC t)) (.agg (Bn_.TC t))).run Tryd.prog w = .ok true w :=
  flat_eq d w (by kernel_rfl) (by kernel_rfl) (by kernel_rfl)
theorem switch_eq (c n : Int) (d : Nat) (w : World) : (Op.equalIn (d + 1 + 1) 26 (.agg (Bn_.SC c n)) (.agg (Bn_.SC c n))).run Tryd.prog w = .ok true w :=
  flat_eq d w (by kernel_rfl) (by kernel_rfl) (by kernel_rfl)
theorem params_eq (p : Pr) (d : Nat) (w : World) : (Op.equalIn (d + 1 + 1) 28 (.agg (Bn_.PC p)) (.agg (Bn_.PC p))).run Tryd.prog w = .ok true w :=
  flat_eq d w (by kernel_rfl) (by kernel_rfl) (by kernel_rfl)

theorem part_tim (x : Bn) (w : World) : (part 24 (Bn_.C x) 5).run Tryd.prog w = .ok (.agg (Bn_.TC x.tm)) w := by kernel_rfl
theorem part_switch (x : Bn) (w : World) : (part 26 (Bn_.C x) 9).run Tryd.prog w = .ok (.agg (Bn_.SC x.sc x.sn)) w := by kernel_rfl
theorem part_params (x : Bn) (w : World) : (part 29 (Bn_.C x) 11).run Tryd.prog w = .ok (.agg (Bn_.QC x.p0 x.p1 x.p2 x.p3)) w := by kernel_rfl
theorem part_one (p0 p1 p2 p3 : Pr) (w : World) (i : Nat) (hi : i < 4) : ∃ q, (part 28 (Bn_.QC p0 p1 p2 p3) (i * 4)).run Tryd.prog w = .ok (.agg (Bn_.PC q)) w := by
  match i, hi with
  | 0, _ => exact ⟨p0, by kernel_rfl⟩
  | 1, _ => exact ⟨p1, by kernel_rfl⟩
  | 2, _ => exact ⟨p2, by kernel_rfl⟩
  | 3, _ => exact ⟨p3, by kernel_rfl⟩
theorem cells_params : Tryd.prog.cellsOf 28 = 4 := by kernel_rfl
theorem arr_eq (p0 p1 p2 p3 : Pr) (d : Nat) (w : World) : (Op.equalIn (d + 1 + 1 + 1) 29 (.agg (Bn_.QC p0 p1 p2 p3)) (.agg (Bn_.QC p0 p1 p2 p3))).run Tryd.prog w = .ok true w := by
  obtain ⟨i, hi⟩ : ∃ i, Tryd.prog.info? 28 = some i := info_of_underlying Tryd.underlying28
  rw [run_equalIn_array w (d + 1 + 1) _ _ Tryd.underlying29 hi, cells_params]
  refine eqItems_of _ _ _ _ w _ fun i hi => ?_
  obtain ⟨q, hq⟩ := part_one p0 p1 p2 p3 w i (List.mem_range.1 hi)
  exact ⟨_, hq, params_eq q d w⟩
theorem bn_fields : ∃ f0 f1 f2 f3 f4 f5 f6 f7 : Field, Tryd.prog.underlying 31 = some (.struct #[f0, f1, f2, f3, f4, f5, f6, f7]) ∧
    (∀ x, okFb14 Tryd.prog (Bn_.C x) f0 = true ∧ okFb14 Tryd.prog (Bn_.C x) f1 = true ∧ okFb14 Tryd.prog (Bn_.C x) f2 = true ∧ okFb14 Tryd.prog (Bn_.C x) f3 = true ∧ okFb14 Tryd.prog (Bn_.C x) f4 = true) ∧
    (f5.name ≠ "_" ∧ f5.type = 24 ∧ f5.offset = 5) ∧ (f6.name ≠ "_" ∧ f6.type = 26 ∧ f6.offset = 9) ∧ (f7.name ≠ "_" ∧ f7.type = 29 ∧ f7.offset = 11) :=
  ⟨_, _, _, _, _, _, _, _, Tryd.underlying31, fun _ => ⟨by kernel_rfl, by kernel_rfl, by kernel_rfl, by kernel_rfl, by kernel_rfl⟩, ⟨by decide, rfl, rfl⟩, ⟨by decide, rfl, rfl⟩, ⟨by decide, rfl, rfl⟩⟩
theorem bn_hp : Tryd.prog.stoodInHeld 31 = false := by kernel_rfl
theorem bn_eq (x : Bn) (d : Nat) (w : World) : (Op.equalIn (d + 1 + 1 + 1 + 1) 31 (.agg (Bn_.C x)) (.agg (Bn_.C x))).run Tryd.prog w = .ok true w := by
  obtain ⟨f0, f1, f2, f3, f4, f5, f6, f7, hu, hok, ⟨n5, t5, o5⟩, ⟨n6, t6, o6⟩, ⟨n7, t7, o7⟩⟩ := bn_fields
  have hf : Tryd.prog.fieldsOf 31 = #[f0, f1, f2, f3, f4, f5, f6, f7] := by simp [Program.fieldsOf, hu]
  rw [run_equalIn_agg w _ _ _ _ (by rw [hf]; exact hu) bn_hp, hf]
  obtain ⟨k0, k1, k2, k3, k4⟩ := hok x
  refine eqFields_of _ _ w _ fun f hm => ?_
  simp only [List.mem_cons, List.not_mem_nil, or_false] at hm
  rcases hm with rfl | rfl | rfl | rfl | rfl | rfl | rfl | rfl
  · exact okFb_eq _ _ w _ k0
  · exact okFb_eq _ _ w _ k1
  · exact okFb_eq _ _ w _ k2
  · exact okFb_eq _ _ w _ k3
  · exact okFb_eq _ _ w _ k4
  · exact ⟨n5, _, by rw [t5, o5]; exact part_tim x w, by rw [t5]; exact tim_eq x.tm _ w⟩
  · exact ⟨n6, _, by rw [t6, o6]; exact part_switch x w, by rw [t6]; exact switch_eq x.sc x.sn _ w⟩
  · exact ⟨n7, _, by rw [t7, o7]; exact part_params x w, by rw [t7]; exact arr_eq x.p0 x.p1 x.p2 x.p3 _ w⟩
theorem bn_eq' (x : Bn) (w : World) : (Op.equalIn 10000 31 (.agg (Bn_.C x)) (.agg (Bn_.C x))).run Tryd.prog w = .ok true w := bn_eq x 9996 w
theorem bn_neq (x : Bn) (w : World) : (binOp .neq 31 (Bn_.v x) (Bn_.v x)).run Tryd.prog w = .ok (.bool false) w := by
  rw [Bn_.v_agg, run_neq_struct, bn_eq']; rfl
theorem bn_eql (x : Bn) (w : World) : (binOp .eql 31 (Bn_.v x) (Bn_.v x)).run Tryd.prog w = .ok (.bool true) w := by
  rw [Bn_.v_agg, run_eql_struct, bn_eq']; rfl
theorem bn_hm : Tryd.prog.eqGuardType Tryd.prog.depth 31 = false := by kernel_rfl
theorem bn_guard (op : BinOp) (a b : Operand) (x y : Bn) (w : World) : (eqGuard op 31 a b (Bn_.v x) (Bn_.v y)).run Tryd.prog w = .ok () w := by
  rw [Bn_.v_agg, Bn_.v_agg, run_eqGuard_agg w op _ a b _ _ bn_hm]
end Go.Proofs.YtojiffpmmgjpjaaDoor
