/-
  PACKETS COMPARED: a packet with itself.
-/
import Derived.Test.YtaljdjabppiglaaQuIx
import Derived.ChangeKeysEq
namespace Go.Proofs.Ytaljdjabppiglaa.Ix_
open Go.RowKit Go.Qu

theorem ht : Try.prog.underlying 28 = some (.struct (Try.prog.fieldsOf 28)) := by kernel_rfl
theorem hp : Try.prog.stoodInHeld 28 = false := by kernel_rfl
theorem hm : Try.prog.eqGuardType Try.prog.depth 28 = false := by kernel_rfl
/-- A field of integers, bools or strings, and what lies in it. -/
def okFb (P : Program) (xs : Array Value) (f : Field) : Bool :=
  f.name != "_" && P.plainKey f.type && (match P.underlying f.type, xs[f.offset]? with
    | some (.int _), some (.int _ _) => true
    | some .bool, some (.bool _) => true
    | some .string, some (.string _) => true
    | _, _ => false)
theorem eqFields_same {P : Program} (d : Nat) (xs : Array Value) (w : World) : ∀ fs : List Field, fs.all (okFb P xs) = true → (Op.eqFields (d + 1) xs xs fs).run P w = .ok true w
  | [], _ => by simp [Op.eqFields]
  | f :: fs, h => by
    rw [List.all_cons, Bool.and_eq_true] at h
    obtain ⟨h1, h2⟩ := h
    have ih := eqFields_same d xs w fs h2
    unfold okFb at h1
    simp only [Bool.and_eq_true, bne_iff_ne] at h1
    obtain ⟨⟨hn, hp⟩, hm⟩ := h1
    have key : ∃ v, xs[f.offset]? = some v ∧ (Op.equalIn (d + 1) f.type v v).run P w = .ok true w := by
      split at hm
      · rename_i k k' n hu hx; exact ⟨_, hx, by rw [run_equalIn_int w d _ _ _ _ _ hu]; simp⟩
      · rename_i b hu hx; exact ⟨_, hx, by rw [run_equalIn_bool w d _ _ _ hu]; simp⟩
      · rename_i s hu hx; exact ⟨_, hx, by rw [run_equalIn_string w d _ _ _ hu]; simp⟩
      · cases hm
    obtain ⟨v, hx, he⟩ := key
    simp only [Op.eqFields, if_pos hn, Sem.run_bind, run_part_plain w hp hx, Result.andThen_ok, he]
    simpa using ih
theorem okF (x : It) : ((Try.prog.fieldsOf 28).toList.all (okFb Try.prog (C x))) = true := by kernel_rfl
theorem eqs (x : It) (w : World) : (Op.equalIn 10000 28 (.agg (C x)) (.agg (C x))).run Try.prog w = .ok true w := by
  rw [show (10000 : Nat) = 9998 + 1 + 1 from rfl, run_equalIn_agg w _ _ _ _ ht hp]
  exact eqFields_same _ _ w _ (okF x)
theorem neq (x : It) (w : World) : (binOp .neq 28 (v x) (v x)).run Try.prog w = .ok (.bool false) w := by
  rw [v_agg, run_neq_struct, eqs]; rfl
theorem eql (x : It) (w : World) : (binOp .eql 28 (v x) (v x)).run Try.prog w = .ok (.bool true) w := by
  rw [v_agg, run_eql_struct, eqs]; rfl
theorem guard (op : BinOp) (a b : Operand) (x y : It) (w : World) : (eqGuard op 28 a b (v x) (v y)).run Try.prog w = .ok () w := by
  rw [v_agg, v_agg, run_eqGuard_agg w op _ a b _ _ hm]
end Go.Proofs.Ytaljdjabppiglaa.Ix_
