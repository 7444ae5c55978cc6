/-
  FRAMES COMPARED: a frame with itself, with the zero frame as a literal.
-/
import Derived.Test.YtacbhbejchjbiaaDoorFrW
import Derived.ChangeKeysEq
namespace Go.Proofs.YtacbhbejchjbiaaDoor
open Go.RowKit Go.Hd

theorem fr_ht : Tryd.prog.underlying 34 = some (.struct (Tryd.prog.fieldsOf 34)) := by kernel_rfl
theorem fr_hp : Tryd.prog.stoodInHeld 34 = false := by kernel_rfl
theorem fr_hm : Tryd.prog.eqGuardType Tryd.prog.depth 34 = false := by kernel_rfl
/-- A field of integers, bools or strings, and what lies in it. -/
def okFb (P : Program) (xs : Array Value) (f : Field) : Bool :=
  f.name != "_" && P.plainKey f.type && (match P.underlying f.type, xs[f.offset]? with
    | some (.int _), some (.int _ _) => true
    | some .bool, some (.bool _) => true
    | some .string, some (.string _) => true
    | _, _ => false)
theorem eqFields_same {P : Program} (d : Nat) (xs : Array Value) (w : World) : ∀ fs : List Field, fs.all (okFb P xs) = true → (Op.eqFields (d + 1) xs xs fs).run P w = .ok true w
  | [], _ => by simp [Op.eqFields]
  | f :: fs, h => by
    rw [List.all_cons, Bool.and_eq_true] at h
    obtain ⟨h1, h2⟩ := h
    have ih := eqFields_same d xs w fs h2
    unfold okFb at h1
    simp only [Bool.and_eq_true, bne_iff_ne] at h1
    obtain ⟨⟨hn, hp⟩, hm⟩ := h1
    have key : ∃ v, xs[f.offset]? = some v ∧ (Op.equalIn (d + 1) f.type v v).run P w = .ok true w := by
      split at hm
      · rename_i k k' n hu hx; exact ⟨_, hx, by rw [run_equalIn_int w d _ _ _ _ _ hu]; simp⟩
      · rename_i b hu hx; exact ⟨_, hx, by rw [run_equalIn_bool w d _ _ _ hu]; simp⟩
      · rename_i s hu hx; exact ⟨_, hx, by rw [run_equalIn_string w d _ _ _ hu]; simp⟩
      · cases hm
    obtain ⟨v, hx, he⟩ := key
    simp only [Op.eqFields, if_pos hn, Sem.run_bind, run_part_plain w hp hx, Result.andThen_ok, he]
    simpa using ih
theorem fr_okF (x : Fr) : ((Tryd.prog.fieldsOf 34).toList.all (okFb Tryd.prog (Fr_.C x))) = true := by kernel_rfl
theorem fr_eq (x : Fr) (w : World) : (Op.equalIn 10000 34 (.agg (Fr_.C x)) (.agg (Fr_.C x))).run Tryd.prog w = .ok true w := by
  rw [show (10000 : Nat) = 9998 + 1 + 1 from rfl, run_equalIn_agg w _ _ _ _ fr_ht fr_hp]
  exact eqFields_same _ _ w _ (fr_okF x)
theorem fr_neq (x : Fr) (w : World) : (binOp .neq 34 (Fr_.v x) (Fr_.v x)).run Tryd.prog w = .ok (.bool false) w := by
  rw [Fr_.v_agg, run_neq_struct, fr_eq]; rfl
theorem fr_eql (x : Fr) (w : World) : (binOp .eql 34 (Fr_.v x) (Fr_.v x)).run Tryd.prog w = .ok (.bool true) w := by
  rw [Fr_.v_agg, run_eql_struct, fr_eq]; rfl
theorem fr_guard (op : BinOp) (a b : Operand) (x y : Fr) (w : World) : (eqGuard op 34 a b (Fr_.v x) (Fr_.v y)).run Tryd.prog w = .ok () w := by
  rw [Fr_.v_agg, Fr_.v_agg, run_eqGuard_agg w op _ a b _ _ fr_hm]
theorem fr_guard_lit (op : BinOp) (a b : Operand) (x : Fr) (w : World) : (eqGuard op 34 a b (Fr_.v x) (.agg #[.int .i64 0, .bool false, .bool false, .bool false, .bool false, .bool false, .bool false, .int .i64 0, .int .i64 0, .int .u64 0, .int .u64 0, .int .u64 0, .int .i64 0, .int .i64 0, .int .i64 0, .int .i64 0, .int .i64 0, .string ⟨#[]⟩])).run Tryd.prog w = .ok () w := fr_guard op a b x Fr_.zf w
theorem fr_eql_lit (w : World) : (binOp .eql 34 (Fr_.v Fr_.zf) (.agg #[.int .i64 0, .bool false, .bool false, .bool false, .bool false, .bool false, .bool false, .int .i64 0, .int .i64 0, .int .u64 0, .int .u64 0, .int .u64 0, .int .i64 0, .int .i64 0, .int .i64 0, .int .i64 0, .int .i64 0, .string ⟨#[]⟩])).run Tryd.prog w = .ok (.bool true) w := fr_eql Fr_.zf w
end Go.Proofs.YtacbhbejchjbiaaDoor
