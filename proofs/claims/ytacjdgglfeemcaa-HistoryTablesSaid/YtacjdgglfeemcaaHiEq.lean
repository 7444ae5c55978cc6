/-
  HISTORIES COMPARED: any two of them.
-/
import Derived.Test.YtacjdgglfeemcaaHiLw
import Derived.ChangeKeysEq
namespace Go.Proofs.Ytacjdgglfeemcaa
open Go.RowKit Go.Hi

theorem eqFields_all {P : Program} (d : Nat) (xs ys : Array Value) (w : World) : ∀ (l : List (Field × Bool)), (∀ p ∈ l, p.1.name ≠ "_" ∧ ∃ u v, (part p.1.type xs p.1.offset).run P w = .ok u w ∧ (part p.1.type ys p.1.offset).run P w = .ok v w ∧ (Op.equalIn (d + 1) p.1.type u v).run P w = .ok p.2 w) → (Op.eqFields (d + 1) xs ys (l.map (·.1))).run P w = .ok (l.all (·.2)) w
  | [], _ => by simp [Op.eqFields]
  | (f, r) :: l, h => by
    have ih := eqFields_all d xs ys w l (fun g hg => h g (List.mem_cons_of_mem _ hg))
    obtain ⟨hn, u, v, hx, hy, he⟩ := h (f, r) (List.mem_cons_self ..)
    simp only at hn hx hy he
    simp only [List.map_cons, Op.eqFields, if_pos hn, Sem.run_bind, hx, hy, Result.andThen_ok, he]
    cases r
    · simp
    · simpa using ih
theorem pk_int : Try.prog.plainKey 3 = true := by kernel_rfl
theorem pk_bool : Try.prog.plainKey 4 = true := by kernel_rfl
theorem cmp_int {xs ys : Array Value} (f : Field) (o : Nat) (x y : Int) (d : Nat) (w : World) (h : f.name ≠ "_" ∧ f.type = 3 ∧ f.offset = o) (hx : xs[o]? = some (.int .i64 x)) (hy : ys[o]? = some (.int .i64 y)) :
    f.name ≠ "_" ∧ ∃ u v, (part f.type xs f.offset).run Try.prog w = .ok u w ∧ (part f.type ys f.offset).run Try.prog w = .ok v w ∧ (Op.equalIn (d + 1) f.type u v).run Try.prog w = .ok (x == y) w := by
  obtain ⟨hn, ht, ho⟩ := h
  rw [ht, ho]
  exact ⟨hn, _, _, run_part_plain w pk_int hx, run_part_plain w pk_int hy, run_equalIn_int w d _ _ _ _ _ Try.underlying3⟩
theorem cmp_bool {xs ys : Array Value} (f : Field) (o : Nat) (x y : Bool) (d : Nat) (w : World) (h : f.name ≠ "_" ∧ f.type = 4 ∧ f.offset = o) (hx : xs[o]? = some (.bool x)) (hy : ys[o]? = some (.bool y)) :
    f.name ≠ "_" ∧ ∃ u v, (part f.type xs f.offset).run Try.prog w = .ok u w ∧ (part f.type ys f.offset).run Try.prog w = .ok v w ∧ (Op.equalIn (d + 1) f.type u v).run Try.prog w = .ok (x == y) w := by
  obtain ⟨hn, ht, ho⟩ := h
  rw [ht, ho]
  exact ⟨hn, _, _, run_part_plain w pk_bool hx, run_part_plain w pk_bool hy, run_equalIn_bool w d _ _ _ Try.underlying4⟩

theorem la_fields : ∃ f0 f1 f2 : Field, Try.prog.underlying 23 = some (.struct #[f0, f1, f2]) ∧
    (f0.name ≠ "_" ∧ f0.type = 4 ∧ f0.offset = 0) ∧ (f1.name ≠ "_" ∧ f1.type = 3 ∧ f1.offset = 1) ∧ (f2.name ≠ "_" ∧ f2.type = 3 ∧ f2.offset = 2) :=
  ⟨_, _, _, Try.underlying23, ⟨by decide, rfl, rfl⟩, ⟨by decide, rfl, rfl⟩, ⟨by decide, rfl, rfl⟩⟩
theorem la_hp : Try.prog.stoodInHeld 23 = false := by kernel_rfl
theorem la_hm : Try.prog.eqGuardType Try.prog.depth 23 = false := by kernel_rfl
theorem la_eq (x y : La) (d : Nat) (w : World) : (Op.equalIn (d + 1 + 1) 23 (.agg (Lw_.C x)) (.agg (Lw_.C y))).run Try.prog w = .ok (decide (x = y)) w := by
  obtain ⟨f0, f1, f2, hu, h0, h1, h2⟩ := la_fields
  have hf : Try.prog.fieldsOf 23 = #[f0, f1, f2] := by simp [Program.fieldsOf, hu]
  rw [run_equalIn_agg w _ _ _ _ (by rw [hf]; exact hu) la_hp, hf]
  have h := eqFields_all (P := Try.prog) d (Lw_.C x) (Lw_.C y) w [(f0, x.v == y.v), (f1, x.q == y.q), (f2, x.f == y.f)] (fun q hq => by
    simp only [List.mem_cons, List.not_mem_nil, or_false] at hq
    rcases hq with rfl | rfl | rfl
    · exact cmp_bool f0 0 x.v y.v d w h0 rfl rfl
    · exact cmp_int f1 1 x.q y.q d w h1 rfl rfl
    · exact cmp_int f2 2 x.f y.f d w h2 rfl rfl)
  have e : decide (x = y) = ((x.v == y.v) && ((x.q == y.q) && (x.f == y.f))) := by
    obtain ⟨_, _, _⟩ := x
    obtain ⟨_, _, _⟩ := y
    rw [Bool.eq_iff_iff, decide_eq_true_iff]
    simp
  rw [e]
  simpa using h
namespace Lw_
theorem eql (x y : La) (w : World) : (binOp .eql 23 (v x) (v y)).run Try.prog w = .ok (.bool (decide (x = y))) w := by
  have h : (Op.equalIn 10000 23 (.agg (C x)) (.agg (C y))).run Try.prog w = _ := la_eq x y 9998 w
  rw [v_agg, v_agg, run_eql_struct, h]; rfl
theorem neq (x y : La) (w : World) : (binOp .neq 23 (v x) (v y)).run Try.prog w = .ok (.bool (!decide (x = y))) w := by
  have h : (Op.equalIn 10000 23 (.agg (C x)) (.agg (C y))).run Try.prog w = _ := la_eq x y 9998 w
  rw [v_agg, v_agg, run_neq_struct, h]; rfl
theorem guard (op : BinOp) (a b : Operand) (x y : La) (w : World) : (eqGuard op 23 a b (v x) (v y)).run Try.prog w = .ok () w := by
  rw [v_agg, v_agg, run_eqGuard_agg w op _ a b _ _ la_hm]
theorem guard_lit (op : BinOp) (a b : Operand) (x : La) (w : World) : (eqGuard op 23 a b (v x) (.agg #[.bool false, .int .i64 0, .int .i64 0])).run Try.prog w = .ok () w := guard op a b x zl w
theorem eql_lit (x : La) (w : World) : (binOp .eql 23 (v x) (.agg #[.bool false, .int .i64 0, .int .i64 0])).run Try.prog w = .ok (.bool (decide (x = zl))) w := eql x zl w
theorem neq_lit (x : La) (w : World) : (binOp .neq 23 (v x) (.agg #[.bool false, .int .i64 0, .int .i64 0])).run Try.prog w = .ok (.bool (!decide (x = zl))) w := neq x zl w
end Lw_
end Go.Proofs.Ytacjdgglfeemcaa
