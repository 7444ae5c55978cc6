/-
  BODIES COMPARED: any two of them; plans too.
-/
import Derived.Test.YtcpfkikifhcdmaaMgW2
namespace Go.Proofs.Ytcpfkikifhcdmaa
open Go.RowKit Go.Mg

theorem eqFields_all {P : Program} (d : Nat) (xs ys : Array Value) (w : World) : ∀ (l : List (Field × Bool)), (∀ p ∈ l, p.1.name ≠ "_" ∧ ∃ u v, (part p.1.type xs p.1.offset).run P w = .ok u w ∧ (part p.1.type ys p.1.offset).run P w = .ok v w ∧ (Op.equalIn d p.1.type u v).run P w = .ok p.2 w) → (Op.eqFields d xs ys (l.map Prod.fst)).run P w = .ok (l.all Prod.snd) w
  | [], _ => by simp [Op.eqFields]
  | (f, r) :: l, h => by
    have ih := eqFields_all d xs ys w l (fun g hg => h g (List.mem_cons_of_mem _ hg))
    obtain ⟨hn, u, v, hx, hy, he⟩ := h (f, r) (List.mem_cons_self ..)
    simp only at hn hx hy he
    simp only [List.map_cons, Op.eqFields, if_pos hn, Sem.run_bind, hx, hy, Result.andThen_ok, he]
    cases r
    · simp
    · simpa using ih
theorem pk_int : Try.prog.plainKey 3 = true := by kernel_rfl
theorem pk_str : Try.prog.plainKey 9 = true := by kernel_rfl
theorem pk_adr : Try.prog.plainKey 23 = true := by kernel_rfl
theorem cmp_int {xs ys : Array Value} (f : Field) (o : Nat) (x y : Int) (d : Nat) (w : World) (h : f.name ≠ "_" ∧ f.type = 3 ∧ f.offset = o) (hx : xs[o]? = some (.int .i64 x)) (hy : ys[o]? = some (.int .i64 y)) :
    f.name ≠ "_" ∧ ∃ u v, (part f.type xs f.offset).run Try.prog w = .ok u w ∧ (part f.type ys f.offset).run Try.prog w = .ok v w ∧ (Op.equalIn (d + 1) f.type u v).run Try.prog w = .ok (x == y) w := by
  obtain ⟨hn, ht, ho⟩ := h
  rw [ht, ho]
  exact ⟨hn, _, _, run_part_plain w pk_int hx, run_part_plain w pk_int hy, run_equalIn_int w d _ _ _ _ _ Try.underlying3⟩
theorem cmp_adr {xs ys : Array Value} (f : Field) (o : Nat) (x y : Int) (d : Nat) (w : World) (h : f.name ≠ "_" ∧ f.type = 23 ∧ f.offset = o) (hx : xs[o]? = some (.int .u64 x)) (hy : ys[o]? = some (.int .u64 y)) :
    f.name ≠ "_" ∧ ∃ u v, (part f.type xs f.offset).run Try.prog w = .ok u w ∧ (part f.type ys f.offset).run Try.prog w = .ok v w ∧ (Op.equalIn (d + 1) f.type u v).run Try.prog w = .ok (x == y) w := by
  obtain ⟨hn, ht, ho⟩ := h
  rw [ht, ho]
  exact ⟨hn, _, _, run_part_plain w pk_adr hx, run_part_plain w pk_adr hy, run_equalIn_int w d _ _ _ _ _ Try.underlying23⟩
theorem cmp_str {xs ys : Array Value} (f : Field) (o : Nat) (x y : ByteArray) (d : Nat) (w : World) (h : f.name ≠ "_" ∧ f.type = 9 ∧ f.offset = o) (hx : xs[o]? = some (.string x)) (hy : ys[o]? = some (.string y)) :
    f.name ≠ "_" ∧ ∃ u v, (part f.type xs f.offset).run Try.prog w = .ok u w ∧ (part f.type ys f.offset).run Try.prog w = .ok v w ∧ (Op.equalIn (d + 1) f.type u v).run Try.prog w = .ok (x.toList == y.toList) w := by
  obtain ⟨hn, ht, ho⟩ := h
  rw [ht, ho]
  exact ⟨hn, _, _, run_part_plain w pk_str hx, run_part_plain w pk_str hy, run_equalIn_string w d _ _ _ Try.underlying9⟩

/-! Plans. -/
theorem plan_fields : ∃ f0 f1 f2 : Field, Try.prog.underlying 25 = some (.struct #[f0, f1, f2]) ∧
    (f0.name ≠ "_" ∧ f0.type = 3 ∧ f0.offset = 0) ∧ (f1.name ≠ "_" ∧ f1.type = 3 ∧ f1.offset = 1) ∧ (f2.name ≠ "_" ∧ f2.type = 3 ∧ f2.offset = 2) :=
  ⟨_, _, _, Try.underlying25, ⟨by decide, rfl, rfl⟩, ⟨by decide, rfl, rfl⟩, ⟨by decide, rfl, rfl⟩⟩
theorem plan_hp : Try.prog.stoodInHeld 25 = false := by kernel_rfl
theorem plan_eq (a p l a' p' l' : Int) (d : Nat) (w : World) : (Op.equalIn (d + 1 + 1) 25 (.agg (Bd_.PC a p l)) (.agg (Bd_.PC a' p' l'))).run Try.prog w = .ok ((a == a') && ((p == p') && (l == l'))) w := by
  obtain ⟨f0, f1, f2, hu, h0, h1, h2⟩ := plan_fields
  have hf : Try.prog.fieldsOf 25 = #[f0, f1, f2] := by simp [Program.fieldsOf, hu]
  rw [run_equalIn_agg w _ _ _ _ (by rw [hf]; exact hu) plan_hp, hf]
  have h := eqFields_all (P := Try.prog) (d + 1) (Bd_.PC a p l) (Bd_.PC a' p' l') w [(f0, a == a'), (f1, p == p'), (f2, l == l')] (fun q hq => by
    simp only [List.mem_cons, List.not_mem_nil, or_false] at hq
    rcases hq with rfl | rfl | rfl
    · exact cmp_int f0 0 a a' d w h0 rfl rfl
    · exact cmp_int f1 1 p p' d w h1 rfl rfl
    · exact cmp_int f2 2 l l' d w h2 rfl rfl)
  simpa using h
theorem plan_gd (op : BinOp) (a b : Operand) (x p l x' p' l' : Int) (w : World) : (eqGuard op 25 a b (.agg #[.int .i64 x, .int .i64 p, .int .i64 l]) (.agg #[.int .i64 x', .int .i64 p', .int .i64 l'])).run Try.prog w = .ok () w :=
  run_eqGuard_agg w op _ a b _ _ (by kernel_rfl)
theorem pz_eq (b : Bd) : (b.pf == 0 && (b.pp == 0 && b.pl == 0)) = pz b := by
  unfold pz
  rw [Bool.eq_iff_iff, decide_eq_true_iff]
  simp
theorem plan_eql (b : Bd) (w : World) : (binOp .eql 25 (.agg #[.int .i64 b.pf, .int .i64 b.pp, .int .i64 b.pl]) (.agg #[.int .i64 0, .int .i64 0, .int .i64 0])).run Try.prog w = .ok (.bool (pz b)) w := by
  have h : (Op.equalIn 10000 25 (.agg #[.int .i64 b.pf, .int .i64 b.pp, .int .i64 b.pl]) (.agg #[.int .i64 0, .int .i64 0, .int .i64 0])).run Try.prog w = _ := plan_eq b.pf b.pp b.pl 0 0 0 9998 w
  rw [run_eql_struct, h, pz_eq]; rfl
theorem plan_neq (b : Bd) (w : World) : (binOp .neq 25 (.agg #[.int .i64 b.pf, .int .i64 b.pp, .int .i64 b.pl]) (.agg #[.int .i64 0, .int .i64 0, .int .i64 0])).run Try.prog w = .ok (.bool (!pz b)) w := by
  have h : (Op.equalIn 10000 25 (.agg #[.int .i64 b.pf, .int .i64 b.pp, .int .i64 b.pl]) (.agg #[.int .i64 0, .int .i64 0, .int .i64 0])).run Try.prog w = _ := plan_eq b.pf b.pp b.pl 0 0 0 9998 w
  rw [run_neq_struct, h, pz_eq]; rfl

/-! Bodies. -/
theorem bd_fields : ∃ f0 f1 f2 f3 f4 f5 f6 f7 f8 f9 f10 f11 f12 f13 f14 : Field, Try.prog.underlying 27 = some (.struct #[f0, f1, f2, f3, f4, f5, f6, f7, f8, f9, f10, f11, f12, f13, f14]) ∧
    (f0.name ≠ "_" ∧ f0.type = 3 ∧ f0.offset = 0) ∧ (f1.name ≠ "_" ∧ f1.type = 3 ∧ f1.offset = 1) ∧ (f2.name ≠ "_" ∧ f2.type = 3 ∧ f2.offset = 2) ∧ (f3.name ≠ "_" ∧ f3.type = 3 ∧ f3.offset = 3) ∧ (f4.name ≠ "_" ∧ f4.type = 9 ∧ f4.offset = 4) ∧ (f5.name ≠ "_" ∧ f5.type = 3 ∧ f5.offset = 5) ∧ (f6.name ≠ "_" ∧ f6.type = 3 ∧ f6.offset = 6) ∧ (f7.name ≠ "_" ∧ f7.type = 23 ∧ f7.offset = 7) ∧ (f8.name ≠ "_" ∧ f8.type = 3 ∧ f8.offset = 8) ∧ (f9.name ≠ "_" ∧ f9.type = 3 ∧ f9.offset = 9) ∧ (f10.name ≠ "_" ∧ f10.type = 3 ∧ f10.offset = 10) ∧ (f11.name ≠ "_" ∧ f11.type = 3 ∧ f11.offset = 11) ∧ (f12.name ≠ "_" ∧ f12.type = 3 ∧ f12.offset = 12) ∧ (f13.name ≠ "_" ∧ f13.type = 3 ∧ f13.offset = 13) ∧ (f14.name ≠ "_" ∧ f14.type = 25 ∧ f14.offset = 14) :=
  ⟨_, _, _, _, _, _, _, _, _, _, _, _, _, _, _, Try.underlying27, ⟨by decide, rfl, rfl⟩, ⟨by decide, rfl, rfl⟩, ⟨by decide, rfl, rfl⟩, ⟨by decide, rfl, rfl⟩, ⟨by decide, rfl, rfl⟩, ⟨by decide, rfl, rfl⟩, ⟨by decide, rfl, rfl⟩, ⟨by decide, rfl, rfl⟩, ⟨by decide, rfl, rfl⟩, ⟨by decide, rfl, rfl⟩, ⟨by decide, rfl, rfl⟩, ⟨by decide, rfl, rfl⟩, ⟨by decide, rfl, rfl⟩, ⟨by decide, rfl, rfl⟩, ⟨by decide, rfl, rfl⟩⟩
/-- Two bodies, field by field. -/
def eqb (x y : Bd) : Bool := (x.kd == y.kd) && ((x.sp == y.sp) && ((x.st == y.st) && ((x.hn == y.hn) && ((x.nm.toList == y.nm.toList) && ((x.ls == y.ls) && ((x.dv == y.dv) && ((x.od == y.od) && ((x.ai == y.ai) && ((x.ct == y.ct) && ((x.sr == y.sr) && ((x.sz == y.sz) && ((x.ch == y.ch) && ((x.cn == y.cn) && ((x.pf == y.pf && (x.pp == y.pp && x.pl == y.pl))))))))))))))))
theorem eqb_eq (x y : Bd) : eqb x y = decide (x = y) := by
  have hb : (x.nm.toList == y.nm.toList) = decide (x.nm = y.nm) := by
    rw [Bool.eq_iff_iff, beq_iff_eq, decide_eq_true_iff, Lib.toList_data, Lib.toList_data]
    constructor
    · intro h; apply ByteArray.ext; exact Array.toList_inj.1 h
    · intro h; rw [h]
  unfold eqb
  rw [hb, Bool.eq_iff_iff, decide_eq_true_iff, ext_iff]
  simp only [Bool.and_eq_true, beq_iff_eq, decide_eq_true_iff]
theorem bd_hp : Try.prog.stoodInHeld 27 = false := by kernel_rfl
theorem part_plan (x : Bd) (w : World) : (part 25 (Bd_.C x) 14).run Try.prog w = .ok (.agg (Bd_.PC x.pf x.pp x.pl)) w := by kernel_rfl
theorem bd_eq (x y : Bd) (d : Nat) (w : World) : (Op.equalIn (d + 1 + 1 + 1) 27 (.agg (Bd_.C x)) (.agg (Bd_.C y))).run Try.prog w = .ok (decide (x = y)) w := by
  obtain ⟨f0, f1, f2, f3, f4, f5, f6, f7, f8, f9, f10, f11, f12, f13, f14, hu, h0, h1, h2, h3, h4, h5, h6, h7, h8, h9, h10, h11, h12, h13, h14⟩ := bd_fields
  have hf : Try.prog.fieldsOf 27 = #[f0, f1, f2, f3, f4, f5, f6, f7, f8, f9, f10, f11, f12, f13, f14] := by simp [Program.fieldsOf, hu]
  rw [run_equalIn_agg w _ _ _ _ (by rw [hf]; exact hu) bd_hp, hf]
  have h := eqFields_all (P := Try.prog) (d + 1 + 1) (Bd_.C x) (Bd_.C y) w [(f0, (x.kd == y.kd)), (f1, (x.sp == y.sp)), (f2, (x.st == y.st)), (f3, (x.hn == y.hn)), (f4, (x.nm.toList == y.nm.toList)), (f5, (x.ls == y.ls)), (f6, (x.dv == y.dv)), (f7, (x.od == y.od)), (f8, (x.ai == y.ai)), (f9, (x.ct == y.ct)), (f10, (x.sr == y.sr)), (f11, (x.sz == y.sz)), (f12, (x.ch == y.ch)), (f13, (x.cn == y.cn)), (f14, x.pf == y.pf && (x.pp == y.pp && x.pl == y.pl))] (fun q hq => by
    simp only [List.mem_cons, List.not_mem_nil, or_false] at hq
    rcases hq with rfl | rfl | rfl | rfl | rfl | rfl | rfl | rfl | rfl | rfl | rfl | rfl | rfl | rfl | rfl
    · exact cmp_int f0 0 x.kd y.kd (d + 1) w h0 rfl rfl
    · exact cmp_int f1 1 x.sp y.sp (d + 1) w h1 rfl rfl
    · exact cmp_int f2 2 x.st y.st (d + 1) w h2 rfl rfl
    · exact cmp_int f3 3 x.hn y.hn (d + 1) w h3 rfl rfl
    · exact cmp_str f4 4 x.nm y.nm (d + 1) w h4 rfl rfl
    · exact cmp_int f5 5 x.ls y.ls (d + 1) w h5 rfl rfl
    · exact cmp_int f6 6 x.dv y.dv (d + 1) w h6 rfl rfl
    · exact cmp_adr f7 7 x.od y.od (d + 1) w h7 rfl rfl
    · exact cmp_int f8 8 x.ai y.ai (d + 1) w h8 rfl rfl
    · exact cmp_int f9 9 x.ct y.ct (d + 1) w h9 rfl rfl
    · exact cmp_int f10 10 x.sr y.sr (d + 1) w h10 rfl rfl
    · exact cmp_int f11 11 x.sz y.sz (d + 1) w h11 rfl rfl
    · exact cmp_int f12 12 x.ch y.ch (d + 1) w h12 rfl rfl
    · exact cmp_int f13 13 x.cn y.cn (d + 1) w h13 rfl rfl
    · obtain ⟨hn, ht, ho⟩ := h14
      exact ⟨hn, _, _, by rw [ht, ho]; exact part_plan x w, by rw [ht, ho]; exact part_plan y w, by rw [ht]; exact plan_eq x.pf x.pp x.pl y.pf y.pp y.pl d w⟩)
  rw [← eqb_eq]
  refine h.trans ?_
  simp only [List.all_cons, List.all_nil, Bool.and_true]
  rfl
theorem bd_eq' (x y : Bd) (w : World) : (Op.equalIn 10000 27 (.agg (Bd_.C x)) (.agg (Bd_.C y))).run Try.prog w = .ok (decide (x = y)) w := bd_eq x y 9997 w
theorem bd_neq (x y : Bd) (w : World) : (binOp .neq 27 (Bd_.v x) (Bd_.v y)).run Try.prog w = .ok (.bool (!decide (x = y))) w := by
  rw [Bd_.v_agg, Bd_.v_agg, run_neq_struct, bd_eq']; rfl
theorem bd_eql (x y : Bd) (w : World) : (binOp .eql 27 (Bd_.v x) (Bd_.v y)).run Try.prog w = .ok (.bool (decide (x = y))) w := by
  rw [Bd_.v_agg, Bd_.v_agg, run_eql_struct, bd_eq']; rfl
theorem bd_hm : Try.prog.eqGuardType Try.prog.depth 27 = false := by kernel_rfl
theorem bd_guard (op : BinOp) (a b : Operand) (x y : Bd) (w : World) : (eqGuard op 27 a b (Bd_.v x) (Bd_.v y)).run Try.prog w = .ok () w := by
  rw [Bd_.v_agg, Bd_.v_agg, run_eqGuard_agg w op _ a b _ _ bd_hm]
end Go.Proofs.Ytcpfkikifhcdmaa
