/-
  WALKS of package history, and of the reference's Note: isFlow, Note, Get, Put, Drop over a table that lies in a block as a map.
-/
import Derived.Test.YtacjdgglfeemcaaHiEq
import Derived.Test.YtacjdgglfeemcaaHiFw
import Derived.Maps.OwnSet
import Derived.Maps.Range
import Derived.Handy
import Derived.Deep.MidRow
import Derived.DeepKeys
namespace Go.Proofs.Ytacjdgglfeemcaa
open Go.RowKit Go.Hi
open Go.Maps (Keyed)
attribute [local go_sem ↓ high] Lw_.loadF Lw_.storeF Lw_.v_cells Lw_.v_match Fw_.loadF Fw_.storeF Fw_.v_cells Fw_.v_match
attribute [local go_sem] Lw_.C0 Lw_.C1 Lw_.C2 Lw_.loadF_new Lw_.storeF_zero Lw_.guard Fw_.loadF_new Fw_.storeF_zero

/-! A table. -/
theorem fw_inj {F G : Fl} (h : Fw_.v F = Fw_.v G) : F = G := by
  obtain ⟨⟨_, _, _⟩, ⟨_, _, _⟩, ⟨_, _, _⟩, ⟨_, _, _⟩, ⟨_, _, _⟩⟩ := F
  obtain ⟨⟨_, _, _⟩, ⟨_, _, _⟩, ⟨_, _, _⟩, ⟨_, _, _⟩, ⟨_, _, _⟩⟩ := G
  simp [Fw_.v] at h ⊢
  simp [h]
open Classical in
/-- How five histories read. -/
noncomputable def Rf (v : Value) : Option (DataW Unit × List MemPlace) := if h : ∃ F, v = Fw_.v F then some (dF h.choose, []) else none
theorem rf_mk (F : Fl) : Rf (Fw_.v F) = some (dF F, []) := by
  have h : ∃ G, Fw_.v F = Fw_.v G := ⟨F, rfl⟩
  unfold Rf
  rw [dif_pos h, ← fw_inj h.choose_spec]
theorem rf_inv {v : Value} {d : DataW Unit} {ps : List MemPlace} (h : Rf v = some (d, ps)) : ∃ F, v = Fw_.v F ∧ d = dF F := by
  unfold Rf at h
  split at h
  · rename_i hh
    exact ⟨hh.choose, hh.choose_spec, by simp at h; exact h.1.symm⟩
  · cases h
theorem keyed : Keyed Try.prog 33 := Maps.int_keyed Try.underlying33
theorem zeroF (w : World) : (zeroValue 42).run Try.prog w = .ok (Fw_.v zf) w := by kernel_rfl
/-- Block b is a map that reads as M; n is no less than its entries. -/
structure Tab (W : World) (b n : Nat) (M : Tb) : Prop where
  own : W.ownsMap Try.prog 33 Rf b n (dT M)
  ok : Ok M
theorem Tab.kept {W W' : World} {b n : Nat} {M : Tb} (h : Tab W b n M) (hb : W'.heap[b]? = W.heap[b]?) : Tab W' b n M := by
  obtain ⟨es, clock, h1, h2⟩ := h.own
  exact ⟨⟨es, clock, hb.trans h1, h2⟩, h.ok⟩
theorem Tab.lt {W : World} {b n : Nat} {M : Tb} (h : Tab W b n M) : b < W.heap.size := h.own.lt
theorem Tab.below {W W' : World} {b n : Nat} {M : Tb} (h : Tab W b n M) (hb : Below W.heap.size W W') : Tab W' b n M := h.kept (hb.block b h.lt)
theorem Tab.made (W : World) : Tab (W.alloc (.map #[] 0)) W.heap.size 0 [] := ⟨World.ownsMap_made _ _ _ _, ok_nil⟩
theorem Tab.mono {W : World} {b n m : Nat} {M : Tb} (h : Tab W b n M) (hm : n ≤ m) : Tab W b m M := ⟨h.own.mono hm, h.ok⟩
theorem Tab.look {W : World} {b n : Nat} {M : Tb} (h : Tab W b n M) {p : Int} (hp : (Lit.int .u64 p).wf = true) : (Instr.lookup 35 (.map (some b)) (.int .u64 p) false).run Try.prog W = .ok (Fw_.v (Hi.look M p)) W := by
  obtain ⟨v, ps, hrun, hv⟩ := h.own.lookup keyed Try.underlying35 (zeroF W) (rf_mk zf) (key := .int .u64 p) (Maps.keyOf_int_mk Try.underlying33 hp)
  obtain ⟨F, rfl, hF⟩ := rf_inv hv
  rw [at_look] at hF
  rw [hrun, ← dF_inj hF]
theorem look_nil {W : World} {p : Int} (hp : (Lit.int .u64 p).wf = true) : (Instr.lookup 35 (.map none) (.int .u64 p) false).run Try.prog W = .ok (Fw_.v zf) W :=
  Maps.look_nil false keyed Try.underlying35 (zeroF W) (Maps.keyOf_int_mk Try.underlying33 hp)
theorem Tab.store {W : World} {b n : Nat} {M : Tb} (h : Tab W b n M) (hn : n < maxLen) {p : Int} (hp : (Lit.int .u64 p).wf = true) (F : Fl) :
    ∃ W', (Instr.mapUpdate 35 (.map (some b)) (.int .u64 p) (Fw_.v F)).run Try.prog W = .ok () W' ∧ Tab W' b (n + 1) (ins M p F) ∧ W.mapTurned W' b := by
  obtain ⟨W', h1, h2, h3⟩ := h.own.store keyed Try.underlying35 hn (key := .int .u64 p) (Maps.keyOf_int_mk Try.underlying33 hp) (rf_mk F)
  rw [put_ins h.ok.1] at h2
  exact ⟨W', h1, ⟨h2, ok_ins h.ok hp F⟩, h3⟩
theorem Tab.drop {W : World} {b n : Nat} {M : Tb} (h : Tab W b n M) {p : Int} (hp : (Lit.int .u64 p).wf = true) (ty : TypeId) :
    ∃ W', (Builtin.delete_ #[35, 33] ty #[.map (some b), .int .u64 p]).run Try.prog W = .ok (.tuple #[]) W' ∧ Tab W' b n (drp M p) ∧ W.mapTurned W' b := by
  obtain ⟨W', h1, h2, h3⟩ := h.own.drop keyed Try.underlying35 (key := .int .u64 p) (Maps.keyOf_int_mk Try.underlying33 hp) ty
  rw [del_drp] at h2
  exact ⟨W', h1, ⟨h2, ok_drp h.ok p⟩, h3⟩
theorem grownBy_trans {a b c : World} {r : Option Nat} (h : a.grownBy b r) (k : b.grownBy c r) : a.grownBy c r :=
  ⟨k.os.trans h.os, k.tape.trans h.tape, k.output.trans h.output, Nat.le_trans h.size k.size, fun i hi hr => (k.block i (Nat.lt_of_lt_of_le hi h.size) hr).trans (h.block i hi hr)⟩
theorem grownBy_below {a b : World} {r : Option Nat} (h : Below a.heap.size a b) : a.grownBy b r := ⟨h.os, h.tape, h.output, h.size, fun i hi _ => h.block i hi⟩

/-! Results out of a cell. -/
theorem ret_la {fn : Func} {p : Tmp} (hr : fn.results = #[.cell p 23]) {tmps : Array Value} {ds : _} {w : World} {g : Nat} {y : La} {R : Ending → World → Prop} (hp : tmps.getD p undef = .pointer (some ⟨g, 0, none⟩)) (hb : Lw_.Box w g y) (hd : ds = []) (hR : R (.returned (Lw_.v y)) w) :
    bodyPost Try.prog fn R .ret ⟨tmps, ds⟩ w := by
  refine bodyPost_ret (v := Lw_.v y) ?_ hd hR
  have hp' : tmps[p]?.getD undef = .pointer (some ⟨g, 0, none⟩) := by simpa using hp
  have hl := run_loadVar_row w g 23 23 (Lw_.C y) (0, 0) _ hb Try.underlying23 rfl Lw_.sz
  simp [results, hr, hp', asAddr, hl]
  rfl
theorem ret_la2 {fn : Func} {p q : Tmp} (hr : fn.results = #[.cell p 23, .tmp q]) {tmps : Array Value} {ds : _} {w : World} {g : Nat} {y : La} {vq : Value} {R : Ending → World → Prop} (hp : tmps.getD p undef = .pointer (some ⟨g, 0, none⟩)) (hq : tmps.getD q undef = vq) (hb : Lw_.Box w g y) (hd : ds = []) (hR : R (.returned (.tuple #[Lw_.v y, vq])) w) :
    bodyPost Try.prog fn R .ret ⟨tmps, ds⟩ w := by
  refine bodyPost_ret (v := .tuple #[Lw_.v y, vq]) ?_ hd hR
  have hp' : tmps[p]?.getD undef = .pointer (some ⟨g, 0, none⟩) := by simpa using hp
  have hq' : tmps[q]?.getD undef = vq := by simpa using hq
  have hl := run_loadVar_row w g 23 23 (Lw_.C y) (0, 0) _ hb Try.underlying23 rfl Lw_.sz
  simp [results, hr, hp', hq', asAddr, hl]
  rfl
theorem below_setRow {w wi : World} {r B : Nat} (hb : Below B w wi) (hr : B ≤ r) (c : Array Value) : Below B w (wi.setRow r c) :=
  ⟨hb.os, hb.tape, hb.output, by have := hb.size; simpa [World.setRow] using this, fun k hk => (Lw_.setRow_other (by omega) c).trans (hb.block k hk)⟩

theorem hiFlow_any (k : Int) (w : World) : Calls Try.prog 21 #[.int .i64 k] w fun e w' => e = .returned (.bool (isF k)) ∧ w = w' := by
  by_cases h1 : 0 ≤ k
  · have HR := Lib.hid (show isF k = decide (k < 5) from decide_eq_decide.2 ⟨fun h => h.2, fun h => ⟨h1, h⟩⟩)
    have d1 : decide (0 ≤ k) = true := decide_eq_true h1
    go_enter Try.func21, Try.ntmps21
    go_wp2
    go_returns
    exact ⟨by rw [HR.out]; rfl, rfl⟩
  · have HR := Lib.hid (show isF k = false from decide_eq_false fun h => h1 h.1)
    have d1 : decide (0 ≤ k) = false := decide_eq_false h1
    go_enter Try.func21, Try.ntmps21
    go_wp2
    go_returns
    exact ⟨by rw [HR.out] <;> rfl, rfl⟩

/-- The history in its cell, the result's cell, the noted one. -/
structure Nst (w : World) (l y : La) (wi : World) : Prop where
  bl : Lw_.Box wi w.heap.size l
  rs : Lw_.Box wi (w.heap.size + 1) zl
  bn : Lw_.Box wi (w.heap.size + 2) y
  bel : Below w.heap.size w wi
theorem Nst.new {w w1 w2 w3 : World} {l y : La} (h1 : w.alloc (.cells (Lw_.C l) 23) = w1) (h2 : w1.alloc (.cells (Lw_.C zl) 23) = w2) (h3 : w2.alloc (.cells (Lw_.C y) 23) = w3) : Nst w l y w3 := by
  subst h1; subst h2; subst h3
  refine ⟨((Lw_.Box.new w l).allocC _).allocC _, ?_, ?_, (((Below.refl _ _).alloc (Nat.le_refl _) _).alloc (by simp) _).alloc (by simp; omega) _⟩
  · have := Lw_.Box.new (w.alloc (.cells (Lw_.C l) 23)) zl
    rw [show (w.alloc (.cells (Lw_.C l) 23)).heap.size = w.heap.size + 1 by simp] at this
    exact this.allocC _
  · have := Lw_.Box.new ((w.alloc (.cells (Lw_.C l) 23)).alloc (.cells (Lw_.C zl) 23)) y
    rwa [show ((w.alloc (.cells (Lw_.C l) 23)).alloc (.cells (Lw_.C zl) 23)).heap.size = w.heap.size + 2 by simp] at this

def NtPost (l : La) (s f : Int) (w : World) (e : Ending) (w' : World) : Prop := e = .returned (.tuple #[Lw_.v (nt s f), .int .i64 (ag l s f)]) ∧ Below w.heap.size w w'

set_option maxRecDepth 100000 in
set_option maxHeartbeats 2000000 in
theorem hiNote_any (l : La) (s f : Int) (w : World) : Calls Try.prog 8 #[Lw_.v l, .int .i64 s, .int .i64 f] w fun e w' => NtPost l s f w e w' := by
  obtain ⟨w1, hw1⟩ : ∃ w1, w.alloc (.cells (Lw_.C l) 23) = w1 := ⟨_, rfl⟩
  obtain ⟨w2, hw2⟩ : ∃ w2, w1.alloc (.cells (Lw_.C zl) 23) = w2 := ⟨_, rfl⟩
  have hw2' : w1.alloc (.cells #[.bool false, .int .i64 0, .int .i64 0] 23) = w2 := hw2
  have hz1 : w1.heap.size = w.heap.size + 1 := by rw [← hw1]; simp
  have hz2 : w2.heap.size = w.heap.size + 2 := by rw [← hw2]; simp [hz1]
  obtain ⟨w3, hw3⟩ : ∃ w3, w2.alloc (.cells (Lw_.C (nt s f)) 23) = w3 := ⟨_, rfl⟩
  have S3 := Lib.hid (Nst.new hw1 hw2 hw3)
  have sn : (Lw_.StoreF ⟨w.heap.size + 2, 0, none⟩ (.agg #[.bool true, .int .i64 s, .int .i64 f])).run Try.prog (w2.alloc (.cells #[.bool false, .int .i64 0, .int .i64 0] 23)) = .ok () w3 := by
    rw [← hw3, ← hz2]; exact Lw_.storeF_zero w2 (nt s f)
  have ll := S3.out.bl.loadF
  have ln := S3.out.bn.loadF
  clear hw3
  unfold NtPost
  by_cases hl : l = nt s f
  · have HA := Lib.hid (show ag l s f = 1 from if_pos hl)
    have HE := Lib.hid (S3.out.rs.storeF l)
    have sr := HE.out
    have he : (binOp .eql 23 (Lw_.v l) (Lw_.v (nt s f))).run Try.prog w3 = .ok (.bool true) w3 := by rw [Lw_.eql, decide_eq_true hl]
    have HL := Lib.hid hl
    clear hl
    go_enter Try.func8, Try.ntmps8
    go_wp2
    refine ret_la2 Try.results8 rfl rfl (S3.out.rs.setRow l) rfl ⟨by rw [HA.out, ← HL.out]; rfl, below_setRow S3.out.bel (by omega) _⟩
  · have HA := Lib.hid (show ag l s f = 0 from if_neg hl)
    have HE := Lib.hid (S3.out.rs.storeF (nt s f))
    have sr := HE.out
    have he : (binOp .eql 23 (Lw_.v l) (Lw_.v (nt s f))).run Try.prog w3 = .ok (.bool false) w3 := by rw [Lw_.eql, decide_eq_false hl]
    clear hl
    go_enter Try.func8, Try.ntmps8
    go_wp2
    refine ret_la2 Try.results8 rfl rfl (S3.out.rs.setRow (nt s f)) rfl ⟨by rw [HA.out]; rfl, below_setRow S3.out.bel (by omega) _⟩


theorem ref19Note_any (l : La) (s f : Int) (w : World) : Calls Try.prog 9 #[Lw_.v l, .int .i64 s, .int .i64 f] w fun e w' => NtPost l s f w e w' := by
  obtain ⟨w1, hw1⟩ : ∃ w1, w.alloc (.cells (Lw_.C l) 23) = w1 := ⟨_, rfl⟩
  obtain ⟨w2, hw2⟩ : ∃ w2, w1.alloc (.cells (Lw_.C zl) 23) = w2 := ⟨_, rfl⟩
  have hw2' : w1.alloc (.cells #[.bool false, .int .i64 0, .int .i64 0] 23) = w2 := hw2
  have hz1 : w1.heap.size = w.heap.size + 1 := by rw [← hw1]; simp
  have bl : Lw_.Box w2 w.heap.size l := by rw [← hw2, ← hw1]; exact (Lw_.Box.new w l).allocC _
  have rs : Lw_.Box w2 (w.heap.size + 1) zl := by rw [← hw2, ← hz1]; exact Lw_.Box.new w1 zl
  have bel : Below w.heap.size w w2 := by rw [← hw2, ← hw1]; exact ((Below.refl _ _).alloc (Nat.le_refl _) _).alloc (by simp) _
  have HB := Lib.hid rs
  have HBL := Lib.hid bel
  have ll := bl.loadF
  have la := bl.all
  clear bel rs
  unfold NtPost
  obtain ⟨lv, lq, lf⟩ := l
  have g0 : (Lw_.C ⟨lv, lq, lf⟩)[0]? = some (.bool lv) := rfl
  have g1 : (Lw_.C ⟨lv, lq, lf⟩)[1]? = some (.int .i64 lq) := rfl
  have g2 : (Lw_.C ⟨lv, lq, lf⟩)[2]? = some (.int .i64 lf) := rfl
  have s1 := HB.out.storeF ⟨lv, lq, lf⟩
  have s2 : (Lw_.StoreF ⟨w.heap.size + 1, 0, none⟩ (.agg #[.bool true, .int .i64 s, .int .i64 f])).run Try.prog w2 = .ok () (w2.setRow (w.heap.size + 1) (Lw_.C (nt s f))) := HB.out.storeF (nt s f)
  have done1 : Hid (lv = true → lq = s → lf = f → (nt s f = ⟨lv, lq, lf⟩ ∧ ag ⟨lv, lq, lf⟩ s f = 1)) := fun h1 h2 h3 => by subst h1 h2 h3; exact ⟨rfl, if_pos rfl⟩
  have done0 : Hid (¬ (lv = true ∧ lq = s ∧ lf = f) → ag ⟨lv, lq, lf⟩ s f = 0) := fun h => if_neg fun e => h (by cases e; exact ⟨rfl, rfl, rfl⟩)
  cases hv : lv
  · subst hv
    have hA := Lib.hid (done0.out (by simp))
    clear done0 done1
    go_enter Try.func9, Try.ntmps9
    go_wp2
    exact ret_la2 Try.results9 rfl rfl (HB.out.setRow (nt s f)) rfl ⟨by rw [hA.out]; rfl, below_setRow HBL.out (by omega) _⟩
  · subst hv
    by_cases hq : lq = s
    · by_cases hf : lf = f
      · obtain ⟨e1, e2⟩ := done1.out rfl hq hf
        have E1 := Lib.hid e1
        have E2 := Lib.hid e2
        clear done0 done1 e1 e2
        have d1 : (lq == s) = true := by rw [beq_iff_eq]; exact hq
        have d2 : (lf == f) = true := by rw [beq_iff_eq]; exact hf
        clear hq hf
        go_enter Try.func9, Try.ntmps9
        go_wp2
        exact ret_la2 Try.results9 rfl rfl (HB.out.setRow ⟨true, lq, lf⟩) rfl ⟨by rw [E1.out, E2.out]; rfl, below_setRow HBL.out (by omega) _⟩
      · have hA := Lib.hid (done0.out (fun h => hf h.2.2))
        clear done0 done1
        have d1 : (lq == s) = true := by rw [beq_iff_eq]; exact hq
        have d2 : (lf == f) = false := by rw [beq_eq_false_iff_ne]; exact hf
        clear hq hf
        go_enter Try.func9, Try.ntmps9
        go_wp2
        exact ret_la2 Try.results9 rfl rfl (HB.out.setRow (nt s f)) rfl ⟨by rw [hA.out]; rfl, below_setRow HBL.out (by omega) _⟩
    · have hA := Lib.hid (done0.out (fun h => hq h.2.1))
      clear done0 done1
      have d1 : (lq == s) = false := by rw [beq_eq_false_iff_ne]; exact hq
      clear hq
      go_enter Try.func9, Try.ntmps9
      go_wp2
      exact ret_la2 Try.results9 rfl rfl (HB.out.setRow (nt s f)) rfl ⟨by rw [hA.out]; rfl, below_setRow HBL.out (by omega) _⟩

/-! Get. -/
theorem idx0 (F : Fl) (w : World) : (Instr.index 42 (Fw_.v F) (.int .i64 0)).run Try.prog w = .ok (Lw_.v F.a0) w := by kernel_rfl
theorem idx1 (F : Fl) (w : World) : (Instr.index 42 (Fw_.v F) (.int .i64 1)).run Try.prog w = .ok (Lw_.v F.a1) w := by kernel_rfl
theorem idx2 (F : Fl) (w : World) : (Instr.index 42 (Fw_.v F) (.int .i64 2)).run Try.prog w = .ok (Lw_.v F.a2) w := by kernel_rfl
theorem idx3 (F : Fl) (w : World) : (Instr.index 42 (Fw_.v F) (.int .i64 3)).run Try.prog w = .ok (Lw_.v F.a3) w := by kernel_rfl
theorem idx4 (F : Fl) (w : World) : (Instr.index 42 (Fw_.v F) (.int .i64 4)).run Try.prog w = .ok (Lw_.v F.a4) w := by kernel_rfl
theorem idx (F : Fl) (k : Nat) (hk : k < 5) (w : World) : (Instr.index 42 (Fw_.v F) (.int .i64 (k : Int))).run Try.prog w = .ok (Lw_.v (F.get k)) w := by
  match k, hk with
  | 0, _ => exact idx0 F w
  | 1, _ => exact idx1 F w
  | 2, _ => exact idx2 F w
  | 3, _ => exact idx3 F w
  | 4, _ => exact idx4 F w
theorem isF_nat {k : Int} (h : isF k = true) : ∃ n : Nat, k = n ∧ n < 5 := by
  have := of_decide_eq_true h
  exact ⟨k.toNat, by omega, by omega⟩

set_option maxRecDepth 100000 in
set_option maxHeartbeats 2000000 in
theorem get_core (m : Option Nat) (F : Fl) (p k : Int) (y : La) (w : World) (hl : ∀ W, Below w.heap.size w W → (Instr.lookup 35 (.map m) (.int .u64 p) false).run Try.prog W = .ok (Fw_.v F) W) (hy : y = if isF k then F.get k.toNat else zl) :
    Calls Try.prog 13 #[.map m, .int .u64 p, .int .i64 k] w fun e w' => e = .returned (Lw_.v y) ∧ Below w.heap.size w w' := by
  obtain ⟨w1, hw1⟩ : ∃ w1, w.alloc (.cells (Lw_.C zl) 23) = w1 := ⟨_, rfl⟩
  have hw1' : w.alloc (.cells #[.bool false, .int .i64 0, .int .i64 0] 23) = w1 := hw1
  have HB : Hid (Lw_.Box w1 w.heap.size zl) := by rw [← hw1]; exact Lw_.Box.new w zl
  have HBL : Hid (Below w.heap.size w w1) := by rw [← hw1]; exact (Below.refl _ _).alloc (Nat.le_refl _) _
  have hlk := hl w1 HBL.out
  have CF := Lib.hid fun w => hiFlow_any k w
  clear hl
  cases hf : isF k
  · rw [hf] at CF hy
    have HY : Hid (y = zl) := hy
    have s2 : (Lw_.StoreF ⟨w.heap.size, 0, none⟩ (.agg #[.bool false, .int .i64 0, .int .i64 0])).run Try.prog w1 = .ok () (w1.setRow w.heap.size (Lw_.C zl)) := HB.out.storeF zl
    clear hy hf hw1
    go_enter Try.func13, Try.ntmps13
    go_wp2_with (go_at_call 21; refine (CF.out _).mono ?_; rintro e w' ⟨rfl, rfl⟩)
    exact ret_la Try.results13 rfl (HB.out.setRow zl) rfl ⟨by rw [HY.out], below_setRow HBL.out (Nat.le_refl _) _⟩
  · rw [hf] at CF hy
    obtain ⟨n, rfl, hn⟩ := isF_nat hf
    have HY : Hid (y = F.get n) := by rw [hy, Int.toNat_natCast]; rfl
    have hx := idx F n hn w1
    have s2 := HB.out.storeF (F.get n)
    clear hy hf hw1 hn
    go_enter Try.func13, Try.ntmps13
    go_wp2_with (go_at_call 21; refine (CF.out _).mono ?_; rintro e w' ⟨rfl, rfl⟩)
    exact ret_la Try.results13 rfl (HB.out.setRow (F.get n)) rfl ⟨by rw [HY.out], below_setRow HBL.out (Nat.le_refl _) _⟩
theorem hiGet_any {b n : Nat} {M : Tb} (p k : Int) (w : World) (h : Tab w b n M) (hp : (Lit.int .u64 p).wf = true) :
    Calls Try.prog 13 #[.map (some b), .int .u64 p, .int .i64 k] w fun e w' => e = .returned (Lw_.v (get M p k)) ∧ Below w.heap.size w w' :=
  get_core (some b) (Hi.look M p) p k _ w (fun _ hW => (h.below hW).look hp) rfl
theorem hiGet_nil (p k : Int) (w : World) (hp : (Lit.int .u64 p).wf = true) :
    Calls Try.prog 13 #[.map none, .int .u64 p, .int .i64 k] w fun e w' => e = .returned (Lw_.v zl) ∧ Below w.heap.size w w' :=
  get_core none zf p k _ w (fun _ _ => look_nil hp) (by rw [zf_get]; split <;> rfl)

/-! Put and Drop. -/
theorem ixa0 (B : Nat) (w : World) : (Instr.indexAt 42 (.pointer (some ⟨B, 0, none⟩)) (.int .i64 0)).run Try.prog w = .ok (.pointer (some ⟨B, 0, none⟩)) w := by kernel_rfl
theorem ixa1 (B : Nat) (w : World) : (Instr.indexAt 42 (.pointer (some ⟨B, 0, none⟩)) (.int .i64 1)).run Try.prog w = .ok (.pointer (some ⟨B, 3, none⟩)) w := by kernel_rfl
theorem ixa2 (B : Nat) (w : World) : (Instr.indexAt 42 (.pointer (some ⟨B, 0, none⟩)) (.int .i64 2)).run Try.prog w = .ok (.pointer (some ⟨B, 6, none⟩)) w := by kernel_rfl
theorem ixa3 (B : Nat) (w : World) : (Instr.indexAt 42 (.pointer (some ⟨B, 0, none⟩)) (.int .i64 3)).run Try.prog w = .ok (.pointer (some ⟨B, 9, none⟩)) w := by kernel_rfl
theorem ixa4 (B : Nat) (w : World) : (Instr.indexAt 42 (.pointer (some ⟨B, 0, none⟩)) (.int .i64 4)).run Try.prog w = .ok (.pointer (some ⟨B, 12, none⟩)) w := by kernel_rfl
theorem ixa (B k : Nat) (hk : k < 5) (w : World) : (Instr.indexAt 42 (.pointer (some ⟨B, 0, none⟩)) (.int .i64 (k : Int))).run Try.prog w = .ok (.pointer (some ⟨B, k * 3, none⟩)) w := by
  match k, hk with
  | 0, _ => exact ixa0 B w
  | 1, _ => exact ixa1 B w
  | 2, _ => exact ixa2 B w
  | 3, _ => exact ixa3 B w
  | 4, _ => exact ixa4 B w
theorem fw_there {W : World} {b : Nat} {F : Fl} (h : Fw_.Box W b F) (o n : Nat) (ho : o + n ≤ 15) : W.there b o n := fun j hj => by
  refine ⟨?_, h.frozen _⟩
  rw [h.all (o + j)]
  have : o + j < (Fw_.C F).size := by rw [Fw_.Csize]; omega
  rw [Array.getElem?_eq_getElem this]; rfl
/-- The world behind a store of one of the five. -/
def setL (W : World) (b k : Nat) (x : La) : World := W.setCells b (k * 3) (Lw_.C x).toList
theorem fw_store {W : World} {b : Nat} {F : Fl} (h : Fw_.Box W b F) (k : Nat) (hk : k < 5) (x : La) : (Lw_.StoreF ⟨b, k * 3, none⟩ (Lw_.v x)).run Try.prog W = .ok () (setL W b k x) :=
  run_storeVar_mid W b (k * 3) 23 (Lw_.C x) (fw_there h (k * 3) 3 (by omega)) Lw_.sz (by simp [Lw_.C, Value.oneCell'])
theorem fw_set {W : World} {b : Nat} {F : Fl} (h : Fw_.Box W b F) (k : Nat) (hk : k < 5) (x : La) : Fw_.Box (setL W b k x) b (F.set k x) := by
  match k, hk with
  | 0, _ => exact ((h.set0 x.v).set1 x.q).set2 x.f
  | 1, _ => exact ((h.set3 x.v).set4 x.q).set5 x.f
  | 2, _ => exact ((h.set6 x.v).set7 x.q).set8 x.f
  | 3, _ => exact ((h.set9 x.v).set10 x.q).set11 x.f
  | 4, _ => exact ((h.set12 x.v).set13 x.q).set14 x.f
theorem setL_below {W w : World} {b B : Nat} (hb : Below B w W) (h : B ≤ b) (k : Nat) (x : La) : Below B w (setL W b k x) :=
  ((hb.setCell (p := ⟨b, k * 3, none⟩) h (.bool x.v)).setCell (p := ⟨b, k * 3 + 1, none⟩) h (.int .i64 x.q)).setCell (p := ⟨b, k * 3 + 1 + 1, none⟩) h (.int .i64 x.f)
theorem nil_ne (b : Nat) (w : World) : (binOp .eql 35 (.map (some b)) (.map none)).run Try.prog w = .ok (.bool false) w := rfl
theorem nil_eq (w : World) : (binOp .eql 35 (.map none) (.map none)).run Try.prog w = .ok (.bool true) w := rfl

set_option maxRecDepth 100000 in
set_option maxHeartbeats 2000000 in
theorem hiPut_any {b n : Nat} {M : Tb} (p k : Int) (x : La) (w : World) (h : Tab w b n M) (hn : n < maxLen) (hp : (Lit.int .u64 p).wf = true) :
    Calls Try.prog 15 #[.map (some b), .int .u64 p, .int .i64 k, Lw_.v x] w fun e w' => e = .returned (.tuple #[]) ∧ Tab w' b (n + 1) (put M p k x) ∧ w.grownBy w' (some b) := by
  obtain ⟨w1, hw1⟩ : ∃ w1, w.alloc (.cells (Lw_.C x) 23) = w1 := ⟨_, rfl⟩
  have HB : Hid (Lw_.Box w1 w.heap.size x) := by rw [← hw1]; exact Lw_.Box.new w x
  have HBL : Hid (Below w.heap.size w w1) := by rw [← hw1]; exact (Below.refl _ _).alloc (Nat.le_refl _) _
  have hz1 : w1.heap.size = w.heap.size + 1 := by rw [← hw1]; simp
  have hne := nil_ne b w1
  have CF := Lib.hid fun w => hiFlow_any k w
  cases hf : isF k
  · rw [hf] at CF
    have HY : Hid (put M p k x = M) := by unfold put; rw [hf]; rfl
    have HT := Lib.hid ((h.below HBL.out).mono (Nat.le_succ n))
    have HG := Lib.hid (grownBy_below (r := some b) HBL.out)
    clear hf h hn hp
    go_enter Try.func15, Try.ntmps15
    go_wp2_with (go_at_call 21; refine (CF.out _).mono ?_; rintro e w' ⟨rfl, rfl⟩)
    go_returns
    exact ⟨rfl, by rw [HY.out]; exact HT.out, HG.out⟩
  · rw [hf] at CF
    obtain ⟨i, rfl, hi⟩ := isF_nat hf
    have HY : Hid (put M p (i : Int) x = ins M p ((Hi.look M p).set i x)) := by unfold put; rw [hf, Int.toNat_natCast]; rfl
    have h1 := h.below HBL.out
    have hlk := h1.look hp
    generalize Hi.look M p = F at *
    obtain ⟨w2, hw2⟩ : ∃ w2, w1.alloc (.cells (Fw_.C F) 42) = w2 := ⟨_, rfl⟩
    have sf : (Fw_.StoreF ⟨w.heap.size + 1, 0, none⟩ (Fw_.v F)).run Try.prog (w1.alloc (.cells (Fw_.C zf) 42)) = .ok () w2 := by
      rw [← hw2, ← hz1]; exact Fw_.storeF_new w1 zf F
    have hlt : b < w1.heap.size := h1.lt
    have b2 : Below w1.heap.size w1 w2 := by rw [← hw2]; exact (Below.refl _ _).alloc (Nat.le_refl _) _
    have ll := (HB.out.below b2 (by omega)).loadF
    have bf : Fw_.Box w2 (w.heap.size + 1) F := by rw [← hw2, ← hz1]; exact Fw_.Box.new w1 F
    have hx := ixa (w.heap.size + 1) i hi w2
    have ss := fw_store bf i hi x
    obtain ⟨w3, hw3⟩ : ∃ w3, setL w2 (w.heap.size + 1) i x = w3 := ⟨_, rfl⟩
    rw [hw3] at ss
    have bf3 : Fw_.Box w3 (w.heap.size + 1) (F.set i x) := hw3 ▸ fw_set bf i hi x
    have lf := bf3.loadF
    have b3 : Below w1.heap.size w1 w3 := hw3 ▸ setL_below b2 (by omega) i x
    obtain ⟨w4, hup, ht, hm⟩ := (h1.below b3).store hn hp (F.set i x)
    have HT : Hid (Tab w4 b (n + 1) (put M p (i : Int) x)) := by rw [HY.out]; exact ht
    have HG := Lib.hid (grownBy_trans (grownBy_below (r := some b) (HBL.out.trans (b3.mono (by omega)))) hm.grown)
    have hzf : w1.alloc (.cells #[.bool false, .int .i64 0, .int .i64 0, .bool false, .int .i64 0, .int .i64 0, .bool false, .int .i64 0, .int .i64 0, .bool false, .int .i64 0, .int .i64 0, .bool false, .int .i64 0, .int .i64 0] 42) = w1.alloc (.cells (Fw_.C zf) 42) := rfl
    clear hf h hn hp hw3 hw2 b3 b2 h1 ht hm bf bf3 hi HY hlt
    go_enter Try.func15, Try.ntmps15
    go_wp2_with (go_at_call 21; refine (CF.out _).mono ?_; rintro e w' ⟨rfl, rfl⟩)
    go_returns
    exact ⟨rfl, HT.out, HG.out⟩
end Go.Proofs.Ytacjdgglfeemcaa
