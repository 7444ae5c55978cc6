/-
  THE LAWS of layer 14: what all of them end in (home, lives).
-/
import Derived.Test.YtojiffpmmgjpjaaDoorBnDec
import Derived.Test.YtojiffpmmgjpjaaDoorBnEnc2
import Derived.Test.YtojiffpmmgjpjaaDoorBnEq
namespace Go.Bn
def hm : Bn := ⟨1000, 100, ⟨#[104, 111, 109, 101]⟩, 1, 0, ⟨1, 2, false, 0⟩, 0, 0, ⟨7, 4, 10, 0⟩, ⟨3, 4, 10, 0⟩, ⟨2, 3, 4, 94⟩, ⟨2, 2, 3, 47⟩⟩
theorem hm_tm : TmW hm.tm := ⟨by decide, by decide⟩
theorem hm_chk : chk hm = 0 := by decide +kernel
theorem hm_size : (enc hm).size = 47 := by decide +kernel
theorem knl_els (b : Bn) : knl (els b) = els b := by
  unfold knl
  exact List.filter_eq_self.2 (els_kn b)
theorem hm_dec : decE (enc hm) = 0 ∧ decB (enc hm) = hm := dec_octs hm_chk hm_tm (knl_els hm) (els_chk (chk_ok.1 hm_chk) hm_tm)
def b1 : Bn := { zb with iv := 1 }
theorem b1_tm : TmW b1.tm := ⟨by decide, by decide⟩
theorem b1_chk : chk b1 = 1 := by decide +kernel
theorem abc_dec : decE ⟨#[97, 98, 99]⟩ = 1 ∧ decB ⟨#[97, 98, 99]⟩ = zb := by
  have h : rdE ⟨#[97, 98, 99]⟩ = 1 := rdE_short (by decide)
  have e : decE ⟨#[97, 98, 99]⟩ = 1 := (if_neg (by rw [h]; decide)).trans h
  exact ⟨e, if_neg (by rw [e]; decide)⟩
end Go.Bn

namespace Go.Proofs.YtojiffpmmgjpjaaDoor
open Go.RowKit Go.Bn Go.Wr
attribute [local go_sem ↓ high] Bn_.loadF Bn_.storeF Bn_.v_cells Bn_.v_match
attribute [local go_sem] Bn_.loadF_new Bn_.storeF_zero

set_option maxRecDepth 100000 in
set_option maxHeartbeats 2000000 in
theorem bnDefault_any (w : World) :
    Calls Tryd.prog 19 #[] w fun e w' => e = .returned (.agg #[.int .i64 7, .int .i64 4, .int .i64 10, .int .i64 0, .int .i64 3, .int .i64 4, .int .i64 10, .int .i64 0, .int .i64 2, .int .i64 3, .int .i64 4, .int .i64 94, .int .i64 2, .int .i64 2, .int .i64 3, .int .i64 47]) ∧ Below w.heap.size w w' := by
  go_enter Tryd.func19, Tryd.ntmps19
  go_wp2
  exact bodyPost_ret (by simp [results, Tryd.results19, go_sem]) rfl ⟨rfl, (Below.refl _ _).alloc (Nat.le_refl _) _⟩

/-- A beacon handed back out of a result's cell. -/
theorem ret_bn1 {fn : Func} {p : Tmp} (hr : fn.results = #[.cell p 31]) {tmps : Array Value} {ds : _} {w : World} {g : Nat} {y : Bn} {R : Ending → World → Prop} (hp : tmps.getD p undef = .pointer (some ⟨g, 0, none⟩)) (hb : Bn_.Box w g y) (hd : ds = []) (hR : R (.returned (Bn_.v y)) w) :
    bodyPost Tryd.prog fn R .ret ⟨tmps, ds⟩ w :=
  bodyPost_ret (results_cell_row hr tmps w g 31 (Bn_.C y) (0, 0) _ hp hb Tryd.underlying31 rfl Bn_.sz) hd hR

set_option maxRecDepth 100000 in
set_option maxHeartbeats 2000000 in
theorem home14_any (w : World) :
    Calls Tryd.prog 18 #[] w fun e w' => e = .returned (Bn_.v hm) ∧ Below w.heap.size w w' := by
  obtain ⟨w1, hw1⟩ : ∃ w1, w.alloc (.cells (Bn_.C zb) 31) = w1 := ⟨_, rfl⟩
  have hw1' : w.alloc (.cells #[.int .i64 0, .int .i64 0, .string ⟨#[]⟩, .int .i64 0, .int .i64 0, .int .i64 0, .int .i64 0, .bool false, .int .u64 0, .int .i64 0, .int .i64 0, .int .i64 0, .int .i64 0, .int .i64 0, .int .i64 0, .int .i64 0, .int .i64 0, .int .i64 0, .int .i64 0, .int .i64 0, .int .i64 0, .int .i64 0, .int .i64 0, .int .i64 0, .int .i64 0, .int .i64 0, .int .i64 0] 31) = w1 := hw1
  have S1 := Lib.hid (show Stb w zb w1 from hw1 ▸ Stb.new w zb)
  have hf : (.agg #[.int .i64 1000, .int .i64 100, .string ⟨#[104, 111, 109, 101]⟩, .int .i64 1, .int .i64 0, .int .i64 1, .int .i64 2, .bool false, .int .u64 0, .int .i64 0, .int .i64 0, .int .i64 7, .int .i64 4, .int .i64 10, .int .i64 0, .int .i64 3, .int .i64 4, .int .i64 10, .int .i64 0, .int .i64 2, .int .i64 3, .int .i64 4, .int .i64 94, .int .i64 2, .int .i64 2, .int .i64 3, .int .i64 47] : Value) = Bn_.v hm := rfl
  clear hw1
  go_enter Tryd.func18, Tryd.ntmps18
  go_wp2_with (go_at_call 19; refine (bnDefault_any _).mono ?_; rintro e w2 ⟨rfl, hb⟩; have S2 := Lib.hid (S1.out.keep hb); have sf := S2.out.box.storeF hm; clear hb)
  exact ret_bn1 Tryd.results18 rfl (S2.out.box.setRow hm) rfl ⟨rfl, below_setRow S2.out.bel (Nat.le_refl _)⟩

/-- The table lies, a beacon in its block, all else as it was. -/
structure Lst (w : World) (B : Nat) (y : Bn) (wi : World) : Prop where
  tab : KnTab wi
  box : Bn_.Box wi B y
  bel : Below w.heap.size w wi
theorem Lst.keep {w : World} {B : Nat} {y : Bn} (wi w' : World) (h : Lst w B y wi) (hb : Below wi.heap.size wi w') : Lst w B y w' := ⟨h.tab.keep hb, h.box.below hb h.box.lt, h.bel.trans (hb.mono h.bel.size)⟩
theorem Lst.new {w wi : World} (ht : KnTab wi) (hb : Below w.heap.size w wi) (y : Bn) : Lst w wi.heap.size y (wi.alloc (.cells (Bn_.C y) 31)) :=
  ⟨ht.keep ((Below.refl _ _).alloc (Nat.le_refl _) _), Bn_.Box.new wi y, hb.alloc hb.size _⟩
theorem Lst.drew {w wi : World} {B : Nat} {y : Bn} (h : Lst w B y wi) : Lst w B y wi.drew := Lst.keep _ _ h (Below.refl _ _).drew

theorem ix14 (W : World) : (Instr.index 29 (.agg #[.int .i64 7, .int .i64 4, .int .i64 10, .int .i64 0, .int .i64 3, .int .i64 4, .int .i64 10, .int .i64 0, .int .i64 2, .int .i64 3, .int .i64 4, .int .i64 94, .int .i64 2, .int .i64 2, .int .i64 3, .int .i64 47]) (.int .i64 3)).run Tryd.prog W = .ok (.agg #[.int .i64 2, .int .i64 2, .int .i64 3, .int .i64 47]) W := Bn_.q_at hm 3 (by decide) W
theorem peq14 (W : World) : (binOp .eql 28 (.agg #[.int .i64 2, .int .i64 2, .int .i64 3, .int .i64 47]) (.agg #[.int .i64 2, .int .i64 2, .int .i64 3, .int .i64 47])).run Tryd.prog W = .ok (.bool true) W := by
  have h : (Op.equalIn 10000 28 (.agg (Bn_.PC ⟨2, 2, 3, 47⟩)) (.agg (Bn_.PC ⟨2, 2, 3, 47⟩))).run Tryd.prog W = .ok true W := params_eq ⟨2, 2, 3, 47⟩ 9998 W
  show (binOp .eql 28 (.agg (Bn_.PC ⟨2, 2, 3, 47⟩)) (.agg (Bn_.PC ⟨2, 2, 3, 47⟩))).run Tryd.prog W = _
  rw [run_eql_struct, h]; rfl
theorem pgd14 (op : BinOp) (a b : Operand) (W : World) : (eqGuard op 28 a b (.agg #[.int .i64 2, .int .i64 2, .int .i64 3, .int .i64 47]) (.agg #[.int .i64 2, .int .i64 2, .int .i64 3, .int .i64 47])).run Tryd.prog W = .ok () W :=
  run_eqGuard_agg W op _ a b _ _ (by kernel_rfl)

set_option maxRecDepth 100000 in
set_option maxHeartbeats 8000000 in
theorem lives14_any (w : World) (ht : KnTab w) :
    Calls Tryd.prog 8 #[] w fun e w' => e = .returned (.bool true) ∧ Below w.heap.size w w' := by
  have CE : Hid (∀ w, Calls Tryd.prog 9 #[Bn_.v hm] w fun e w' => e = .returned (.tuple #[.string (enc hm), .int .i64 0]) ∧ Below w.heap.size w w') := fun w => by
    have := bnEncode_any hm w hm_tm
    rw [show encR hm = enc hm from if_pos hm_chk, hm_chk] at this
    exact this
  have CD : Hid (∀ w, KnTab w → Calls Tryd.prog 11 #[.string (enc hm)] w fun e w' => e = .returned (.tuple #[Bn_.v hm, .int .i64 0]) ∧ Below w.heap.size w w') := fun w ht => by
    have := bnDecode_any (enc hm) w (by rw [hm_size]; decide) ht
    rw [hm_dec.1, hm_dec.2] at this
    exact this
  have CE1 : Hid (∀ w, Calls Tryd.prog 9 #[Bn_.v b1] w fun e w' => e = .returned (.tuple #[.string ⟨#[]⟩, .int .i64 1]) ∧ Below w.heap.size w w') := fun w => by
    have := bnEncode_any b1 w b1_tm
    rw [show encR b1 = ⟨#[]⟩ from if_neg (by rw [b1_chk]; decide), b1_chk] at this
    exact this
  have CD1 : Hid (∀ w, KnTab w → Calls Tryd.prog 11 #[.string ⟨#[97, 98, 99]⟩] w fun e w' => e = .returned (.tuple #[Bn_.v zb, .int .i64 1]) ∧ Below w.heap.size w w') := fun w ht => by
    have := bnDecode_any ⟨#[97, 98, 99]⟩ w (by decide) ht
    rw [abc_dec.1, abc_dec.2] at this
    exact this
  have hsz : ((enc hm).size : Int) = 47 := by rw [hm_size]; rfl
  have hf : (.agg #[.int .i64 0, .int .i64 1, .string ⟨#[]⟩, .int .i64 0, .int .i64 0, .int .i64 0, .int .i64 0, .bool false, .int .u64 0, .int .i64 0, .int .i64 0, .int .i64 0, .int .i64 0, .int .i64 0, .int .i64 0, .int .i64 0, .int .i64 0, .int .i64 0, .int .i64 0, .int .i64 0, .int .i64 0, .int .i64 0, .int .i64 0, .int .i64 0, .int .i64 0, .int .i64 0, .int .i64 0] : Value) = Bn_.v b1 := rfl
  generalize enc hm = E at *
  have HT := Lib.hid ht
  have hix := ix14
  have hpe := peq14
  have hpg := pgd14
  have hbe := bn_eql hm
  have hbg := fun op a b => bn_guard op a b hm hm
  clear ht
  go_enter Tryd.func8, Tryd.ntmps8
  go_wp2_with (first
    | (go_at_call 18; refine (home14_any _).mono ?_; rintro e w2 ⟨rfl, hb⟩; have B2 := Lib.hid hb; clear hb)
    | (go_at_call 9; with_reducible refine (CE1.out _).mono ?_; rintro e w5 ⟨rfl, hb⟩; have L5 := Lib.hid (Lst.keep _ _ L4.out hb); clear hb)
    | (go_at_call 9; with_reducible refine (CE.out _).mono ?_; rintro e w3 ⟨rfl, hb⟩; have B3 := Lib.hid (B2.out.trans (hb.mono B2.out.size)); clear hb)
    | (go_at_call 11; with_reducible refine (CD1.out _ L5.out.tab).mono ?_; rintro e w6 ⟨rfl, hb⟩; have L6 := Lib.hid (Lst.keep _ _ (Lst.keep _ _ L5.out hb) ((Below.refl _ _).alloc (Nat.le_refl _) (.cells (Bn_.C zb) 31))); clear hb)
    | (go_at_call 11; with_reducible refine (CD.out _ (HT.out.below B3.out HT.out.lt)).mono ?_; rintro e w4 ⟨rfl, hb⟩; have B4 := Lib.hid (B3.out.trans (hb.mono B3.out.size)); have L4 := Lib.hid (Lst.new (HT.out.below B4.out HT.out.lt) B4.out hm); clear hb))
  have hl : ∀ p : Of (Lst w w4.heap.size hm), (Bn_.LoadF ⟨w4.heap.size, 0, none⟩).run Tryd.prog p.w = .ok (Bn_.v hm) p.w := fun p => p.ok.box.loadF
  have _ne : Nonempty (Of (Lst w w4.heap.size hm)) := ⟨⟨_, L6.out⟩⟩
  refine wp_region_of (Lst w w4.heap.size hm) (by kernel_rfl) (by kernel_rfl) L6.out.drew ?_
  repeat (quiet_step (first
    | (go_at_call 18; exact Calls.of_below Lst.keep (home14_any _))
    | (go_at_call 19; exact Calls.of_below Lst.keep (bnDefault_any _))))
  refine wpQuiet_nil ?_
  rintro _ ⟨p, rfl⟩
  go_wp2
  go_ret
  exact ⟨rfl, p.ok.bel⟩
end Go.Proofs.YtojiffpmmgjpjaaDoor
