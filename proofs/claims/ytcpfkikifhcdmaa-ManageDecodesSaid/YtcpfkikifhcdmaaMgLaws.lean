/-
  THE LAWS of layer 15: ManageExact.
-/
import Derived.Test.YtcpfkikifhcdmaaMgLives
import Derived.Test.YtcpfkikifhcdmaaMgRt2
namespace Go.Proofs.Ytcpfkikifhcdmaa
open Go.RowKit Go.Mg Go.Wr
attribute [local go_sem ↓ high] Bd_.loadF Bd_.storeF Bd_.v_cells Bd_.v_match Bd_.loadP
attribute [local go_sem] Bd_.C0 Bd_.C4 Bd_.loadF_new Bd_.storeF_zero Bd_.storeF_new

/-- A body in its block, all else as it was. -/
structure Lst (w : World) (B : Nat) (y : Bd) (wi : World) : Prop where
  box : Bd_.Box wi B y
  bel : Below w.heap.size w wi
theorem Lst.keep {w wi w' : World} {B : Nat} {y : Bd} (h : Lst w B y wi) (hb : Below wi.heap.size wi w') : Lst w B y w' := ⟨h.box.below hb h.box.lt, h.bel.trans (hb.mono h.bel.size)⟩
theorem Lst.keep' {w : World} {B : Nat} {y : Bd} (wi w' : World) (h : Lst w B y wi) (hb : Below wi.heap.size wi w') : Lst w B y w' := h.keep hb
theorem Lst.drew {w wi : World} {B : Nat} {y : Bd} (h : Lst w B y wi) : Lst w B y wi.drew := h.keep (Below.refl _ _).drew
theorem Lst.new {w wi : World} (hb : Below w.heap.size w wi) (y : Bd) : Lst w wi.heap.size y (wi.alloc (.cells (Bd_.C y) 27)) := ⟨Bd_.Box.new wi y, hb.alloc hb.size _⟩
theorem Lst.alloc {w wi : World} {B : Nat} {y : Bd} (h : Lst w B y wi) (o : Obj) : Lst w B y (wi.alloc o) := h.keep ((Below.refl _ _).alloc (Nat.le_refl _) _)

set_option maxRecDepth 100000 in
set_option maxHeartbeats 8000000 in
theorem manageExact_walk1 (k : Int) (s : ByteArray) (W : World) :
    Calls Try.prog 6 #[.int .i64 k, .string s] W fun e W' => e = .returned (.bool true) ∧ Below W.heap.size W W' := by
  have CL := Lib.hid fun w => awake15_any w
  by_cases hl : 3000 < s.size
  · have hl' : (3000 : Int) < (s.size : Int) := by omega
    clear hl
    go_enter Try.func6, Try.ntmps6
    go_wp2_with (go_at_call 7; refine (CL.out _).mono ?_; rintro e w1 ⟨rfl, hb⟩; have B1 := Lib.hid hb; clear hb)
    go_ret
    exact ⟨rfl, B1.out⟩
  have hl' : ¬ (3000 : Int) < (s.size : Int) := by omega
  have CD := Lib.hid fun w => mgDecode_any k s w
  clear hl
  by_cases h0 : dcE k s = 0
  case neg =>
    rw [dec_bad h0] at CD
    have h0' : (dcE k s != 0) = true := by simp [h0]
    have hbe := fun W => bd_eql zb zb W
    simp only [decide_true] at hbe
    have hbg := fun op a b => bd_guard op a b zb zb
    have hfold : (.agg #[.int .i64 0, .int .i64 0, .int .i64 0, .int .i64 0, .string ⟨#[]⟩, .int .i64 0, .int .i64 0, .int .u64 0, .int .i64 0, .int .i64 0, .int .i64 0, .int .i64 0, .int .i64 0, .int .i64 0, .int .i64 0, .int .i64 0, .int .i64 0] : Value) = Bd_.v zb := rfl
    have hbe2 : ∀ W : World, (binOp .eql 27 (Bd_.v zb) (.agg (Bd_.C zb))).run Try.prog W = .ok (.bool true) W := hbe
    have hbg2 : ∀ (op : BinOp) (a b : Operand) (W : World), (eqGuard op 27 a b (Bd_.v zb) (.agg (Bd_.C zb))).run Try.prog W = .ok () W := hbg
    generalize zb = y at *
    generalize dcE k s = r at *
    clear h0
    go_enter Try.func6, Try.ntmps6
    go_wp2_with (first
      | (go_at_call 14; refine (CD.out _).mono ?_; rintro e w1 ⟨rfl, hb⟩; have L1 := Lib.hid (Lst.new hb y); have l1 := L1.out.box.loadF; clear hb)
      | (go_at_call 7; refine (CL.out _).mono ?_; rintro e w2 ⟨rfl, hb⟩; have L2 := Lib.hid (L1.out.keep hb); clear hb))
    go_ret
    exact ⟨rfl, L2.out.bel⟩
  case pos =>
    obtain ⟨d1, d2, d3, d4, d5⟩ := dec_zero h0
    rw [h0] at CD
    have CE : Hid (∀ w, Calls Try.prog 8 #[Bd_.v (dcB k s)] w fun e w' => e = .returned (.tuple #[.string s, .int .i64 0]) ∧ Below w.heap.size w w') := fun w => by
      have := mgEncode_any (dcB k s) w d2
      rw [d3, d1] at this
      exact this
    have CC : Hid (∀ w, Calls Try.prog 10 #[Bd_.v (dcB k s)] w fun e w' => e = .returned (.int .i64 0) ∧ Below w.heap.size w w') := fun w => by
      have := mgCheck_any (dcB k s) w d2
      rw [d1] at this
      exact this
    have CF := Lib.hid fun w => mgFrame_any (dcB k s) w
    rw [d5] at CF
    have hf : (fst k != 0) = true := by simp [d4]
    generalize fst k = fk at *
    generalize dcB k s = y at *
    clear h0 d1 d2 d3 d4 d5
    go_enter Try.func6, Try.ntmps6
    go_wp2_with (first
      | (go_at_call 14; refine (CD.out _).mono ?_; rintro e w1 ⟨rfl, hb⟩; have L1 := Lib.hid (Lst.new hb y); have l1 := L1.out.box.loadF; clear hb)
      | (go_at_call 8; refine (CE.out _).mono ?_; rintro e w2 ⟨rfl, hb⟩; have L2 := Lib.hid (L1.out.keep hb); have l2 := L2.out.box.loadF; clear hb)
      | (go_at_call 10; refine (CC.out _).mono ?_; rintro e w3 ⟨rfl, hb⟩; have L3 := Lib.hid (L2.out.keep hb); have l3 := L3.out.box.loadF; clear hb)
      | (go_at_call 12; refine (CF.out _).mono ?_; rintro e w4 ⟨rfl, hb⟩; have L4 := Lib.hid (L3.out.keep hb); clear hb)
      | (go_at_call 7; refine (CL.out _).mono ?_; rintro e w5 ⟨rfl, hb⟩; have L5 := Lib.hid (L4.out.keep hb); clear hb))
    go_ret
    exact ⟨rfl, L5.out.bel⟩
end Go.Proofs.Ytcpfkikifhcdmaa
