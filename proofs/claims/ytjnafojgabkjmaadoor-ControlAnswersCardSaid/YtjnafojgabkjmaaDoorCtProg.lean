/-
  WALKS of the landed package control (1e08cd0): Respond, inRange, answerable, asksForBlock, RTS, Poll, answer, CTS, Ack.
-/
import Derived.Test.YtjnafojgabkjmaaDoorFrRet
import Derived.Test.YtjnafojgabkjmaaDoorCtMath
import Derived.Test.YtjnafojgabkjmaaDoorHdProgCheck
import Derived.Test.YtjnafojgabkjmaaDoorHdProgLen
import Derived.Test.YtjnafojgabkjmaaDoorPhSlots
import Derived.Lib.MinMax
namespace Go.Proofs.YtjnafojgabkjmaaDoor
open Go.RowKit Go.Hd Go.Wr Go.Ct
attribute [local go_sem ↓ high] Fr_.loadF Fr_.storeF Fr_.v_cells Fr_.v_match
attribute [local go_sem] Fr_.C0 Fr_.C1 Fr_.C2 Fr_.C3 Fr_.C4 Fr_.C5 Fr_.C6 Fr_.C7 Fr_.C8 Fr_.C9 Fr_.C10 Fr_.C11 Fr_.C12 Fr_.C13 Fr_.C14 Fr_.C15 Fr_.C16 Fr_.C17 Fr_.storeF_zero

/-- A literal frame folded. -/
theorem mk_fold (k d ta fa : Int) (bo : ByteArray) : (.agg #[.int .i64 k, .bool false, .bool false, .bool false, .bool false, .bool false, .bool false, .int .i64 0, .int .i64 d, .int .u64 ta, .int .u64 fa, .int .u64 0, .int .i64 0, .int .i64 0, .int .i64 0, .int .i64 0, .int .i64 0, .string bo] : Value) = Fr_.v (mkF k d ta fa bo) := rfl
theorem i64_of {z : Int} (h : (Lit.int .i64 z).wf = true) : -9223372036854775808 ≤ z ∧ z ≤ 9223372036854775807 := by
  simp [Lit.wf, IntKind.min, IntKind.max, IntKind.signed, IntKind.bits] at h
  exact ⟨by omega, by omega⟩

theorem inRange_any (c s : Int) (w : World) :
    Calls Tryd.prog 39 #[.int .i64 c, .int .i64 s] w fun e w' => e = .returned (.bool (decide (win c s))) ∧ w = w' := by
  by_cases h0 : 0 ≤ c <;> by_cases h1 : c < 4 <;> by_cases h2 : 0 ≤ s <;> by_cases h3 : s < 4096
  all_goals
    first
      | rw [decide_eq_true (show win c s from ⟨⟨h0, h1⟩, h2, h3⟩)]
      | rw [decide_eq_false (show ¬ win c s from fun h => by unfold win at h; omega)]
    go_enter Tryd.func39, Tryd.ntmps39
    go_wp2
    go_returns
    exact ⟨rfl, rfl⟩

theorem respond_any (d s : Int) (w : World) (hd : (Lit.int .i64 d).wf = true) (hs : (Lit.int .i64 s).wf = true) :
    Calls Tryd.prog 21 #[.int .i64 d, .int .i64 s] w fun e w' => e = .returned (.int .i64 (rsd d s)) ∧ w = w' := by
  have bd := i64_of hd
  have bs := i64_of hs
  clear hd hs
  go_enter Tryd.func21, Tryd.ntmps21
  go_wp2
  go_returns
  exact ⟨congrArg (fun x => Ending.returned (.int .i64 x)) (rsd_max d s), rfl⟩

set_option maxRecDepth 100000 in
set_option maxHeartbeats 2000000 in
theorem answerable_any (f : Fr) (w : World) (ht : HdTab w) (hu : FrU f) :
    Calls Tryd.prog 30 #[Fr_.v f] w fun e w' => e = .returned (.bool (decide (ans f))) ∧ Below w.heap.size w w' := by
  have S1 := Lib.hid (Stf.new w f)
  have CC := Lib.hid (fun w1 h => progCheck_any f w1 h hu)
  have HT : Hid (∀ w1, Below w.heap.size w w1 → HdTab w1) := fun w1 hb => HdTab.below ht hb (Nat.le_refl _)
  have CG := Lib.hid (fun w => group10 f.ta w hu.ta)
  have l1 := S1.out.box.loadF
  by_cases h : chk f = 0
  · have hc : (chk f == 0) = true := by rw [h]; rfl
    by_cases hg : grp f.ta
    · rw [decide_eq_false (show ¬ ans f from fun h => h.2 hg)]
      rw [decide_eq_true hg] at CG
      clear h hg ht hu
      go_enter Tryd.func30, Tryd.ntmps30
      go_wp2_with (first
        | (go_at_call 12; refine (CC.out _ (HT.out _ S1.out.bel)).mono ?_; rintro e w2 ⟨rfl, hb⟩; have S2 := Lib.hid (Stf.keep _ _ S1.out hb); clear hb l1; have e2 := S2.out.box.all)
        | (go_at_call 55; refine (CG.out _).mono ?_; rintro e w3 ⟨rfl, rfl⟩))
      go_returns
      exact ⟨rfl, S2.out.bel⟩
    · rw [decide_eq_true (show ans f from ⟨h, hg⟩)]
      rw [decide_eq_false hg] at CG
      clear h hg ht hu
      go_enter Tryd.func30, Tryd.ntmps30
      go_wp2_with (first
        | (go_at_call 12; refine (CC.out _ (HT.out _ S1.out.bel)).mono ?_; rintro e w2 ⟨rfl, hb⟩; have S2 := Lib.hid (Stf.keep _ _ S1.out hb); clear hb l1; have e2 := S2.out.box.all)
        | (go_at_call 55; refine (CG.out _).mono ?_; rintro e w3 ⟨rfl, rfl⟩))
      go_returns
      exact ⟨rfl, S2.out.bel⟩
  · have hc : (chk f == 0) = false := by rw [beq_eq_false_iff_ne]; exact h
    rw [decide_eq_false (show ¬ ans f from fun hh => h hh.1)]
    clear h ht hu
    go_enter Tryd.func30, Tryd.ntmps30
    go_wp2_with (first
      | (go_at_call 12; refine (CC.out _ (HT.out _ S1.out.bel)).mono ?_; rintro e w2 ⟨rfl, hb⟩; have S2 := Lib.hid (Stf.keep _ _ S1.out hb); clear hb l1; have e2 := S2.out.box.all)
      | (go_at_call 55; refine (CG.out _).mono ?_; rintro e w3 ⟨rfl, rfl⟩))
    go_returns
    exact ⟨rfl, S2.out.bel⟩

set_option maxRecDepth 100000 in
set_option maxHeartbeats 2000000 in
theorem asks_any (f : Fr) (w : World) :
    Calls Tryd.prog 42 #[Fr_.v f] w fun e w' => e = .returned (.bool (decide (asks f))) ∧ Below w.heap.size w w' := by
  have S1 := Lib.hid (Stf.new w f)
  have e1 := S1.out.box.all
  have hb := S1.out.bel
  by_cases h0 : f.kd = 15
  · have a0 : (f.kd == 15) = true := by rw [h0]; rfl
    rw [decide_eq_true (show asks f from .inl h0)]
    clear h0
    go_enter Tryd.func42, Tryd.ntmps42
    go_wp2
    go_returns
    exact ⟨rfl, S1.out.bel⟩
  · have a0 : (f.kd == 15) = false := by rw [beq_eq_false_iff_ne]; exact h0
    by_cases h1 : f.kd = 18
    · have a1 : (f.kd == 18) = true := by rw [h1]; rfl
      by_cases h2 : f.po = 2
      · have a2 : (f.po == 2) = true := by rw [h2]; rfl
        rw [decide_eq_true (show asks f from .inr ⟨h1, h2⟩)]
        clear h0 h1 h2
        go_enter Tryd.func42, Tryd.ntmps42
        go_wp2
        go_returns
        exact ⟨rfl, S1.out.bel⟩
      · have a2 : (f.po == 2) = false := by rw [beq_eq_false_iff_ne]; exact h2
        rw [decide_eq_false (show ¬ asks f from fun h => h.elim h0 (fun h => h2 h.2))]
        clear h0 h1 h2
        go_enter Tryd.func42, Tryd.ntmps42
        go_wp2
        go_returns
        exact ⟨rfl, S1.out.bel⟩
    · have a1 : (f.kd == 18) = false := by rw [beq_eq_false_iff_ne]; exact h1
      rw [decide_eq_false (show ¬ asks f from fun h => h.elim h0 (fun h => h1 h.1))]
      clear h0 h1
      go_enter Tryd.func42, Tryd.ntmps42
      go_wp2
      go_returns
      exact ⟨rfl, S1.out.bel⟩

set_option maxRecDepth 100000 in
set_option maxHeartbeats 2000000 in
theorem rts_any (ta fa d : Int) (w : World) :
    Calls Tryd.prog 10 #[.int .u64 ta, .int .u64 fa, .int .i64 d] w fun e w' => e = .returned (Fr_.v (mkF 12 d ta fa ⟨#[]⟩)) ∧ Below w.heap.size w w' := by
  obtain ⟨w1, hw1⟩ : ∃ w1, w.alloc (.cells #[.int .i64 0, .bool false, .bool false, .bool false, .bool false, .bool false, .bool false, .int .i64 0, .int .i64 0, .int .u64 0, .int .u64 0, .int .u64 0, .int .i64 0, .int .i64 0, .int .i64 0, .int .i64 0, .int .i64 0, .string ⟨#[]⟩] 27) = w1 := ⟨_, rfl⟩
  have st := Lib.hid (show Gst w w.heap.size w1 from hw1 ▸ Gst.new w)
  have hf := mk_fold 12 d ta fa ⟨#[]⟩
  have sf := st.out.res.storeF (mkF 12 d ta fa ⟨#[]⟩)
  go_enter Tryd.func10, Tryd.ntmps10
  go_wp2
  exact ret_frame Tryd.results10 rfl (st.out.res.setRow _) rfl ⟨rfl, st.out.fin _⟩
set_option maxRecDepth 100000 in
set_option maxHeartbeats 2000000 in
theorem poll_any (ta fa : Int) (w : World) :
    Calls Tryd.prog 18 #[.int .u64 ta, .int .u64 fa] w fun e w' => e = .returned (Fr_.v (mkF 17 0 ta fa ⟨#[]⟩)) ∧ Below w.heap.size w w' := by
  obtain ⟨w1, hw1⟩ : ∃ w1, w.alloc (.cells #[.int .i64 0, .bool false, .bool false, .bool false, .bool false, .bool false, .bool false, .int .i64 0, .int .i64 0, .int .u64 0, .int .u64 0, .int .u64 0, .int .i64 0, .int .i64 0, .int .i64 0, .int .i64 0, .int .i64 0, .string ⟨#[]⟩] 27) = w1 := ⟨_, rfl⟩
  have st := Lib.hid (show Gst w w.heap.size w1 from hw1 ▸ Gst.new w)
  have hf := mk_fold 17 0 ta fa ⟨#[]⟩
  have sf := st.out.res.storeF (mkF 17 0 ta fa ⟨#[]⟩)
  go_enter Tryd.func18, Tryd.ntmps18
  go_wp2
  exact ret_frame Tryd.results18 rfl (st.out.res.setRow _) rfl ⟨rfl, st.out.fin _⟩
end Go.Proofs.YtjnafojgabkjmaaDoor
