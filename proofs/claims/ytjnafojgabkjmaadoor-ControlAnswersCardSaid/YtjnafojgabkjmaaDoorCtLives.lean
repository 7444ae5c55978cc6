/-
  WALKS of the laws of layer 11: lives; what lies in the variables.
-/
import Derived.Test.YtjnafojgabkjmaaDoorCtProg5
import Derived.Test.YtjnafojgabkjmaaDoorFrEq
namespace Go.Proofs.YtjnafojgabkjmaaDoor
open Go.RowKit Go.Hd Go.Wr Go.Ct
attribute [local go_sem ↓ high] Fr_.loadF Fr_.storeF Fr_.v_cells Fr_.v_match fr_guard fr_eql
attribute [local go_sem] Fr_.C0 Fr_.C1 Fr_.C2 Fr_.C3 Fr_.C4 Fr_.C5 Fr_.C6 Fr_.C7 Fr_.C8 Fr_.C9 Fr_.C10 Fr_.C11 Fr_.C12 Fr_.C13 Fr_.C14 Fr_.C15 Fr_.C16 Fr_.C17 Fr_.loadF_new Fr_.storeF_zero

/-- The tables lie in their variables. -/
structure Tabs (w : World) : Prop where
  hd : HdTab w
  ph : PhBits w
theorem Tabs.below {w w' : World} {B : Nat} (h : Tabs w) (hb : Below B w w') (hB : w.heap.size ≤ B) : Tabs w' := ⟨h.hd.below hb hB, h.ph.below hb hB⟩

def lvA : Int := 2199023255553
def lvB : Int := 2199023255554
def lvR : Fr := mkF 12 20 lvB lvA ⟨#[]⟩
def lvQ : Fr := mkF 15 0 lvB lvA (bw [2, 7, 0])
def lvK : Fr := mkF 16 0 lvA lvB (bw [2, 7, 0, 5, 0, 0, 0, 0, 0, 0, 0])
theorem lv_u {k d a b : Int} {bo : ByteArray} (ha : u64 a) (hb : u64 b) : FrU (mkF k d a b bo) := ⟨ha, hb, (show u64 0 by constructor <;> decide)⟩
theorem lv_ua : u64 lvA := by constructor <;> decide
theorem lv_ub : u64 lvB := by constructor <;> decide
theorem lv_vg : (vad lvA ∧ ¬ grp lvA) ∧ (vad lvB ∧ ¬ grp lvB) := by decide +kernel
theorem lv_r : chk lvR = 0 ∧ ¬ grp lvR.ta := ⟨chk_mk (.inl rfl) (by decide) lv_vg.2 lv_vg.1 rfl, lv_vg.2.2⟩
theorem lv_q : chk lvQ = 0 ∧ ¬ grp lvQ.ta := ⟨chk_mk (.inr (.inl rfl)) (by decide) lv_vg.2 lv_vg.1 rfl, lv_vg.2.2⟩
theorem lv_cts : ctsF lvR = mkF 13 12 lvA 0 ⟨#[]⟩ := if_pos ⟨lv_r, rfl⟩
theorem lv_req : reqF lvB lvA 2 7 = lvQ := rfl
theorem lv_blk : blkF lvQ 2 7 5 = lvK := if_pos ⟨lv_q, .inl rfl, by decide⟩
theorem lv_rdb : rdC lvK 16 11 = 2 ∧ rdS lvK 16 11 = 7 ∧ rdM lvK = 5 ∧ rdE lvK 16 11 = 0 := by decide +kernel
theorem lv_rdq : rdC lvQ 15 3 = 2 ∧ rdS lvQ 15 3 = 7 ∧ rdE lvQ 15 3 = 0 := by decide +kernel
theorem lv_rdx : rdC lvK 15 3 = 0 ∧ rdS lvK 15 3 = 0 ∧ rdE lvK 15 3 = 3 := by decide +kernel
theorem lv_ack : ¬ okA lvR := fun h => absurd (show rsp 12 = 14 from h.2) (by decide)

set_option maxRecDepth 100000 in
set_option maxHeartbeats 8000000 in
theorem lives11_any (w : World) (ht : Tabs w) :
    Calls Tryd.prog 9 #[] w fun e w' => e = .returned (.bool true) ∧ Below w.heap.size w w' := by
  have HT : Hid (∀ w', Below w.heap.size w w' → Tabs w') := fun w' hb => ht.below hb (Nat.le_refl _)
  have HB : Hid (∀ w' w'', Below w.heap.size w w' → Below w'.heap.size w' w'' → Below w.heap.size w w'') := fun w' w'' h hb => h.trans (hb.mono h.size)
  have N0 : Hid (∀ w, Calls Tryd.prog 8 #[.int .i64 0] w fun e w' => e = .returned (.int .u64 lvA) ∧ w = w') := fun w => node_any 0 w (by decide)
  have N1 : Hid (∀ w, Calls Tryd.prog 8 #[.int .i64 1] w fun e w' => e = .returned (.int .u64 lvB) ∧ w = w') := fun w => node_any 1 w (by decide)
  have CT : Hid (∀ w, Calls Tryd.prog 10 #[.int .u64 lvB, .int .u64 lvA, .int .i64 20] w fun e w' => e = .returned (Fr_.v lvR) ∧ Below w.heap.size w w') := fun w => rts_any lvB lvA 20 w
  have CC : Hid (∀ w', Below w.heap.size w w' → Calls Tryd.prog 11 #[Fr_.v lvR] w' fun e w'' => e = .returned (.tuple #[Fr_.v (mkF 13 12 lvA 0 ⟨#[]⟩), .bool true]) ∧ Below w'.heap.size w' w'') := fun w' hb => by
    have h := cts_any lvR w' (HT.out w' hb).hd (HT.out w' hb).ph (lv_u lv_ub lv_ua) (by decide)
    rw [lv_cts, decide_eq_true (show okC lvR from ⟨lv_r, rfl⟩)] at h
    exact h
  have CQ : Hid (∀ w, Calls Tryd.prog 13 #[.int .u64 lvB, .int .u64 lvA, .int .i64 2, .int .i64 7] w fun e w' => e = .returned (Fr_.v lvQ) ∧ Below w.heap.size w w') := fun w => request_any lvB lvA 2 7 w
  have CB : Hid (∀ w', Below w.heap.size w w' → Calls Tryd.prog 14 #[Fr_.v lvQ, .int .i64 2, .int .i64 7, .int .u64 5] w' fun e w'' => e = .returned (.tuple #[Fr_.v lvK, .bool true]) ∧ Below w'.heap.size w' w'') := fun w' hb => by
    have h := block_any lvQ 2 7 5 (by decide) w' (HT.out w' hb).hd (lv_u lv_ub lv_ua)
    rw [lv_blk, decide_eq_true (show okB lvQ 2 7 from ⟨lv_q, .inl rfl, by decide⟩)] at h
    exact h
  have CRB : Hid (∀ w, Calls Tryd.prog 16 #[Fr_.v lvK] w fun e w' => e = .returned (.tuple #[.int .i64 2, .int .i64 7, .int .u64 5, .int .i64 0]) ∧ Below w.heap.size w w') := fun w => by
    have h := readBlock_any lvK w
    rw [lv_rdb.1, lv_rdb.2.1, lv_rdb.2.2.1, lv_rdb.2.2.2] at h
    exact h
  have CRQ : Hid (∀ w, Calls Tryd.prog 15 #[Fr_.v lvQ] w fun e w' => e = .returned (.tuple #[.int .i64 2, .int .i64 7, .int .i64 0]) ∧ Below w.heap.size w w') := fun w => by
    have h := readRequest_any lvQ w
    rw [lv_rdq.1, lv_rdq.2.1, lv_rdq.2.2] at h
    exact h
  have CRX : Hid (∀ w, Calls Tryd.prog 15 #[Fr_.v lvK] w fun e w' => e = .returned (.tuple #[.int .i64 0, .int .i64 0, .int .i64 3]) ∧ Below w.heap.size w w') := fun w => by
    have h := readRequest_any lvK w
    rw [lv_rdx.1, lv_rdx.2.1, lv_rdx.2.2] at h
    exact h
  have CK : Hid (∀ w', Below w.heap.size w w' → Calls Tryd.prog 25 #[Fr_.v lvR] w' fun e w'' => e = .returned (.tuple #[Fr_.v Fr_.zf, .bool false]) ∧ Below w'.heap.size w' w'') := fun w' hb => by
    have h := ack_any lvR w' (HT.out w' hb).hd (HT.out w' hb).ph (lv_u lv_ub lv_ua) (by decide)
    rw [show ackF lvR = Fr_.zf from if_neg lv_ack, decide_eq_false lv_ack] at h
    exact h
  have CR : Hid (∀ w, Calls Tryd.prog 21 #[.int .i64 20, .int .i64 7] w fun e w' => e = .returned (.int .i64 12) ∧ w = w') := fun w => respond_any 20 7 w (by decide) (by decide)
  have hf := mk_fold 13 12 lvA 0 ⟨#[]⟩
  have hta : lvK.ta = lvA := rfl
  have hfa : lvK.fa = lvB := rfl
  have B0 : Hid (Below w.heap.size w w) := Below.refl _ _
  clear HT ht
  generalize lvA = a at *
  generalize lvB = b at *
  generalize lvR = R at *
  generalize lvQ = Q at *
  generalize lvK = K at *
  generalize mkF 13 12 a 0 ⟨#[]⟩ = T at *
  go_enter Tryd.func9, Tryd.ntmps9
  go_wp2_with (first
    | (go_at_call 8; with_reducible refine (N0.out _).mono ?_; rintro e w' ⟨rfl, rfl⟩)
    | (go_at_call 8; with_reducible refine (N1.out _).mono ?_; rintro e w' ⟨rfl, rfl⟩)
    | (go_at_call 10; have := B0; refine (CT.out _).mono ?_; rintro e w1 ⟨rfl, hb⟩; have B1 := Lib.hid (HB.out _ _ B0.out hb); clear hb B0 this)
    | (go_at_call 11; refine (CC.out _ B1.out).mono ?_; rintro e w2 ⟨rfl, hb⟩; have B2 := Lib.hid (HB.out _ _ B1.out hb); clear hb
       obtain ⟨w3, hw3⟩ : ∃ w3, w2.alloc (.cells (Fr_.C T) 27) = w3 := ⟨_, rfl⟩
       have B3 := Lib.hid (show Below w.heap.size w w3 from hw3 ▸ B2.out.alloc B2.out.size _)
       have T3 := Lib.hid (show Fr_.Box w3 w2.heap.size T from hw3 ▸ Fr_.Box.newC w2 T))
    | (go_at_call 13; have := T3; refine (CQ.out _).mono ?_; rintro e w4 ⟨rfl, hb⟩; have B4 := Lib.hid (HB.out _ _ B3.out hb); have T4 := Lib.hid (T3.out.below hb T3.out.lt); clear hb T3 this)
    | (go_at_call 14; refine (CB.out _ B4.out).mono ?_; rintro e w5 ⟨rfl, hb⟩; have B5 := Lib.hid (HB.out _ _ B4.out hb); have T5 := Lib.hid (T4.out.below hb T4.out.lt); clear hb
       obtain ⟨w6, hw6⟩ : ∃ w6, w5.alloc (.cells (Fr_.C K) 27) = w6 := ⟨_, rfl⟩
       have B6 := Lib.hid (show Below w.heap.size w w6 from hw6 ▸ B5.out.alloc B5.out.size _)
       have T6 := Lib.hid (show Fr_.Box w6 w2.heap.size T from hw6 ▸ T5.out.allocC _)
       have K6 := Lib.hid (show Fr_.Box w6 w5.heap.size K from hw6 ▸ Fr_.Box.newC w5 K)
       have l6 := K6.out.loadF)
    | (go_at_call 16; refine (CRB.out _).mono ?_; rintro e w7 ⟨rfl, hb⟩; have B7 := Lib.hid (HB.out _ _ B6.out hb); have T7 := Lib.hid (T6.out.below hb T6.out.lt); have K7 := Lib.hid (K6.out.below hb K6.out.lt); clear hb l6)
    | (go_at_call 13; refine (CQ.out _).mono ?_; rintro e w8 ⟨rfl, hb⟩; have B8 := Lib.hid (HB.out _ _ B7.out hb); have T8 := Lib.hid (T7.out.below hb T7.out.lt); have K8 := Lib.hid (K7.out.below hb K7.out.lt); clear hb)
    | (go_at_call 15; with_reducible refine (CRQ.out _).mono ?_; rintro e w9 ⟨rfl, hb⟩; have B9 := Lib.hid (HB.out _ _ B8.out hb); have T9 := Lib.hid (T8.out.below hb T8.out.lt); have K9 := Lib.hid (K8.out.below hb K8.out.lt); clear hb)
    | (go_at_call 10; refine (CT.out _).mono ?_; rintro e w10 ⟨rfl, hb⟩; have B10 := Lib.hid (HB.out _ _ B9.out hb); have T10 := Lib.hid (T9.out.below hb T9.out.lt); have K10 := Lib.hid (K9.out.below hb K9.out.lt); clear hb)
    | (go_at_call 25; refine (CK.out _ B10.out).mono ?_; rintro e w11 ⟨rfl, hb⟩; have B11 := Lib.hid (HB.out _ _ B10.out hb); have T11 := Lib.hid (T10.out.below hb T10.out.lt); have K11 := Lib.hid (K10.out.below hb K10.out.lt); clear hb
       obtain ⟨w12, hw12⟩ : ∃ w12, w11.alloc (.cells (Fr_.C Fr_.zf) 27) = w12 := ⟨_, rfl⟩
       have B12 := Lib.hid (show Below w.heap.size w w12 from hw12 ▸ B11.out.alloc B11.out.size _)
       have T12 := Lib.hid (show Fr_.Box w12 w2.heap.size T from hw12 ▸ T11.out.allocC _)
       have K12 := Lib.hid (show Fr_.Box w12 w5.heap.size K from hw12 ▸ K11.out.allocC _)
       have l12 := K12.out.loadF)
    | (go_at_call 15; with_reducible refine (CRX.out _).mono ?_; rintro e w13 ⟨rfl, hb⟩; have B13 := Lib.hid (HB.out _ _ B12.out hb); have T13 := Lib.hid (T12.out.below hb T12.out.lt); have K13 := Lib.hid (K12.out.below hb K12.out.lt); clear hb l12; have l13 := T13.out.loadF; have e13 := K13.out.all)
    | (go_at_call 21; refine (CR.out _).mono ?_; rintro e w' ⟨rfl, rfl⟩))
  go_returns
  exact ⟨rfl, B13.out⟩
end Go.Proofs.YtjnafojgabkjmaaDoor
