/-
  WALKS of layer 10: the reference's Octets.
-/
import Derived.Test.YtkhnhlahfedkhaaDoorHdRefOct
namespace Go.Proofs.YtkhnhlahfedkhaaDoor
open Go.RowKit Go.Hd Go.Wr Go.Ad
attribute [local go_sem ↓ high] Fr_.loadF Fr_.storeF Fr_.v_cells Fr_.v_match
attribute [local go_sem] Fr_.C0 Fr_.C1 Fr_.C2 Fr_.C3 Fr_.C4 Fr_.C5 Fr_.C6 Fr_.C7 Fr_.C8 Fr_.C9 Fr_.C10 Fr_.C11 Fr_.C12 Fr_.C13 Fr_.C14 Fr_.C15 Fr_.C16 Fr_.C17 Fr_.loadF_new

/-- A string out of octets (a word). -/
def bs (l : List UInt8) : ByteArray := ⟨l.toArray⟩
theorem bs_add (s t u : List UInt8) (h : s.length + t.length ≤ 1000000) (e : s ++ t = u) (W : World) : (Op.stringOp .add (bs s) (bs t)).run Tryd.prog W = .ok (.string (bs u)) W := e ▸ add_run s t h W

theorem kclass' {k : Int} (hk : isK k) : (fro k ∧ nb k ∧ ¬ pl k ∧ ¬ k = 18) ∨ (fro k ∧ ¬ nb k ∧ ¬ pl k ∧ ¬ k = 18) ∨ (¬ fro k ∧ ¬ nb k ∧ ¬ pl k ∧ ¬ k = 18) ∨ (fro k ∧ nb k ∧ pl k ∧ k = 18) ∨ (fro k ∧ nb k ∧ pl k ∧ ¬ k = 18) := by
  rcases kinds hk with rfl | rfl | rfl | rfl | rfl | rfl | rfl | rfl | rfl | rfl | rfl | rfl | rfl | rfl | rfl | rfl | rfl | rfl | rfl <;> decide

set_option maxRecDepth 100000 in
set_option maxHeartbeats 8000000 in
theorem refOctets10_mg (f : Fr) (w : World) (hf : Okf f) (hu : FrU f) (c1 :  fro f.kd) (c2 :  nb f.kd) (c3 : ¬ pl f.kd) (c4 : ¬ f.kd = 18) :
    Calls Tryd.prog 24 #[Fr_.v f] w fun e w' => e = .returned (.string (bs (oct f))) ∧ Below w.heap.size w w' := by
  have sb := setv_bounds f
  have N1 : Hid (∀ w, Calls Tryd.prog 65 #[.int .i64 f.kd, .int .i64 1] w fun e w' => e = .returned (.string (bs (le f.kd.toNat 1))) ∧ Below w.heap.size w w') := fun w => refNum10 f.kd 1 w (by have := hf.kd; unfold isK at this; omega) (by decide)
  have N2 : Hid (∀ w, Calls Tryd.prog 65 #[.int .i64 (setv f + 64 * f.po), .int .i64 1] w fun e w' => e = .returned (.string (bs (le (setv f + 64 * f.po).toNat 1))) ∧ Below w.heap.size w w') := fun w => refNum10 (setv f + 64 * f.po) 1 w (by have := hf.po; omega) (by decide)
  have N3 : Hid (∀ w, Calls Tryd.prog 65 #[.int .i64 f.du, .int .i64 2] w fun e w' => e = .returned (.string (bs (le f.du.toNat 2))) ∧ Below w.heap.size w w') := fun w => refNum10 f.du 2 w (by have := hf.du; omega) (by decide)
  have A1 : Hid (∀ w, Calls Tryd.prog 67 #[.int .u64 f.ta] w fun e w' => e = .returned (.string (bs (be f.ta.toNat))) ∧ Below w.heap.size w w') := fun w => refAddr10 f.ta w hu.ta
  have A2 : Hid (∀ w, Calls Tryd.prog 67 #[.int .u64 f.fa] w fun e w' => e = .returned (.string (bs (be f.fa.toNat))) ∧ Below w.heap.size w w') := fun w => refAddr10 f.fa w hu.fa
  have A3 : Hid (∀ w, Calls Tryd.prog 67 #[.int .u64 f.th] w fun e w' => e = .returned (.string (bs (be f.th.toNat))) ∧ Below w.heap.size w w') := fun w => refAddr10 f.th w hu.th
  have N4 : Hid (∀ w, Calls Tryd.prog 65 #[.int .i64 (16 * f.sq + f.fg), .int .i64 2] w fun e w' => e = .returned (.string (bs (le (16 * f.sq + f.fg).toNat 2))) ∧ Below w.heap.size w w') := fun w => refNum10 (16 * f.sq + f.fg) 2 w (by have := hf.sq c2; have := hf.fg; omega) (by decide)
  have wg1 : RowKit.wrap64 (16 * f.sq) = 16 * f.sq := IntWalk.wrap64_in _ (by have := hf.sq c2; omega)
  have wg2 : RowKit.wrap64 (16 * f.sq + f.fg) = 16 * f.sq + f.fg := IntWalk.wrap64_in _ (by have := hf.sq c2; have := hf.fg; omega)
  have wg3 : IntKind.i64.wrap (16 * f.sq) = 16 * f.sq := IntWalk.i64_in _ (by have := hf.sq c2; omega)
  have wg4 : IntKind.i64.wrap (16 * f.sq + f.fg) = 16 * f.sq + f.fg := IntWalk.i64_in _ (by have := hf.sq c2; have := hf.fg; omega)
  have CS := Lib.hid (refSet_any f)
  have CF := Lib.hid (refFrom_any f.kd)
  have CN := Lib.hid (refNumbered_any f.kd)
  have CP := Lib.hid (refPolicy_any f.kd)
  rw [decide_eq_true c1] at CF
  rw [decide_eq_true c2] at CN
  rw [decide_eq_false c3] at CP
  have h18 : (f.kd == 18) = false := by simp [c4]
  have wf1 : RowKit.wrap64 (64 * f.po) = 64 * f.po := IntWalk.wrap64_in _ (by have := hf.po; omega)
  have wf2 : RowKit.wrap64 (setv f + 64 * f.po) = setv f + 64 * f.po := IntWalk.wrap64_in _ (by have := hf.po; omega)
  have wf3 : IntKind.i64.wrap (64 * f.po) = 64 * f.po := IntWalk.i64_in _ (by have := hf.po; omega)
  have wf4 : IntKind.i64.wrap (setv f + 64 * f.po) = setv f + 64 * f.po := IntWalk.i64_in _ (by have := hf.po; omega)
  have S1 := Lib.hid (Stf.new w f)
  have HE : Hid (oct f = o1 f ++ o2 f ++ o3 f ++ o4 f ++ o5 f) := rfl
  obtain ⟨L1, hL1⟩ : ∃ L1, le f.kd.toNat 1 ++ le (setv f + 64 * f.po).toNat 1 = L1 := ⟨_, rfl⟩
  obtain ⟨L2, hL2⟩ : ∃ L2, L1 ++ le f.du.toNat 2 = L2 := ⟨_, rfl⟩
  obtain ⟨L3, hL3⟩ : ∃ L3, L2 ++ be f.ta.toNat = L3 := ⟨_, rfl⟩
  have n1 : L1.length = 2 := by rw [← hL1]; simp [le_len]
  have n2 : L2.length = 4 := by rw [← hL2]; simp [le_len, n1]
  have n3 : L3.length = 10 := by rw [← hL3]; simp [be_len, n2]
  have a1 := bs_add _ _ _ (by simp [le_len]) hL1
  have a2 := bs_add _ _ _ (by simp [le_len, n1]) hL2
  have a3 := bs_add _ _ _ (by simp [be_len, n2]) hL3
  obtain ⟨L4, hL4⟩ : ∃ L4, L3 ++ be f.fa.toNat = L4 := ⟨_, rfl⟩
  have n4 : L4.length = 16 := by rw [← hL4]; simp [be_len, n3]
  have a4 := bs_add _ _ _ (by simp [be_len, n3]) hL4
  obtain ⟨L5, hL5⟩ : ∃ L5, L4 ++ be f.th.toNat = L5 := ⟨_, rfl⟩
  have n5 : L5.length = 22 := by rw [← hL5]; simp [be_len, n4]
  have a5 := bs_add _ _ _ (by simp [be_len, n4]) hL5
  obtain ⟨L6, hL6⟩ : ∃ L6, L5 ++ le (16 * f.sq + f.fg).toNat 2 = L6 := ⟨_, rfl⟩
  have n6 : L6.length = 24 := by rw [← hL6]; simp [le_len, n5]
  have a6 := bs_add _ _ _ (by simp [le_len, n5]) hL6
  have HO : Hid (oct f = L6) := by
    unfold Hid
    rw [HE.out]
    unfold o1 o2 o3 o4 o5
    rw [← hL6]; rw [← hL5]; rw [← hL4]; rw [← hL3]; rw [← hL2]; rw [← hL1]
    rw [if_pos c1]; rw [if_pos c2]; rw [if_neg c3]; rw [if_neg c4]
    simp
  have hc : ∀ (p : Of (Stf w w.heap.size f)) (j : Nat), p.w.cell? ⟨w.heap.size, j, none⟩ = (Fr_.C f)[j]? := fun p => p.ok.box.all
  have hl : ∀ (p : Of (Stf w w.heap.size f)), (Fr_.LoadF ⟨w.heap.size, 0, none⟩).run Tryd.prog p.w = .ok (Fr_.v f) p.w := fun p => p.ok.box.loadF
  have _ne : Nonempty (Of (Stf w w.heap.size f)) := ⟨⟨_, S1.out⟩⟩
  clear sb hf hu  c1 c2 c3 c4 HE hL1 hL2 hL3 hL4 hL5 hL6 n1 n2 n3 n4 n5 n6
  go_enter Tryd.func24, Tryd.ntmps24
  go_wp2
  refine wp_region_of (Stf w w.heap.size f) (by kernel_rfl) (by kernel_rfl) S1.out.drew ?_
  repeat (quiet_step (first
    | (go_at_call 65; with_reducible exact Calls.of_below Stf.keep (N1.out _))
    | (go_at_call 65; with_reducible exact Calls.of_below Stf.keep (N2.out _))
    | (go_at_call 65; with_reducible exact Calls.of_below Stf.keep (N3.out _))
    | (go_at_call 66; exact Calls.of_below Stf.keep (CS.out _))
    | (go_at_call 67; with_reducible exact Calls.of_below Stf.keep (A1.out _))))
  refine wpQuiet_nil ?_
  rintro _ ⟨p, rfl⟩
  have S2 := Lib.hid p.ok
  have e2 := p.ok.box.all
  generalize p.w = w2 at *
  clear hl a1 a2 a3 wf1 wf2 wf3 wf4 CS
  go_wp2_with (first
    | (go_at_call 68; with_reducible refine (CF.out _).mono ?_; rintro e w3 ⟨rfl, rfl⟩)
    | (go_at_call 69; with_reducible refine (CN.out _).mono ?_; rintro e w3 ⟨rfl, rfl⟩)
    | (go_at_call 67; with_reducible refine (A2.out _).mono ?_; rintro e w3 ⟨rfl, hb⟩; have S3 := Lib.hid (Stf.keep _ _ S2.out hb); clear hb S2 e2; have S2 := S3; clear S3; have e2 := S2.out.box.all))
  have _ne2 : Nonempty (Of (Stf w w.heap.size f)) := _ne
  refine wp_region_of (Stf w w.heap.size f) (by kernel_rfl) (by kernel_rfl) S2.out.drew ?_
  repeat (quiet_step (first
    | (go_at_call 65; with_reducible exact Calls.of_below Stf.keep (N4.out _))
    | (go_at_call 67; with_reducible exact Calls.of_below Stf.keep (A3.out _))))
  refine wpQuiet_nil ?_
  rintro _ ⟨p, rfl⟩
  clear S2 e2
  have S2 := Lib.hid p.ok
  have e2 := p.ok.box.all
  generalize p.w = w4 at *
  clear hc wg1 wg2 wg3 wg4
  go_wp2_with (first
    | (go_at_call 62; with_reducible refine (CP.out _).mono ?_; rintro e w3 ⟨rfl, rfl⟩))
  go_returns
  exact ⟨by rw [HO.out]; rfl, S2.out.bel⟩

set_option maxRecDepth 100000 in
set_option maxHeartbeats 8000000 in
theorem refOctets10_rts (f : Fr) (w : World) (hf : Okf f) (hu : FrU f) (c1 :  fro f.kd) (c2 : ¬ nb f.kd) (c3 : ¬ pl f.kd) (c4 : ¬ f.kd = 18) :
    Calls Tryd.prog 24 #[Fr_.v f] w fun e w' => e = .returned (.string (bs (oct f))) ∧ Below w.heap.size w w' := by
  have sb := setv_bounds f
  have N1 : Hid (∀ w, Calls Tryd.prog 65 #[.int .i64 f.kd, .int .i64 1] w fun e w' => e = .returned (.string (bs (le f.kd.toNat 1))) ∧ Below w.heap.size w w') := fun w => refNum10 f.kd 1 w (by have := hf.kd; unfold isK at this; omega) (by decide)
  have N2 : Hid (∀ w, Calls Tryd.prog 65 #[.int .i64 (setv f + 64 * f.po), .int .i64 1] w fun e w' => e = .returned (.string (bs (le (setv f + 64 * f.po).toNat 1))) ∧ Below w.heap.size w w') := fun w => refNum10 (setv f + 64 * f.po) 1 w (by have := hf.po; omega) (by decide)
  have N3 : Hid (∀ w, Calls Tryd.prog 65 #[.int .i64 f.du, .int .i64 2] w fun e w' => e = .returned (.string (bs (le f.du.toNat 2))) ∧ Below w.heap.size w w') := fun w => refNum10 f.du 2 w (by have := hf.du; omega) (by decide)
  have A1 : Hid (∀ w, Calls Tryd.prog 67 #[.int .u64 f.ta] w fun e w' => e = .returned (.string (bs (be f.ta.toNat))) ∧ Below w.heap.size w w') := fun w => refAddr10 f.ta w hu.ta
  have A2 : Hid (∀ w, Calls Tryd.prog 67 #[.int .u64 f.fa] w fun e w' => e = .returned (.string (bs (be f.fa.toNat))) ∧ Below w.heap.size w w') := fun w => refAddr10 f.fa w hu.fa
  have CS := Lib.hid (refSet_any f)
  have CF := Lib.hid (refFrom_any f.kd)
  have CN := Lib.hid (refNumbered_any f.kd)
  have CP := Lib.hid (refPolicy_any f.kd)
  rw [decide_eq_true c1] at CF
  rw [decide_eq_false c2] at CN
  rw [decide_eq_false c3] at CP
  have h18 : (f.kd == 18) = false := by simp [c4]
  have wf1 : RowKit.wrap64 (64 * f.po) = 64 * f.po := IntWalk.wrap64_in _ (by have := hf.po; omega)
  have wf2 : RowKit.wrap64 (setv f + 64 * f.po) = setv f + 64 * f.po := IntWalk.wrap64_in _ (by have := hf.po; omega)
  have wf3 : IntKind.i64.wrap (64 * f.po) = 64 * f.po := IntWalk.i64_in _ (by have := hf.po; omega)
  have wf4 : IntKind.i64.wrap (setv f + 64 * f.po) = setv f + 64 * f.po := IntWalk.i64_in _ (by have := hf.po; omega)
  have S1 := Lib.hid (Stf.new w f)
  have HE : Hid (oct f = o1 f ++ o2 f ++ o3 f ++ o4 f ++ o5 f) := rfl
  obtain ⟨L1, hL1⟩ : ∃ L1, le f.kd.toNat 1 ++ le (setv f + 64 * f.po).toNat 1 = L1 := ⟨_, rfl⟩
  obtain ⟨L2, hL2⟩ : ∃ L2, L1 ++ le f.du.toNat 2 = L2 := ⟨_, rfl⟩
  obtain ⟨L3, hL3⟩ : ∃ L3, L2 ++ be f.ta.toNat = L3 := ⟨_, rfl⟩
  have n1 : L1.length = 2 := by rw [← hL1]; simp [le_len]
  have n2 : L2.length = 4 := by rw [← hL2]; simp [le_len, n1]
  have n3 : L3.length = 10 := by rw [← hL3]; simp [be_len, n2]
  have a1 := bs_add _ _ _ (by simp [le_len]) hL1
  have a2 := bs_add _ _ _ (by simp [le_len, n1]) hL2
  have a3 := bs_add _ _ _ (by simp [be_len, n2]) hL3
  obtain ⟨L4, hL4⟩ : ∃ L4, L3 ++ be f.fa.toNat = L4 := ⟨_, rfl⟩
  have n4 : L4.length = 16 := by rw [← hL4]; simp [be_len, n3]
  have a4 := bs_add _ _ _ (by simp [be_len, n3]) hL4
  have HO : Hid (oct f = L4) := by
    unfold Hid
    rw [HE.out]
    unfold o1 o2 o3 o4 o5
    rw [← hL4]; rw [← hL3]; rw [← hL2]; rw [← hL1]
    rw [if_pos c1]; rw [if_neg c2]; rw [if_neg c3]; rw [if_neg c4]
    simp
  have hc : ∀ (p : Of (Stf w w.heap.size f)) (j : Nat), p.w.cell? ⟨w.heap.size, j, none⟩ = (Fr_.C f)[j]? := fun p => p.ok.box.all
  have hl : ∀ (p : Of (Stf w w.heap.size f)), (Fr_.LoadF ⟨w.heap.size, 0, none⟩).run Tryd.prog p.w = .ok (Fr_.v f) p.w := fun p => p.ok.box.loadF
  have _ne : Nonempty (Of (Stf w w.heap.size f)) := ⟨⟨_, S1.out⟩⟩
  clear sb hf hu  c1 c2 c3 c4 HE hL1 hL2 hL3 hL4 n1 n2 n3 n4
  go_enter Tryd.func24, Tryd.ntmps24
  go_wp2
  refine wp_region_of (Stf w w.heap.size f) (by kernel_rfl) (by kernel_rfl) S1.out.drew ?_
  repeat (quiet_step (first
    | (go_at_call 65; with_reducible exact Calls.of_below Stf.keep (N1.out _))
    | (go_at_call 65; with_reducible exact Calls.of_below Stf.keep (N2.out _))
    | (go_at_call 65; with_reducible exact Calls.of_below Stf.keep (N3.out _))
    | (go_at_call 66; exact Calls.of_below Stf.keep (CS.out _))
    | (go_at_call 67; with_reducible exact Calls.of_below Stf.keep (A1.out _))))
  refine wpQuiet_nil ?_
  rintro _ ⟨p, rfl⟩
  have S2 := Lib.hid p.ok
  have e2 := p.ok.box.all
  generalize p.w = w2 at *
  clear hl a1 a2 a3 wf1 wf2 wf3 wf4 CS
  go_wp2_with (first
    | (go_at_call 68; with_reducible refine (CF.out _).mono ?_; rintro e w3 ⟨rfl, rfl⟩)
    | (go_at_call 69; with_reducible refine (CN.out _).mono ?_; rintro e w3 ⟨rfl, rfl⟩)
    | (go_at_call 62; with_reducible refine (CP.out _).mono ?_; rintro e w3 ⟨rfl, rfl⟩)
    | (go_at_call 67; with_reducible refine (A2.out _).mono ?_; rintro e w3 ⟨rfl, hb⟩; have S3 := Lib.hid (Stf.keep _ _ S2.out hb); clear hb S2 e2; have S2 := S3; clear S3; have e2 := S2.out.box.all))
  go_returns
  exact ⟨by rw [HO.out]; rfl, S2.out.bel⟩

set_option maxRecDepth 100000 in
set_option maxHeartbeats 8000000 in
theorem refOctets10_cts (f : Fr) (w : World) (hf : Okf f) (hu : FrU f) (c1 : ¬ fro f.kd) (c2 : ¬ nb f.kd) (c3 : ¬ pl f.kd) (c4 : ¬ f.kd = 18) :
    Calls Tryd.prog 24 #[Fr_.v f] w fun e w' => e = .returned (.string (bs (oct f))) ∧ Below w.heap.size w w' := by
  have sb := setv_bounds f
  have N1 : Hid (∀ w, Calls Tryd.prog 65 #[.int .i64 f.kd, .int .i64 1] w fun e w' => e = .returned (.string (bs (le f.kd.toNat 1))) ∧ Below w.heap.size w w') := fun w => refNum10 f.kd 1 w (by have := hf.kd; unfold isK at this; omega) (by decide)
  have N2 : Hid (∀ w, Calls Tryd.prog 65 #[.int .i64 (setv f + 64 * f.po), .int .i64 1] w fun e w' => e = .returned (.string (bs (le (setv f + 64 * f.po).toNat 1))) ∧ Below w.heap.size w w') := fun w => refNum10 (setv f + 64 * f.po) 1 w (by have := hf.po; omega) (by decide)
  have N3 : Hid (∀ w, Calls Tryd.prog 65 #[.int .i64 f.du, .int .i64 2] w fun e w' => e = .returned (.string (bs (le f.du.toNat 2))) ∧ Below w.heap.size w w') := fun w => refNum10 f.du 2 w (by have := hf.du; omega) (by decide)
  have A1 : Hid (∀ w, Calls Tryd.prog 67 #[.int .u64 f.ta] w fun e w' => e = .returned (.string (bs (be f.ta.toNat))) ∧ Below w.heap.size w w') := fun w => refAddr10 f.ta w hu.ta
  have CS := Lib.hid (refSet_any f)
  have CF := Lib.hid (refFrom_any f.kd)
  have CN := Lib.hid (refNumbered_any f.kd)
  have CP := Lib.hid (refPolicy_any f.kd)
  rw [decide_eq_false c1] at CF
  rw [decide_eq_false c2] at CN
  rw [decide_eq_false c3] at CP
  have h18 : (f.kd == 18) = false := by simp [c4]
  have wf1 : RowKit.wrap64 (64 * f.po) = 64 * f.po := IntWalk.wrap64_in _ (by have := hf.po; omega)
  have wf2 : RowKit.wrap64 (setv f + 64 * f.po) = setv f + 64 * f.po := IntWalk.wrap64_in _ (by have := hf.po; omega)
  have wf3 : IntKind.i64.wrap (64 * f.po) = 64 * f.po := IntWalk.i64_in _ (by have := hf.po; omega)
  have wf4 : IntKind.i64.wrap (setv f + 64 * f.po) = setv f + 64 * f.po := IntWalk.i64_in _ (by have := hf.po; omega)
  have S1 := Lib.hid (Stf.new w f)
  have HE : Hid (oct f = o1 f ++ o2 f ++ o3 f ++ o4 f ++ o5 f) := rfl
  obtain ⟨L1, hL1⟩ : ∃ L1, le f.kd.toNat 1 ++ le (setv f + 64 * f.po).toNat 1 = L1 := ⟨_, rfl⟩
  obtain ⟨L2, hL2⟩ : ∃ L2, L1 ++ le f.du.toNat 2 = L2 := ⟨_, rfl⟩
  obtain ⟨L3, hL3⟩ : ∃ L3, L2 ++ be f.ta.toNat = L3 := ⟨_, rfl⟩
  have n1 : L1.length = 2 := by rw [← hL1]; simp [le_len]
  have n2 : L2.length = 4 := by rw [← hL2]; simp [le_len, n1]
  have n3 : L3.length = 10 := by rw [← hL3]; simp [be_len, n2]
  have a1 := bs_add _ _ _ (by simp [le_len]) hL1
  have a2 := bs_add _ _ _ (by simp [le_len, n1]) hL2
  have a3 := bs_add _ _ _ (by simp [be_len, n2]) hL3
  have HO : Hid (oct f = L3) := by
    unfold Hid
    rw [HE.out]
    unfold o1 o2 o3 o4 o5
    rw [← hL3]; rw [← hL2]; rw [← hL1]
    rw [if_neg c1]; rw [if_neg c2]; rw [if_neg c3]; rw [if_neg c4]
    simp
  have hc : ∀ (p : Of (Stf w w.heap.size f)) (j : Nat), p.w.cell? ⟨w.heap.size, j, none⟩ = (Fr_.C f)[j]? := fun p => p.ok.box.all
  have hl : ∀ (p : Of (Stf w w.heap.size f)), (Fr_.LoadF ⟨w.heap.size, 0, none⟩).run Tryd.prog p.w = .ok (Fr_.v f) p.w := fun p => p.ok.box.loadF
  have _ne : Nonempty (Of (Stf w w.heap.size f)) := ⟨⟨_, S1.out⟩⟩
  clear sb hf hu  c1 c2 c3 c4 HE hL1 hL2 hL3 n1 n2 n3
  go_enter Tryd.func24, Tryd.ntmps24
  go_wp2
  refine wp_region_of (Stf w w.heap.size f) (by kernel_rfl) (by kernel_rfl) S1.out.drew ?_
  repeat (quiet_step (first
    | (go_at_call 65; with_reducible exact Calls.of_below Stf.keep (N1.out _))
    | (go_at_call 65; with_reducible exact Calls.of_below Stf.keep (N2.out _))
    | (go_at_call 65; with_reducible exact Calls.of_below Stf.keep (N3.out _))
    | (go_at_call 66; exact Calls.of_below Stf.keep (CS.out _))
    | (go_at_call 67; with_reducible exact Calls.of_below Stf.keep (A1.out _))))
  refine wpQuiet_nil ?_
  rintro _ ⟨p, rfl⟩
  have S2 := Lib.hid p.ok
  have e2 := p.ok.box.all
  generalize p.w = w2 at *
  clear hl a1 a2 a3 wf1 wf2 wf3 wf4 CS
  go_wp2_with (first
    | (go_at_call 68; with_reducible refine (CF.out _).mono ?_; rintro e w3 ⟨rfl, rfl⟩)
    | (go_at_call 69; with_reducible refine (CN.out _).mono ?_; rintro e w3 ⟨rfl, rfl⟩)
    | (go_at_call 62; with_reducible refine (CP.out _).mono ?_; rintro e w3 ⟨rfl, rfl⟩))
  go_returns
  exact ⟨by rw [HO.out]; rfl, S2.out.bel⟩

set_option maxRecDepth 100000 in
set_option maxHeartbeats 8000000 in
theorem refOctets10_key (f : Fr) (w : World) (hf : Okf f) (hu : FrU f) (c1 :  fro f.kd) (c2 :  nb f.kd) (c3 :  pl f.kd) (c4 :  f.kd = 18) (hky : ¬ f.ky = 0) :
    Calls Tryd.prog 24 #[Fr_.v f] w fun e w' => e = .returned (.string (bs (oct f))) ∧ Below w.heap.size w w' := by
  have sb := setv_bounds f
  have N1 : Hid (∀ w, Calls Tryd.prog 65 #[.int .i64 f.kd, .int .i64 1] w fun e w' => e = .returned (.string (bs (le f.kd.toNat 1))) ∧ Below w.heap.size w w') := fun w => refNum10 f.kd 1 w (by have := hf.kd; unfold isK at this; omega) (by decide)
  have N2 : Hid (∀ w, Calls Tryd.prog 65 #[.int .i64 (setv f + 64 * f.po), .int .i64 1] w fun e w' => e = .returned (.string (bs (le (setv f + 64 * f.po).toNat 1))) ∧ Below w.heap.size w w') := fun w => refNum10 (setv f + 64 * f.po) 1 w (by have := hf.po; omega) (by decide)
  have N3 : Hid (∀ w, Calls Tryd.prog 65 #[.int .i64 f.du, .int .i64 2] w fun e w' => e = .returned (.string (bs (le f.du.toNat 2))) ∧ Below w.heap.size w w') := fun w => refNum10 f.du 2 w (by have := hf.du; omega) (by decide)
  have A1 : Hid (∀ w, Calls Tryd.prog 67 #[.int .u64 f.ta] w fun e w' => e = .returned (.string (bs (be f.ta.toNat))) ∧ Below w.heap.size w w') := fun w => refAddr10 f.ta w hu.ta
  have A2 : Hid (∀ w, Calls Tryd.prog 67 #[.int .u64 f.fa] w fun e w' => e = .returned (.string (bs (be f.fa.toNat))) ∧ Below w.heap.size w w') := fun w => refAddr10 f.fa w hu.fa
  have A3 : Hid (∀ w, Calls Tryd.prog 67 #[.int .u64 f.th] w fun e w' => e = .returned (.string (bs (be f.th.toNat))) ∧ Below w.heap.size w w') := fun w => refAddr10 f.th w hu.th
  have N4 : Hid (∀ w, Calls Tryd.prog 65 #[.int .i64 (16 * f.sq + f.fg), .int .i64 2] w fun e w' => e = .returned (.string (bs (le (16 * f.sq + f.fg).toNat 2))) ∧ Below w.heap.size w w') := fun w => refNum10 (16 * f.sq + f.fg) 2 w (by have := hf.sq c2; have := hf.fg; omega) (by decide)
  have wg1 : RowKit.wrap64 (16 * f.sq) = 16 * f.sq := IntWalk.wrap64_in _ (by have := hf.sq c2; omega)
  have wg2 : RowKit.wrap64 (16 * f.sq + f.fg) = 16 * f.sq + f.fg := IntWalk.wrap64_in _ (by have := hf.sq c2; have := hf.fg; omega)
  have wg3 : IntKind.i64.wrap (16 * f.sq) = 16 * f.sq := IntWalk.i64_in _ (by have := hf.sq c2; omega)
  have wg4 : IntKind.i64.wrap (16 * f.sq + f.fg) = 16 * f.sq + f.fg := IntWalk.i64_in _ (by have := hf.sq c2; have := hf.fg; omega)
  have N5 : Hid (∀ w, Calls Tryd.prog 65 #[.int .i64 f.ct, .int .i64 1] w fun e w' => e = .returned (.string (bs (le f.ct.toNat 1))) ∧ Below w.heap.size w w') := fun w => refNum10 f.ct 1 w (by have := hf.ct c3; omega) (by decide)
  have N6 : Hid (∀ w, Calls Tryd.prog 65 #[.int .i64 f.ky, .int .i64 2] w fun e w' => e = .returned (.string (bs (le f.ky.toNat 2))) ∧ Below w.heap.size w w') := fun w => refNum10 f.ky 2 w (by have := hf.ky c4; omega) (by decide)
  have N7 : Hid (∀ w, Calls Tryd.prog 65 #[.int .i64 f.cn, .int .i64 5] w fun e w' => e = .returned (.string (bs (le f.cn.toNat 5))) ∧ Below w.heap.size w w') := fun w => refNum10 f.cn 5 w (by have := hf.cn c4; omega) (by decide)
  have CS := Lib.hid (refSet_any f)
  have CF := Lib.hid (refFrom_any f.kd)
  have CN := Lib.hid (refNumbered_any f.kd)
  have CP := Lib.hid (refPolicy_any f.kd)
  rw [decide_eq_true c1] at CF
  rw [decide_eq_true c2] at CN
  rw [decide_eq_true c3] at CP
  have h18 : (f.kd == 18) = true := by simp [c4]
  have hkn : (f.ky != 0) = true := by simp [hky]
  have wf1 : RowKit.wrap64 (64 * f.po) = 64 * f.po := IntWalk.wrap64_in _ (by have := hf.po; omega)
  have wf2 : RowKit.wrap64 (setv f + 64 * f.po) = setv f + 64 * f.po := IntWalk.wrap64_in _ (by have := hf.po; omega)
  have wf3 : IntKind.i64.wrap (64 * f.po) = 64 * f.po := IntWalk.i64_in _ (by have := hf.po; omega)
  have wf4 : IntKind.i64.wrap (setv f + 64 * f.po) = setv f + 64 * f.po := IntWalk.i64_in _ (by have := hf.po; omega)
  have S1 := Lib.hid (Stf.new w f)
  have HE : Hid (oct f = o1 f ++ o2 f ++ o3 f ++ o4 f ++ o5 f) := rfl
  obtain ⟨L1, hL1⟩ : ∃ L1, le f.kd.toNat 1 ++ le (setv f + 64 * f.po).toNat 1 = L1 := ⟨_, rfl⟩
  obtain ⟨L2, hL2⟩ : ∃ L2, L1 ++ le f.du.toNat 2 = L2 := ⟨_, rfl⟩
  obtain ⟨L3, hL3⟩ : ∃ L3, L2 ++ be f.ta.toNat = L3 := ⟨_, rfl⟩
  have n1 : L1.length = 2 := by rw [← hL1]; simp [le_len]
  have n2 : L2.length = 4 := by rw [← hL2]; simp [le_len, n1]
  have n3 : L3.length = 10 := by rw [← hL3]; simp [be_len, n2]
  have a1 := bs_add _ _ _ (by simp [le_len]) hL1
  have a2 := bs_add _ _ _ (by simp [le_len, n1]) hL2
  have a3 := bs_add _ _ _ (by simp [be_len, n2]) hL3
  obtain ⟨L4, hL4⟩ : ∃ L4, L3 ++ be f.fa.toNat = L4 := ⟨_, rfl⟩
  have n4 : L4.length = 16 := by rw [← hL4]; simp [be_len, n3]
  have a4 := bs_add _ _ _ (by simp [be_len, n3]) hL4
  obtain ⟨L5, hL5⟩ : ∃ L5, L4 ++ be f.th.toNat = L5 := ⟨_, rfl⟩
  have n5 : L5.length = 22 := by rw [← hL5]; simp [be_len, n4]
  have a5 := bs_add _ _ _ (by simp [be_len, n4]) hL5
  obtain ⟨L6, hL6⟩ : ∃ L6, L5 ++ le (16 * f.sq + f.fg).toNat 2 = L6 := ⟨_, rfl⟩
  have n6 : L6.length = 24 := by rw [← hL6]; simp [le_len, n5]
  have a6 := bs_add _ _ _ (by simp [le_len, n5]) hL6
  obtain ⟨L7, hL7⟩ : ∃ L7, L6 ++ le f.ct.toNat 1 = L7 := ⟨_, rfl⟩
  have n7 : L7.length = 25 := by rw [← hL7]; simp [le_len, n6]
  have a7 := bs_add _ _ _ (by simp [le_len, n6]) hL7
  obtain ⟨L8, hL8⟩ : ∃ L8, L7 ++ le f.ky.toNat 2 = L8 := ⟨_, rfl⟩
  have n8 : L8.length = 27 := by rw [← hL8]; simp [le_len, n7]
  have a8 := bs_add _ _ _ (by simp [le_len, n7]) hL8
  obtain ⟨L9, hL9⟩ : ∃ L9, L8 ++ le f.cn.toNat 5 = L9 := ⟨_, rfl⟩
  have n9 : L9.length = 32 := by rw [← hL9]; simp [le_len, n8]
  have a9 := bs_add _ _ _ (by simp [le_len, n8]) hL9
  have HO : Hid (oct f = L9) := by
    unfold Hid
    rw [HE.out]
    unfold o1 o2 o3 o4 o5
    rw [← hL9]; rw [← hL8]; rw [← hL7]; rw [← hL6]; rw [← hL5]; rw [← hL4]; rw [← hL3]; rw [← hL2]; rw [← hL1]
    rw [if_pos c1]; rw [if_pos c2]; rw [if_pos c3]; rw [if_pos c4]; rw [if_neg hky]
    simp
  have hc : ∀ (p : Of (Stf w w.heap.size f)) (j : Nat), p.w.cell? ⟨w.heap.size, j, none⟩ = (Fr_.C f)[j]? := fun p => p.ok.box.all
  have hl : ∀ (p : Of (Stf w w.heap.size f)), (Fr_.LoadF ⟨w.heap.size, 0, none⟩).run Tryd.prog p.w = .ok (Fr_.v f) p.w := fun p => p.ok.box.loadF
  have _ne : Nonempty (Of (Stf w w.heap.size f)) := ⟨⟨_, S1.out⟩⟩
  clear sb hf hu hky c1 c2 c3 c4 HE hL1 hL2 hL3 hL4 hL5 hL6 hL7 hL8 hL9 n1 n2 n3 n4 n5 n6 n7 n8 n9
  go_enter Tryd.func24, Tryd.ntmps24
  go_wp2
  refine wp_region_of (Stf w w.heap.size f) (by kernel_rfl) (by kernel_rfl) S1.out.drew ?_
  repeat (quiet_step (first
    | (go_at_call 65; with_reducible exact Calls.of_below Stf.keep (N1.out _))
    | (go_at_call 65; with_reducible exact Calls.of_below Stf.keep (N2.out _))
    | (go_at_call 65; with_reducible exact Calls.of_below Stf.keep (N3.out _))
    | (go_at_call 66; exact Calls.of_below Stf.keep (CS.out _))
    | (go_at_call 67; with_reducible exact Calls.of_below Stf.keep (A1.out _))))
  refine wpQuiet_nil ?_
  rintro _ ⟨p, rfl⟩
  have S2 := Lib.hid p.ok
  have e2 := p.ok.box.all
  generalize p.w = w2 at *
  clear hl a1 a2 a3 wf1 wf2 wf3 wf4 CS
  go_wp2_with (first
    | (go_at_call 68; with_reducible refine (CF.out _).mono ?_; rintro e w3 ⟨rfl, rfl⟩)
    | (go_at_call 69; with_reducible refine (CN.out _).mono ?_; rintro e w3 ⟨rfl, rfl⟩)
    | (go_at_call 67; with_reducible refine (A2.out _).mono ?_; rintro e w3 ⟨rfl, hb⟩; have S3 := Lib.hid (Stf.keep _ _ S2.out hb); clear hb S2 e2; have S2 := S3; clear S3; have e2 := S2.out.box.all))
  have _ne2 : Nonempty (Of (Stf w w.heap.size f)) := _ne
  refine wp_region_of (Stf w w.heap.size f) (by kernel_rfl) (by kernel_rfl) S2.out.drew ?_
  repeat (quiet_step (first
    | (go_at_call 65; with_reducible exact Calls.of_below Stf.keep (N4.out _))
    | (go_at_call 67; with_reducible exact Calls.of_below Stf.keep (A3.out _))))
  refine wpQuiet_nil ?_
  rintro _ ⟨p, rfl⟩
  clear S2 e2
  have S2 := Lib.hid p.ok
  have e2 := p.ok.box.all
  generalize p.w = w4 at *
  clear hc wg1 wg2 wg3 wg4
  go_wp2_with (first
    | (go_at_call 62; with_reducible refine (CP.out _).mono ?_; rintro e w3 ⟨rfl, rfl⟩)
    | (go_at_call 65; with_reducible refine (N5.out _).mono ?_; rintro e w3 ⟨rfl, hb⟩; have S3 := Lib.hid (Stf.keep _ _ S2.out hb); clear hb S2 e2; have S2 := S3; clear S3; have e2 := S2.out.box.all)
    | (go_at_call 65; with_reducible refine (N6.out _).mono ?_; rintro e w3 ⟨rfl, hb⟩; have S3 := Lib.hid (Stf.keep _ _ S2.out hb); clear hb S2 e2; have S2 := S3; clear S3; have e2 := S2.out.box.all)
    | (go_at_call 65; with_reducible refine (N7.out _).mono ?_; rintro e w3 ⟨rfl, hb⟩; have S3 := Lib.hid (Stf.keep _ _ S2.out hb); clear hb S2 e2; have S2 := S3; clear S3; have e2 := S2.out.box.all))
  go_returns
  exact ⟨by rw [HO.out]; rfl, S2.out.bel⟩

set_option maxRecDepth 100000 in
set_option maxHeartbeats 8000000 in
theorem refOctets10_nokey (f : Fr) (w : World) (hf : Okf f) (hu : FrU f) (c1 :  fro f.kd) (c2 :  nb f.kd) (c3 :  pl f.kd) (c4 :  f.kd = 18) (hky : f.ky = 0) :
    Calls Tryd.prog 24 #[Fr_.v f] w fun e w' => e = .returned (.string (bs (oct f))) ∧ Below w.heap.size w w' := by
  have sb := setv_bounds f
  have N1 : Hid (∀ w, Calls Tryd.prog 65 #[.int .i64 f.kd, .int .i64 1] w fun e w' => e = .returned (.string (bs (le f.kd.toNat 1))) ∧ Below w.heap.size w w') := fun w => refNum10 f.kd 1 w (by have := hf.kd; unfold isK at this; omega) (by decide)
  have N2 : Hid (∀ w, Calls Tryd.prog 65 #[.int .i64 (setv f + 64 * f.po), .int .i64 1] w fun e w' => e = .returned (.string (bs (le (setv f + 64 * f.po).toNat 1))) ∧ Below w.heap.size w w') := fun w => refNum10 (setv f + 64 * f.po) 1 w (by have := hf.po; omega) (by decide)
  have N3 : Hid (∀ w, Calls Tryd.prog 65 #[.int .i64 f.du, .int .i64 2] w fun e w' => e = .returned (.string (bs (le f.du.toNat 2))) ∧ Below w.heap.size w w') := fun w => refNum10 f.du 2 w (by have := hf.du; omega) (by decide)
  have A1 : Hid (∀ w, Calls Tryd.prog 67 #[.int .u64 f.ta] w fun e w' => e = .returned (.string (bs (be f.ta.toNat))) ∧ Below w.heap.size w w') := fun w => refAddr10 f.ta w hu.ta
  have A2 : Hid (∀ w, Calls Tryd.prog 67 #[.int .u64 f.fa] w fun e w' => e = .returned (.string (bs (be f.fa.toNat))) ∧ Below w.heap.size w w') := fun w => refAddr10 f.fa w hu.fa
  have A3 : Hid (∀ w, Calls Tryd.prog 67 #[.int .u64 f.th] w fun e w' => e = .returned (.string (bs (be f.th.toNat))) ∧ Below w.heap.size w w') := fun w => refAddr10 f.th w hu.th
  have N4 : Hid (∀ w, Calls Tryd.prog 65 #[.int .i64 (16 * f.sq + f.fg), .int .i64 2] w fun e w' => e = .returned (.string (bs (le (16 * f.sq + f.fg).toNat 2))) ∧ Below w.heap.size w w') := fun w => refNum10 (16 * f.sq + f.fg) 2 w (by have := hf.sq c2; have := hf.fg; omega) (by decide)
  have wg1 : RowKit.wrap64 (16 * f.sq) = 16 * f.sq := IntWalk.wrap64_in _ (by have := hf.sq c2; omega)
  have wg2 : RowKit.wrap64 (16 * f.sq + f.fg) = 16 * f.sq + f.fg := IntWalk.wrap64_in _ (by have := hf.sq c2; have := hf.fg; omega)
  have wg3 : IntKind.i64.wrap (16 * f.sq) = 16 * f.sq := IntWalk.i64_in _ (by have := hf.sq c2; omega)
  have wg4 : IntKind.i64.wrap (16 * f.sq + f.fg) = 16 * f.sq + f.fg := IntWalk.i64_in _ (by have := hf.sq c2; have := hf.fg; omega)
  have N5 : Hid (∀ w, Calls Tryd.prog 65 #[.int .i64 f.ct, .int .i64 1] w fun e w' => e = .returned (.string (bs (le f.ct.toNat 1))) ∧ Below w.heap.size w w') := fun w => refNum10 f.ct 1 w (by have := hf.ct c3; omega) (by decide)
  have N6 : Hid (∀ w, Calls Tryd.prog 65 #[.int .i64 f.ky, .int .i64 2] w fun e w' => e = .returned (.string (bs (le f.ky.toNat 2))) ∧ Below w.heap.size w w') := fun w => refNum10 f.ky 2 w (by have := hf.ky c4; omega) (by decide)
  have CS := Lib.hid (refSet_any f)
  have CF := Lib.hid (refFrom_any f.kd)
  have CN := Lib.hid (refNumbered_any f.kd)
  have CP := Lib.hid (refPolicy_any f.kd)
  rw [decide_eq_true c1] at CF
  rw [decide_eq_true c2] at CN
  rw [decide_eq_true c3] at CP
  have h18 : (f.kd == 18) = true := by simp [c4]
  have hkn : (f.ky != 0) = false := by simp [hky]
  have wf1 : RowKit.wrap64 (64 * f.po) = 64 * f.po := IntWalk.wrap64_in _ (by have := hf.po; omega)
  have wf2 : RowKit.wrap64 (setv f + 64 * f.po) = setv f + 64 * f.po := IntWalk.wrap64_in _ (by have := hf.po; omega)
  have wf3 : IntKind.i64.wrap (64 * f.po) = 64 * f.po := IntWalk.i64_in _ (by have := hf.po; omega)
  have wf4 : IntKind.i64.wrap (setv f + 64 * f.po) = setv f + 64 * f.po := IntWalk.i64_in _ (by have := hf.po; omega)
  have S1 := Lib.hid (Stf.new w f)
  have HE : Hid (oct f = o1 f ++ o2 f ++ o3 f ++ o4 f ++ o5 f) := rfl
  obtain ⟨L1, hL1⟩ : ∃ L1, le f.kd.toNat 1 ++ le (setv f + 64 * f.po).toNat 1 = L1 := ⟨_, rfl⟩
  obtain ⟨L2, hL2⟩ : ∃ L2, L1 ++ le f.du.toNat 2 = L2 := ⟨_, rfl⟩
  obtain ⟨L3, hL3⟩ : ∃ L3, L2 ++ be f.ta.toNat = L3 := ⟨_, rfl⟩
  have n1 : L1.length = 2 := by rw [← hL1]; simp [le_len]
  have n2 : L2.length = 4 := by rw [← hL2]; simp [le_len, n1]
  have n3 : L3.length = 10 := by rw [← hL3]; simp [be_len, n2]
  have a1 := bs_add _ _ _ (by simp [le_len]) hL1
  have a2 := bs_add _ _ _ (by simp [le_len, n1]) hL2
  have a3 := bs_add _ _ _ (by simp [be_len, n2]) hL3
  obtain ⟨L4, hL4⟩ : ∃ L4, L3 ++ be f.fa.toNat = L4 := ⟨_, rfl⟩
  have n4 : L4.length = 16 := by rw [← hL4]; simp [be_len, n3]
  have a4 := bs_add _ _ _ (by simp [be_len, n3]) hL4
  obtain ⟨L5, hL5⟩ : ∃ L5, L4 ++ be f.th.toNat = L5 := ⟨_, rfl⟩
  have n5 : L5.length = 22 := by rw [← hL5]; simp [be_len, n4]
  have a5 := bs_add _ _ _ (by simp [be_len, n4]) hL5
  obtain ⟨L6, hL6⟩ : ∃ L6, L5 ++ le (16 * f.sq + f.fg).toNat 2 = L6 := ⟨_, rfl⟩
  have n6 : L6.length = 24 := by rw [← hL6]; simp [le_len, n5]
  have a6 := bs_add _ _ _ (by simp [le_len, n5]) hL6
  obtain ⟨L7, hL7⟩ : ∃ L7, L6 ++ le f.ct.toNat 1 = L7 := ⟨_, rfl⟩
  have n7 : L7.length = 25 := by rw [← hL7]; simp [le_len, n6]
  have a7 := bs_add _ _ _ (by simp [le_len, n6]) hL7
  obtain ⟨L8, hL8⟩ : ∃ L8, L7 ++ le f.ky.toNat 2 = L8 := ⟨_, rfl⟩
  have n8 : L8.length = 27 := by rw [← hL8]; simp [le_len, n7]
  have a8 := bs_add _ _ _ (by simp [le_len, n7]) hL8
  have HO : Hid (oct f = L8) := by
    unfold Hid
    rw [HE.out]
    unfold o1 o2 o3 o4 o5
    rw [← hL8]; rw [← hL7]; rw [← hL6]; rw [← hL5]; rw [← hL4]; rw [← hL3]; rw [← hL2]; rw [← hL1]
    rw [if_pos c1]; rw [if_pos c2]; rw [if_pos c3]; rw [if_pos c4]; rw [if_pos hky]
    simp
  have hc : ∀ (p : Of (Stf w w.heap.size f)) (j : Nat), p.w.cell? ⟨w.heap.size, j, none⟩ = (Fr_.C f)[j]? := fun p => p.ok.box.all
  have hl : ∀ (p : Of (Stf w w.heap.size f)), (Fr_.LoadF ⟨w.heap.size, 0, none⟩).run Tryd.prog p.w = .ok (Fr_.v f) p.w := fun p => p.ok.box.loadF
  have _ne : Nonempty (Of (Stf w w.heap.size f)) := ⟨⟨_, S1.out⟩⟩
  clear sb hf hu hky c1 c2 c3 c4 HE hL1 hL2 hL3 hL4 hL5 hL6 hL7 hL8 n1 n2 n3 n4 n5 n6 n7 n8
  go_enter Tryd.func24, Tryd.ntmps24
  go_wp2
  refine wp_region_of (Stf w w.heap.size f) (by kernel_rfl) (by kernel_rfl) S1.out.drew ?_
  repeat (quiet_step (first
    | (go_at_call 65; with_reducible exact Calls.of_below Stf.keep (N1.out _))
    | (go_at_call 65; with_reducible exact Calls.of_below Stf.keep (N2.out _))
    | (go_at_call 65; with_reducible exact Calls.of_below Stf.keep (N3.out _))
    | (go_at_call 66; exact Calls.of_below Stf.keep (CS.out _))
    | (go_at_call 67; with_reducible exact Calls.of_below Stf.keep (A1.out _))))
  refine wpQuiet_nil ?_
  rintro _ ⟨p, rfl⟩
  have S2 := Lib.hid p.ok
  have e2 := p.ok.box.all
  generalize p.w = w2 at *
  clear hl a1 a2 a3 wf1 wf2 wf3 wf4 CS
  go_wp2_with (first
    | (go_at_call 68; with_reducible refine (CF.out _).mono ?_; rintro e w3 ⟨rfl, rfl⟩)
    | (go_at_call 69; with_reducible refine (CN.out _).mono ?_; rintro e w3 ⟨rfl, rfl⟩)
    | (go_at_call 67; with_reducible refine (A2.out _).mono ?_; rintro e w3 ⟨rfl, hb⟩; have S3 := Lib.hid (Stf.keep _ _ S2.out hb); clear hb S2 e2; have S2 := S3; clear S3; have e2 := S2.out.box.all))
  have _ne2 : Nonempty (Of (Stf w w.heap.size f)) := _ne
  refine wp_region_of (Stf w w.heap.size f) (by kernel_rfl) (by kernel_rfl) S2.out.drew ?_
  repeat (quiet_step (first
    | (go_at_call 65; with_reducible exact Calls.of_below Stf.keep (N4.out _))
    | (go_at_call 67; with_reducible exact Calls.of_below Stf.keep (A3.out _))))
  refine wpQuiet_nil ?_
  rintro _ ⟨p, rfl⟩
  clear S2 e2
  have S2 := Lib.hid p.ok
  have e2 := p.ok.box.all
  generalize p.w = w4 at *
  clear hc wg1 wg2 wg3 wg4
  go_wp2_with (first
    | (go_at_call 62; with_reducible refine (CP.out _).mono ?_; rintro e w3 ⟨rfl, rfl⟩)
    | (go_at_call 65; with_reducible refine (N5.out _).mono ?_; rintro e w3 ⟨rfl, hb⟩; have S3 := Lib.hid (Stf.keep _ _ S2.out hb); clear hb S2 e2; have S2 := S3; clear S3; have e2 := S2.out.box.all)
    | (go_at_call 65; with_reducible refine (N6.out _).mono ?_; rintro e w3 ⟨rfl, hb⟩; have S3 := Lib.hid (Stf.keep _ _ S2.out hb); clear hb S2 e2; have S2 := S3; clear S3; have e2 := S2.out.box.all))
  go_returns
  exact ⟨by rw [HO.out]; rfl, S2.out.bel⟩

set_option maxRecDepth 100000 in
set_option maxHeartbeats 8000000 in
theorem refOctets10_null (f : Fr) (w : World) (hf : Okf f) (hu : FrU f) (c1 :  fro f.kd) (c2 :  nb f.kd) (c3 :  pl f.kd) (c4 : ¬ f.kd = 18) :
    Calls Tryd.prog 24 #[Fr_.v f] w fun e w' => e = .returned (.string (bs (oct f))) ∧ Below w.heap.size w w' := by
  have sb := setv_bounds f
  have N1 : Hid (∀ w, Calls Tryd.prog 65 #[.int .i64 f.kd, .int .i64 1] w fun e w' => e = .returned (.string (bs (le f.kd.toNat 1))) ∧ Below w.heap.size w w') := fun w => refNum10 f.kd 1 w (by have := hf.kd; unfold isK at this; omega) (by decide)
  have N2 : Hid (∀ w, Calls Tryd.prog 65 #[.int .i64 (setv f + 64 * f.po), .int .i64 1] w fun e w' => e = .returned (.string (bs (le (setv f + 64 * f.po).toNat 1))) ∧ Below w.heap.size w w') := fun w => refNum10 (setv f + 64 * f.po) 1 w (by have := hf.po; omega) (by decide)
  have N3 : Hid (∀ w, Calls Tryd.prog 65 #[.int .i64 f.du, .int .i64 2] w fun e w' => e = .returned (.string (bs (le f.du.toNat 2))) ∧ Below w.heap.size w w') := fun w => refNum10 f.du 2 w (by have := hf.du; omega) (by decide)
  have A1 : Hid (∀ w, Calls Tryd.prog 67 #[.int .u64 f.ta] w fun e w' => e = .returned (.string (bs (be f.ta.toNat))) ∧ Below w.heap.size w w') := fun w => refAddr10 f.ta w hu.ta
  have A2 : Hid (∀ w, Calls Tryd.prog 67 #[.int .u64 f.fa] w fun e w' => e = .returned (.string (bs (be f.fa.toNat))) ∧ Below w.heap.size w w') := fun w => refAddr10 f.fa w hu.fa
  have A3 : Hid (∀ w, Calls Tryd.prog 67 #[.int .u64 f.th] w fun e w' => e = .returned (.string (bs (be f.th.toNat))) ∧ Below w.heap.size w w') := fun w => refAddr10 f.th w hu.th
  have N4 : Hid (∀ w, Calls Tryd.prog 65 #[.int .i64 (16 * f.sq + f.fg), .int .i64 2] w fun e w' => e = .returned (.string (bs (le (16 * f.sq + f.fg).toNat 2))) ∧ Below w.heap.size w w') := fun w => refNum10 (16 * f.sq + f.fg) 2 w (by have := hf.sq c2; have := hf.fg; omega) (by decide)
  have wg1 : RowKit.wrap64 (16 * f.sq) = 16 * f.sq := IntWalk.wrap64_in _ (by have := hf.sq c2; omega)
  have wg2 : RowKit.wrap64 (16 * f.sq + f.fg) = 16 * f.sq + f.fg := IntWalk.wrap64_in _ (by have := hf.sq c2; have := hf.fg; omega)
  have wg3 : IntKind.i64.wrap (16 * f.sq) = 16 * f.sq := IntWalk.i64_in _ (by have := hf.sq c2; omega)
  have wg4 : IntKind.i64.wrap (16 * f.sq + f.fg) = 16 * f.sq + f.fg := IntWalk.i64_in _ (by have := hf.sq c2; have := hf.fg; omega)
  have N5 : Hid (∀ w, Calls Tryd.prog 65 #[.int .i64 f.ct, .int .i64 1] w fun e w' => e = .returned (.string (bs (le f.ct.toNat 1))) ∧ Below w.heap.size w w') := fun w => refNum10 f.ct 1 w (by have := hf.ct c3; omega) (by decide)
  have CS := Lib.hid (refSet_any f)
  have CF := Lib.hid (refFrom_any f.kd)
  have CN := Lib.hid (refNumbered_any f.kd)
  have CP := Lib.hid (refPolicy_any f.kd)
  rw [decide_eq_true c1] at CF
  rw [decide_eq_true c2] at CN
  rw [decide_eq_true c3] at CP
  have h18 : (f.kd == 18) = false := by simp [c4]
  have wf1 : RowKit.wrap64 (64 * f.po) = 64 * f.po := IntWalk.wrap64_in _ (by have := hf.po; omega)
  have wf2 : RowKit.wrap64 (setv f + 64 * f.po) = setv f + 64 * f.po := IntWalk.wrap64_in _ (by have := hf.po; omega)
  have wf3 : IntKind.i64.wrap (64 * f.po) = 64 * f.po := IntWalk.i64_in _ (by have := hf.po; omega)
  have wf4 : IntKind.i64.wrap (setv f + 64 * f.po) = setv f + 64 * f.po := IntWalk.i64_in _ (by have := hf.po; omega)
  have S1 := Lib.hid (Stf.new w f)
  have HE : Hid (oct f = o1 f ++ o2 f ++ o3 f ++ o4 f ++ o5 f) := rfl
  obtain ⟨L1, hL1⟩ : ∃ L1, le f.kd.toNat 1 ++ le (setv f + 64 * f.po).toNat 1 = L1 := ⟨_, rfl⟩
  obtain ⟨L2, hL2⟩ : ∃ L2, L1 ++ le f.du.toNat 2 = L2 := ⟨_, rfl⟩
  obtain ⟨L3, hL3⟩ : ∃ L3, L2 ++ be f.ta.toNat = L3 := ⟨_, rfl⟩
  have n1 : L1.length = 2 := by rw [← hL1]; simp [le_len]
  have n2 : L2.length = 4 := by rw [← hL2]; simp [le_len, n1]
  have n3 : L3.length = 10 := by rw [← hL3]; simp [be_len, n2]
  have a1 := bs_add _ _ _ (by simp [le_len]) hL1
  have a2 := bs_add _ _ _ (by simp [le_len, n1]) hL2
  have a3 := bs_add _ _ _ (by simp [be_len, n2]) hL3
  obtain ⟨L4, hL4⟩ : ∃ L4, L3 ++ be f.fa.toNat = L4 := ⟨_, rfl⟩
  have n4 : L4.length = 16 := by rw [← hL4]; simp [be_len, n3]
  have a4 := bs_add _ _ _ (by simp [be_len, n3]) hL4
  obtain ⟨L5, hL5⟩ : ∃ L5, L4 ++ be f.th.toNat = L5 := ⟨_, rfl⟩
  have n5 : L5.length = 22 := by rw [← hL5]; simp [be_len, n4]
  have a5 := bs_add _ _ _ (by simp [be_len, n4]) hL5
  obtain ⟨L6, hL6⟩ : ∃ L6, L5 ++ le (16 * f.sq + f.fg).toNat 2 = L6 := ⟨_, rfl⟩
  have n6 : L6.length = 24 := by rw [← hL6]; simp [le_len, n5]
  have a6 := bs_add _ _ _ (by simp [le_len, n5]) hL6
  obtain ⟨L7, hL7⟩ : ∃ L7, L6 ++ le f.ct.toNat 1 = L7 := ⟨_, rfl⟩
  have n7 : L7.length = 25 := by rw [← hL7]; simp [le_len, n6]
  have a7 := bs_add _ _ _ (by simp [le_len, n6]) hL7
  have HO : Hid (oct f = L7) := by
    unfold Hid
    rw [HE.out]
    unfold o1 o2 o3 o4 o5
    rw [← hL7]; rw [← hL6]; rw [← hL5]; rw [← hL4]; rw [← hL3]; rw [← hL2]; rw [← hL1]
    rw [if_pos c1]; rw [if_pos c2]; rw [if_pos c3]; rw [if_neg c4]
    simp
  have hc : ∀ (p : Of (Stf w w.heap.size f)) (j : Nat), p.w.cell? ⟨w.heap.size, j, none⟩ = (Fr_.C f)[j]? := fun p => p.ok.box.all
  have hl : ∀ (p : Of (Stf w w.heap.size f)), (Fr_.LoadF ⟨w.heap.size, 0, none⟩).run Tryd.prog p.w = .ok (Fr_.v f) p.w := fun p => p.ok.box.loadF
  have _ne : Nonempty (Of (Stf w w.heap.size f)) := ⟨⟨_, S1.out⟩⟩
  clear sb hf hu  c1 c2 c3 c4 HE hL1 hL2 hL3 hL4 hL5 hL6 hL7 n1 n2 n3 n4 n5 n6 n7
  go_enter Tryd.func24, Tryd.ntmps24
  go_wp2
  refine wp_region_of (Stf w w.heap.size f) (by kernel_rfl) (by kernel_rfl) S1.out.drew ?_
  repeat (quiet_step (first
    | (go_at_call 65; with_reducible exact Calls.of_below Stf.keep (N1.out _))
    | (go_at_call 65; with_reducible exact Calls.of_below Stf.keep (N2.out _))
    | (go_at_call 65; with_reducible exact Calls.of_below Stf.keep (N3.out _))
    | (go_at_call 66; exact Calls.of_below Stf.keep (CS.out _))
    | (go_at_call 67; with_reducible exact Calls.of_below Stf.keep (A1.out _))))
  refine wpQuiet_nil ?_
  rintro _ ⟨p, rfl⟩
  have S2 := Lib.hid p.ok
  have e2 := p.ok.box.all
  generalize p.w = w2 at *
  clear hl a1 a2 a3 wf1 wf2 wf3 wf4 CS
  go_wp2_with (first
    | (go_at_call 68; with_reducible refine (CF.out _).mono ?_; rintro e w3 ⟨rfl, rfl⟩)
    | (go_at_call 69; with_reducible refine (CN.out _).mono ?_; rintro e w3 ⟨rfl, rfl⟩)
    | (go_at_call 67; with_reducible refine (A2.out _).mono ?_; rintro e w3 ⟨rfl, hb⟩; have S3 := Lib.hid (Stf.keep _ _ S2.out hb); clear hb S2 e2; have S2 := S3; clear S3; have e2 := S2.out.box.all))
  have _ne2 : Nonempty (Of (Stf w w.heap.size f)) := _ne
  refine wp_region_of (Stf w w.heap.size f) (by kernel_rfl) (by kernel_rfl) S2.out.drew ?_
  repeat (quiet_step (first
    | (go_at_call 65; with_reducible exact Calls.of_below Stf.keep (N4.out _))
    | (go_at_call 67; with_reducible exact Calls.of_below Stf.keep (A3.out _))))
  refine wpQuiet_nil ?_
  rintro _ ⟨p, rfl⟩
  clear S2 e2
  have S2 := Lib.hid p.ok
  have e2 := p.ok.box.all
  generalize p.w = w4 at *
  clear hc wg1 wg2 wg3 wg4
  go_wp2_with (first
    | (go_at_call 62; with_reducible refine (CP.out _).mono ?_; rintro e w3 ⟨rfl, rfl⟩)
    | (go_at_call 65; with_reducible refine (N5.out _).mono ?_; rintro e w3 ⟨rfl, hb⟩; have S3 := Lib.hid (Stf.keep _ _ S2.out hb); clear hb S2 e2; have S2 := S3; clear S3; have e2 := S2.out.box.all))
  go_returns
  exact ⟨by rw [HO.out]; rfl, S2.out.bel⟩

theorem refOctets10_any (f : Fr) (w : World) (hf : Okf f) (hu : FrU f) :
    Calls Tryd.prog 24 #[Fr_.v f] w fun e w' => e = .returned (.string (bs (oct f))) ∧ Below w.heap.size w w' := by
  rcases kclass' hf.kd with ⟨c1, c2, c3, c4⟩ | ⟨c1, c2, c3, c4⟩ | ⟨c1, c2, c3, c4⟩ | ⟨c1, c2, c3, c4⟩ | ⟨c1, c2, c3, c4⟩
  · exact refOctets10_mg f w hf hu c1 c2 c3 c4
  · exact refOctets10_rts f w hf hu c1 c2 c3 c4
  · exact refOctets10_cts f w hf hu c1 c2 c3 c4
  · by_cases hky : f.ky = 0
    · exact refOctets10_nokey f w hf hu c1 c2 c3 c4 hky
    · exact refOctets10_key f w hf hu c1 c2 c3 c4 hky
  · exact refOctets10_null f w hf hu c1 c2 c3 c4
end Go.Proofs.YtkhnhlahfedkhaaDoor
