/-
  THE WALK of layer 10: the reference's unused, for the kinds of one class.
-/
import Derived.Test.YtkhnhlahfedkhaaDoorHdRef
namespace Go.Proofs.YtkhnhlahfedkhaaDoor
open Go.RowKit Go.Hd

set_option maxRecDepth 100000 in
set_option maxHeartbeats 8000000 in
theorem refUnused_rest (f : Fr) (w : World) (h1 : ¬ pl f.kd) (h2 : fro f.kd) (h3 : ¬ nb f.kd) (h4 : ¬ bd f.kd) (h5 : ¬ f.kd = 18) :
    Calls Tryd.prog 60 #[Fr_.v f] w fun e w' => e = .returned (.bool (decide (unu f))) ∧ Below w.heap.size w w' := by
  have CS := Lib.hid (refSet_any f)
  have CL := Lib.hid (refFlags_any f.kd)
  have CF := Lib.hid (refFrom_any f.kd)
  have CN := Lib.hid (refNumbered_any f.kd)
  have CP := Lib.hid (refPolicy_any f.kd)
  have CB := Lib.hid (refBody_any f.kd)
  rw [decide_eq_false h1] at CP
  rw [decide_eq_true h2] at CF
  rw [decide_eq_false h3] at CN
  rw [decide_eq_false h4] at CB
  have h18 : (f.kd != 18) = true := by simp [h5]
  have H1 := Lib.hid h1
  have H2 := Lib.hid h2
  have H3 := Lib.hid h3
  have H4 := Lib.hid h4
  have H5 := Lib.hid h5
  clear h1 h2 h3 h4 h5
  have HU := Lib.hid (ufl_bits f)
  have hsb := setv_bounds f
  have hfb := flg_bounds f.kd
  have HUB : Hid (∀ i, ub f i ↔ (setv f / 2 ^ i % 2 = 1 ∧ flg f.kd / 2 ^ i % 2 = 0)) := fun _ => Iff.rfl
  generalize setv f = n at *
  generalize flg f.kd = fl at *
  unfold Fr_.v at *
  obtain ⟨w0, hw0⟩ : ∃ w0, w0 = w.alloc (.cells #[.int .i64 f.kd, .bool f.rt, .bool f.mo, .bool f.pw, .bool f.st, .bool f.la, .bool f.jo, .int .i64 f.po, .int .i64 f.du, .int .u64 f.ta, .int .u64 f.fa, .int .u64 f.th, .int .i64 f.sq, .int .i64 f.fg, .int .i64 f.ct, .int .i64 f.ky, .int .i64 f.cn, .string f.bo] 25) := ⟨_, rfl⟩
  have X0 : Fr_.Box w0 w.heap.size f := by rw [hw0]; exact Fr_.Box.new w f rfl
  have B0 : Below w.heap.size w w0 := by rw [hw0]; exact (Below.refl _ _).alloc (Nat.le_refl _) _
  go_enter Tryd.func60, Tryd.ntmps60
  go_wp2
  rw [← hw0]
  clear hw0
  have XX := Lib.hid X0
  have BB := Lib.hid B0
  clear X0 B0
  go_loopw [4] (fun i wr => ∃ (m : Nat) (b : Int), m ≤ 6 ∧ b = 2 ^ m ∧ i = .int .i64 b ∧ (∀ j, j < m → ¬ ub f j) ∧ Below w0.heap.size w0 wr) (fun i _ => (64 - intOf i).toNat)
  case atStart => exact ⟨0, 1, by decide, rfl, rfl, fun j hj => absurd hj (Nat.not_lt_zero j), Below.refl _ _⟩
  case round =>
    obtain ⟨m, b, hm, hbm, rfl, hno, hb⟩ := hrel
    have HNO := Lib.hid hno
    have HB := Lib.hid (BB.out.trans (hb.mono (Nat.le_of_lt XX.out.lt)))
    have HBX := Lib.hid hb
    have hbx := (XX.out.below hb XX.out.lt).cells
    clear hno hb
    by_cases hlt : m < 6
    · have hbr : 1 ≤ b ∧ b ≤ 32 := by
        rw [hbm]
        match m, hlt with
        | 0, _ => decide
        | 1, _ => decide
        | 2, _ => decide
        | 3, _ => decide
        | 4, _ => decide
        | 5, _ => decide
      have hb2 : b * 2 = 2 ^ (m + 1) := by rw [hbm, Int.pow_succ]
      have hub := HUB.out m
      rw [← hbm] at hub
      have HUBM := Lib.hid hub
      have HB2 := Lib.hid hb2
      obtain ⟨hb1, hb32⟩ := hbr
      obtain ⟨k0, k1, k2, k3, k4, k5, k6, k7, k8, k9, k10, k11, k12, k13, k14, k15, k16, k17⟩ := hbx
      have nn : 0 ≤ n / b ∧ n / b ≤ 63 := ⟨Int.ediv_nonneg hsb.1 (by omega), Int.le_trans (Int.ediv_le_self _ hsb.1) hsb.2⟩
      have ff : 0 ≤ fl / b ∧ fl / b ≤ 63 := ⟨Int.ediv_nonneg hfb.1 (by omega), Int.le_trans (Int.ediv_le_self _ hfb.1) hfb.2⟩
      have t1 : n.tdiv b = n / b := Int.tdiv_eq_ediv_of_nonneg hsb.1
      have t2 : fl.tdiv b = fl / b := Int.tdiv_eq_ediv_of_nonneg hfb.1
      have t3 : (n / b).tmod 2 = n / b % 2 := Int.tmod_eq_emod_of_nonneg nn.1
      have t4 : (fl / b).tmod 2 = fl / b % 2 := Int.tmod_eq_emod_of_nonneg ff.1
      have HBM := Lib.hid hbm
      clear hub hb2 hbm
      generalize n / b = x at *
      generalize fl / b = y at *
      have q1 : IntKind.i64.wrap x = x := IntWalk.i64_in _ (by omega)
      have q2 : IntKind.i64.wrap y = y := IntWalk.i64_in _ (by omega)
      have z0 : ¬ b = 0 := by omega
      have z1 : (b == 0) = false := by simp [z0]
      by_cases c1 : x % 2 = 1
      · have c1' : (x % 2 == 1) = true := by simp [c1]
        by_cases c2 : y % 2 = 0
        · have HR : Hid (decide (unu f) = true) := decide_eq_true (.inl (HU.out.2 ⟨m, hlt, HUBM.out.2 ⟨c1, c2⟩⟩))
          have c2' : (y % 2 == 0) = true := by simp [c2]
          go_wp2_with (first
            | (go_at_call 66; refine (CS.out _).mono ?_; rintro e w' ⟨rfl, hb⟩; have HB2' := Lib.hid (HB.out.trans (hb.mono HB.out.size)); clear hb)
            | (go_at_call 79; refine (CL.out _).mono ?_; rintro e w' ⟨rfl, rfl⟩))
          go_returns
          exact ⟨by rw [HR.out]; rfl, HB2'.out⟩
        · have HN : Hid (¬ ub f m) := fun h => c2 (HUBM.out.1 h).2
          have c2' : (y % 2 == 0) = false := by simp [c2]
          go_wp2_with (first
            | (go_at_call 66; refine (CS.out _).mono ?_; rintro e w' ⟨rfl, hb⟩; have HB2' := Lib.hid (HBX.out.trans (hb.mono HBX.out.size)); clear hb)
            | (go_at_call 79; refine (CL.out _).mono ?_; rintro e w' ⟨rfl, rfl⟩))
          go_roundw
          case rel => exact ⟨m + 1, b * 2, by omega, HB2.out, by go_num, fun j hj => by
            by_cases e : j = m
            · subst e; exact HN.out
            · exact HNO.out j (by omega), HB2'.out⟩
          case measure => simp [intOf]; omega
      · have HN : Hid (¬ ub f m) := fun h => c1 (HUBM.out.1 h).1
        have c1' : (x % 2 == 1) = false := by simp [c1]
        go_wp2_with (go_at_call 66; refine (CS.out _).mono ?_; rintro e w' ⟨rfl, hb⟩; have HB2' := Lib.hid (HBX.out.trans (hb.mono HBX.out.size)); clear hb)
        go_roundw
        case rel => exact ⟨m + 1, b * 2, by omega, HB2.out, by go_num, fun j hj => by
          by_cases e : j = m
          · subst e; exact HN.out
          · exact HNO.out j (by omega), HB2'.out⟩
        case measure => simp [intOf]; omega
    · obtain rfl : m = 6 := by omega
      have hnu : ¬ ufl f := fun h => by obtain ⟨i, hi, hu⟩ := HU.out.1 h; exact HNO.out i hi hu
      have hb64 : b = 64 := hbm
      subst hb64
      obtain ⟨k0, k1, k2, k3, k4, k5, k6, k7, k8, k9, k10, k11, k12, k13, k14, k15, k16, k17⟩ := hbx
      clear HNO hbm hsb hfb
      have HE := Lib.hid (empty_iff f.bo)
      go_wp2_with (first
        | (go_at_call 62; refine (CP.out _).mono ?_; rintro e w' ⟨rfl, rfl⟩)
        | (go_at_call 68; refine (CF.out _).mono ?_; rintro e w' ⟨rfl, rfl⟩)
        | (go_at_call 69; refine (CN.out _).mono ?_; rintro e w' ⟨rfl, rfl⟩)
        | (go_at_call 59; refine (CB.out _).mono ?_; rintro e w' ⟨rfl, rfl⟩))
      all_goals
        go_returns
        clear CS CL CF CN CP CB HU HUB HBX k0 k1 k2 k3 k4 k5 k6 k7 k8 k9 k10 k11 k12 k13 k14 k15 k16 k17
        refine ⟨congrArg (fun b : Bool => Ending.returned (Value.bool b)) ?_, HB.out⟩
        have he := HE.out
        have h1 := H1.out
        have h2 := H2.out
        have h3 := H3.out
        have h4 := H4.out
        have h5 := H5.out
        clear HE HB H1 H2 H3 H4 H5
        (try simp only [he] at *)
        first
          | (simp [unu, *]; done)
          | (simp [unu, *]; exact bne_dec _)
          | (rw [Bool.eq_iff_iff]; simp [unu, *]; done)
          | (rw [Bool.eq_iff_iff]; simp [unu, *]; omega)
          | (simp_all [unu]; exact bne_dec _)
          | (simp_all [unu]; done)
end Go.Proofs.YtkhnhlahfedkhaaDoor
