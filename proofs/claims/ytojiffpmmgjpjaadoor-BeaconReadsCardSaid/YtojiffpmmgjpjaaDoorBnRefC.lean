/-
  WALKS of the reference of layer 14: Parameters, announced, Check.
-/
import Derived.Test.YtojiffpmmgjpjaaDoorBnW2
import Derived.Test.YtojiffpmmgjpjaaDoorTmRef
import Derived.BigRegion
import Derived.Deep.LoopGhost
namespace Go.Proofs.YtojiffpmmgjpjaaDoor
open Go.RowKit Go.Bn Go.Wr
attribute [local go_sem ↓ high] Bn_.loadF Bn_.storeF Bn_.v_cells Bn_.v_match Bn_.loadT Bn_.loadS Bn_.loadP
attribute [local go_sem] Bn_.C0 Bn_.C1 Bn_.C2 Bn_.C3 Bn_.C4 Bn_.loadF_new

set_option maxRecDepth 100000 in
set_option maxHeartbeats 2000000 in
theorem refParams14_any (p : Pr) (w : World) :
    Calls Tryd.prog 56 #[.agg #[.int .i64 p.a, .int .i64 p.i, .int .i64 p.x, .int .i64 p.t]] w fun e w' => e = .returned (.int .i64 (chkP p)) ∧ Below w.heap.size w w' := by
  have HP : Hid (chkP p = if prOk p = true then 0 else 4) := rfl
  have HO := Lib.hid (prOk_iff (p := p))
  obtain ⟨a, i, x, t⟩ := p
  simp only at HO
  by_cases h1 : a < 2
  case' neg => by_cases h2 : 15 < a
  case' neg => by_cases h3 : i < 0
  case' neg => by_cases h4 : 10 < x
  case' neg => by_cases h5 : x < i
  case' neg => by_cases h6 : t < 0
  case' neg => by_cases h7 : 32767 < t
  all_goals
    first | (have HR : Hid (chkP ⟨a, i, x, t⟩ = 4) := HP.out.trans (if_neg fun h => by have := HO.out.1 h; omega)) | (have HR : Hid (chkP ⟨a, i, x, t⟩ = 0) := HP.out.trans (if_pos (HO.out.2 (by omega))))
    clear HP HO
    go_enter Tryd.func56, Tryd.ntmps56
    go_wp2
    go_ret
    exact ⟨by rw [HR.out]; rfl, (Below.refl _ _).alloc (Nat.le_refl _) _⟩

theorem chkS_cases (c n : Int) : (¬ ((0 ≤ c ∧ c ≤ 8) ∧ 0 ≤ n ∧ n ≤ 255) → chkS c n = 4) ∧ (((0 ≤ c ∧ c ≤ 8) ∧ 0 ≤ n ∧ n ≤ 255) → chkS c n = if c = 0 ∧ ¬ n = 0 then 3 else 0) := by
  unfold chkS
  constructor
  · intro h; rw [if_neg]; rw [Bool.and_eq_true, wn_iff, wn_iff]; exact h
  · intro h; rw [if_pos]; rw [Bool.and_eq_true, wn_iff, wn_iff]; exact h
set_option maxRecDepth 100000 in
set_option maxHeartbeats 2000000 in
theorem refAnn14_any (c n : Int) (w : World) :
    Calls Tryd.prog 55 #[.agg #[.int .i64 c, .int .i64 n]] w fun e w' => e = .returned (.int .i64 (chkS c n)) ∧ Below w.heap.size w w' := by
  have HO := Lib.hid (chkS_cases c n)
  by_cases h1 : c < 0
  case' neg => by_cases h2 : 8 < c
  case' neg => by_cases h3 : n < 0
  case' neg => by_cases h4 : 255 < n
  case' neg => by_cases h5 : c = 0
  case' pos => by_cases h6 : n = 0
  all_goals
    obtain ⟨r, HR⟩ : ∃ r, Hid (chkS c n = r) := ⟨_, rfl⟩
    have HV : Hid (r = chkS c n) := HR.out.symm
    first
      | (have HW : Hid (r = 4) := HV.out.trans (HO.out.1 (by omega)))
      | (have HW : Hid (r = 3) := HV.out.trans ((HO.out.2 (by omega)).trans (if_pos (by omega))))
      | (have HW : Hid (r = 0) := HV.out.trans ((HO.out.2 (by omega)).trans (if_neg (by omega))))
    obtain rfl := HW.out
    clear HO HV HW
    first | (have h5' : (c == 0) = true := by simp [h5]) | (have h5' : (c == 0) = false := by simp [h5]) | skip
    first | (have h6' : (n != 0) = true := by simp [h6]) | (have h6' : (n != 0) = false := by simp [h6]) | skip
    first | clear h5 | skip
    first | clear h6 | skip
    go_enter Tryd.func55, Tryd.ntmps55
    go_wp2
    go_ret
    exact ⟨by rw [HR.out]; rfl, (Below.refl _ _).alloc (Nat.le_refl _) _⟩

theorem refTm_bn (t : Go.Tm.Tm) (h : TmW t) (w : World) :
    Calls Tryd.prog 54 #[.agg #[.int .i64 t.c, .int .i64 t.p, .bool t.g, .int .u64 t.m]] w fun e w' => e = .returned (.int .i64 (chkT t)) ∧ Below w.heap.size w w' := by
  have := refCheck13_any t.c t.p t.g t.m.toNat w (by have := h.2; omega)
  rwa [Int.toNat_of_nonneg h.1] at this
theorem empty14_eq (s : ByteArray) : s.toList.isEmpty = decide (s.size = 0) := by
  rw [Lib.toList_data, Bool.eq_iff_iff, List.isEmpty_iff, decide_eq_true_iff, ← List.length_eq_zero_iff, Array.length_toList]
  exact Iff.rfl
theorem chk_cases (b : Bn) : (¬ ((0 ≤ b.st ∧ b.st ≤ 16777216) ∧ 1 ≤ b.iv ∧ b.iv ≤ 65535) → chk b = 4) ∧
    (((0 ≤ b.st ∧ b.st ≤ 16777216) ∧ 1 ≤ b.iv ∧ b.iv ≤ 65535) → (b.nm.size = 0 → chk b = 1) ∧ (¬ b.nm.size = 0 → (32 < b.nm.size → chk b = 2) ∧ (¬ 32 < b.nm.size →
      (¬ ((1 ≤ b.ch ∧ b.ch ≤ 8) ∧ 0 ≤ b.ld ∧ b.ld ≤ 65535) → chk b = 4) ∧ (((1 ≤ b.ch ∧ b.ch ≤ 8) ∧ 0 ≤ b.ld ∧ b.ld ≤ 65535) → (¬ chkT b.tm = 0 → chk b = chkT b.tm) ∧ (chkT b.tm = 0 → chk b = if chkS b.sc b.sn = 0 then chkPs b else chkS b.sc b.sn))))) := by
  have e1 : (wn b.st 0 16777216 && wn b.iv 1 65535) = true ↔ ((0 ≤ b.st ∧ b.st ≤ 16777216) ∧ 1 ≤ b.iv ∧ b.iv ≤ 65535) := by rw [Bool.and_eq_true, wn_iff, wn_iff]
  have e2 : (wn b.ch 1 8 && wn b.ld 0 65535) = true ↔ ((1 ≤ b.ch ∧ b.ch ≤ 8) ∧ 0 ≤ b.ld ∧ b.ld ≤ 65535) := by rw [Bool.and_eq_true, wn_iff, wn_iff]
  unfold chk
  refine ⟨fun h => if_neg (mt e1.1 h), fun h => ?_⟩
  rw [if_pos (e1.2 h)]
  refine ⟨fun h => if_pos h, fun h => ?_⟩
  rw [if_neg h]
  refine ⟨fun h => if_pos h, fun h => ?_⟩
  rw [if_neg h]
  refine ⟨fun h => if_neg (mt e2.1 h), fun h => ?_⟩
  rw [if_pos (e2.2 h)]
  exact ⟨fun h => if_neg h, fun h => if_pos h⟩

theorem oks_step14 (b : Bn) (k : Nat) : oks b (k + 1) = (oks b k && prOk (b.pr k)) := rfl
theorem oks_down14 {b : Bn} {k : Nat} (h : oks b k = false) : ∀ n, k ≤ n → oks b n = false := by
  intro n hn
  induction n with
  | zero => obtain rfl : k = 0 := by omega
            exact h
  | succ n ih =>
    by_cases e : k = n + 1
    · rw [← e]; exact h
    · rw [oks_step14, ih (by omega)]; rfl

set_option maxRecDepth 100000 in
set_option maxHeartbeats 8000000 in
theorem refCheck14_any (b : Bn) (w : World) (ht : TmW b.tm) :
    Calls Tryd.prog 31 #[Bn_.v b] w fun e w' => e = .returned (.int .i64 (chk b)) ∧ Below w.heap.size w w' := by
  obtain ⟨w1, hw1⟩ : ∃ w1, w.alloc (.cells (Bn_.C b) 31) = w1 := ⟨_, rfl⟩
  have S1 := Lib.hid (show Stb w b w1 from hw1 ▸ Stb.new w b)
  have e1 := S1.out.box.all
  have lt := S1.out.box.loadT
  have CT := Lib.hid fun w => refTm_bn b.tm ht w
  have CS := Lib.hid fun w => refAnn14_any b.sc b.sn w
  have HC := Lib.hid (chk_cases b)
  have HN := Lib.hid (empty14_eq b.nm)
  by_cases h1 : b.st < 0
  case' neg => by_cases h2 : 16777216 < b.st
  case' neg => by_cases h3 : b.iv < 1
  case' neg => by_cases h4 : 65535 < b.iv
  case' neg => by_cases hn0 : b.nm.size = 0
  case' neg => by_cases hn1 : 32 < b.nm.size
  case' neg => by_cases h5 : b.ch < 1
  case' neg => by_cases h6 : 8 < b.ch
  case' neg => by_cases h7 : b.ld < 0
  case' neg => by_cases h8 : 65535 < b.ld
  case' neg => by_cases h9 : chkT b.tm = 0
  case pos =>
    have HQ := Lib.hid ((((((HC.out.2 (by omega)).2 hn0).2 hn1).2 (by omega)).2 h9))
    have CP := Lib.hid fun k w => refParams14_any (b.pr k) w
    have HO := Lib.hid (oks_step14 b)
    have HD := Lib.hid (fun k => oks_down14 (b := b) (k := k))
    have HP : Hid (chkPs b = if oks b 4 = true then 0 else 4) := rfl
    have HV : Hid (∀ p, chkP p = if prOk p = true then 0 else 4) := fun _ => rfl
    rw [h9] at CT
    have he : b.nm.toList.isEmpty = false := HN.out.trans (decide_eq_false hn0)
    have hq1 : ¬ 32 < (b.nm.size : Int) := by omega
    generalize chkS b.sc b.sn = r2 at *
    clear HC HN h9 hn0 hn1
    go_enter Tryd.func31, Tryd.ntmps31
    go_wp2_with (first
      | (go_at_call 54; refine (CT.out _).mono ?_; rintro e w2 ⟨rfl, hb⟩; have S2 := Lib.hid (S1.out.keep hb); have ls := S2.out.box.loadS; clear hb)
      | (go_at_call 55; refine (CS.out _).mono ?_; rintro e w3 ⟨rfl, hb⟩; have S3 := Lib.hid (S2.out.keep hb); clear hb))
    go_loopw [3, 4] (fun e i wr => ∃ (k : Nat) (r : Int), k ≤ 4 ∧ i = .int .i64 k ∧ e = .int .i64 r ∧ Stb w b wr ∧ Aside ((¬ r = 0 → chk b = r) ∧ (r = 0 → r2 = 0 ∧ oks b k = true))) (fun _ i _ => 4 - (intOf i).toNat)
    case atStart => exact ⟨0, r2, by omega, rfl, rfl, S3.out, fun h => HQ.out.trans (if_neg h), fun h => ⟨h, rfl⟩⟩
    case round =>
      rename_i wr
      obtain ⟨k, r, hk, rfl, rfl, hst, hr⟩ := hrel
      have HST := Lib.hid hst
      have HR := Lib.hid hr.out
      clear hst hr S3 S2 S1 CT CS
      by_cases h0 : r = 0
      · subst h0
        have HK := Lib.hid (HR.out.2 rfl)
        clear HR
        by_cases h4 : k < 4
        · have lp := HST.out.box.loadP k h4
          have CPk := Lib.hid (CP.out k)
          have HVk := Lib.hid (HV.out (b.pr k))
          have HOk := Lib.hid (HO.out k)
          have HDk := Lib.hid (fun h => HD.out (k + 1) h 4 (by omega))
          have i0 : (0 : Int) ≤ (k : Int) := by omega
          have i1 : (k : Int) < 4 := by omega
          generalize b.pr k = q at *
          obtain ⟨a, i, x, t⟩ := q
          simp only at lp CPk HVk HOk
          obtain ⟨r', hr'⟩ : ∃ r', chkP ⟨a, i, x, t⟩ = r' := ⟨_, rfl⟩
          rw [hr'] at CPk HVk
          clear hr' CP HV HO HD
          go_wp2_with (first
            | (go_at_call 56; refine (CPk.out _).mono ?_; rintro e w4 ⟨rfl, hb⟩; have S4 := Lib.hid (HST.out.keep hb); clear hb))
          go_roundw
          case rel =>
            refine ⟨k + 1, r', by omega, by go_num, rfl, S4.out, fun h => ?_, fun h => ⟨HK.out.1, ?_⟩⟩
            · have hp : ¬ prOk ⟨a, i, x, t⟩ = true := fun hp => h (HVk.out.trans (if_pos hp))
              have h4' : r' = 4 := HVk.out.trans (if_neg hp)
              have hd := HDk.out (by rw [HOk.out]; simp [hp])
              rw [HQ.out, if_pos HK.out.1, HP.out, hd, h4']; rfl
            · by_cases hp : prOk ⟨a, i, x, t⟩ = true
              · rw [HOk.out, HK.out.2, hp]; rfl
              · have h4' : r' = 4 := HVk.out.trans (if_neg hp)
                rw [h4'] at h; exact absurd h (by decide)
          case measure => simp [intOf]; omega
        · obtain rfl : k = 4 := by omega
          go_wp2
          go_ret
          exact ⟨by rw [HQ.out, if_pos HK.out.1, HP.out, HK.out.2]; rfl, HST.out.bel⟩
      · have h0' : (r == 0) = false := by simp [h0]
        have HF := Lib.hid (HR.out.1 h0)
        clear h0 HR
        by_cases h4 : k < 4
        · have i1 : (k : Int) < 4 := by omega
          go_wp2
          go_ret
          exact ⟨by rw [HF.out]; rfl, HST.out.bel⟩
        · have i1 : ¬ (k : Int) < 4 := by omega
          go_wp2
          go_ret
          exact ⟨by rw [HF.out]; rfl, HST.out.bel⟩
  all_goals
    obtain ⟨r, HR⟩ : ∃ r, Hid (chk b = r) := ⟨_, rfl⟩
    have HV : Hid (r = chk b) := HR.out.symm
    first
      | (have HW : Hid (r = 4) := HV.out.trans (HC.out.1 (by omega)); obtain rfl := HW.out; clear HW)
      | (have HW : Hid (r = 1) := HV.out.trans ((HC.out.2 (by omega)).1 hn0); obtain rfl := HW.out; clear HW)
      | (have HW : Hid (r = 2) := HV.out.trans (((HC.out.2 (by omega)).2 hn0).1 hn1); obtain rfl := HW.out; clear HW)
      | (have HW : Hid (r = 4) := HV.out.trans ((((HC.out.2 (by omega)).2 hn0).2 hn1).1 (by omega)); obtain rfl := HW.out; clear HW)
      | (have HW : Hid (r = chkT b.tm) := HV.out.trans (((((HC.out.2 (by omega)).2 hn0).2 hn1).2 (by omega)).1 h9); rw [← HW.out] at CT; have h9' : (r != 0) = true := bne_iff_ne.2 (fun e => h9 (HW.out.symm.trans e)); clear HW h9)
    first | have he : b.nm.toList.isEmpty = true := HN.out.trans (decide_eq_true hn0) | have he : b.nm.toList.isEmpty = false := HN.out.trans (decide_eq_false hn0) | skip
    first | have hq1 : ¬ 32 < (b.nm.size : Int) := by omega | have hq1 : 32 < (b.nm.size : Int) := by omega | skip
    clear HC HV HN
    go_enter Tryd.func31, Tryd.ntmps31
    go_wp2_with (first
      | (go_at_call 54; refine (CT.out _).mono ?_; rintro e w2 ⟨rfl, hb⟩; have S2 := Lib.hid (S1.out.keep hb); clear hb))
    go_ret
    refine ⟨by rw [HR.out]; rfl, ?_⟩
    first | exact S2.out.bel | exact S1.out.bel
end Go.Proofs.YtojiffpmmgjpjaaDoor
