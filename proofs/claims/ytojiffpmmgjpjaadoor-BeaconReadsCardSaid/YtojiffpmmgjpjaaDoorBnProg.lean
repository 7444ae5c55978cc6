/-
  WALKS of package beacon: within, announced, number, checkParams, checkSwitch, Check, Default.
-/
import Derived.Test.YtojiffpmmgjpjaaDoorBnW2
import Derived.Test.YtojiffpmmgjpjaaDoorTmProg
import Derived.Deep.RegionWith
import Derived.BigRegion
import Derived.Deep.LoopGhost
namespace Go.Proofs.YtojiffpmmgjpjaaDoor
open Go.RowKit Go.Bn Go.Wr
attribute [local go_sem ↓ high] Bn_.loadF Bn_.storeF Bn_.v_cells Bn_.v_match Bn_.loadT Bn_.loadS Bn_.loadQ Bn_.Q_match
attribute [local go_sem] Bn_.C0 Bn_.C1 Bn_.C2 Bn_.C3 Bn_.C4 Bn_.loadF_new Bn_.loadQ_new

theorem bnWithin_any (n lo hi : Int) (w : World) :
    Calls Tryd.prog 23 #[.int .i64 n, .int .i64 lo, .int .i64 hi] w fun e w' => e = .returned (.bool (wn n lo hi)) ∧ w = w' := by
  by_cases h1 : lo ≤ n <;> by_cases h2 : n ≤ hi
  all_goals
    have HW : Hid (wn n lo hi = (decide (lo ≤ n) && decide (n ≤ hi))) := rfl
    first | have H1 : Hid (decide (lo ≤ n) = true) := decide_eq_true h1 | have H1 : Hid (decide (lo ≤ n) = false) := decide_eq_false h1
    first | have H2 : Hid (decide (n ≤ hi) = true) := decide_eq_true h2 | have H2 : Hid (decide (n ≤ hi) = false) := decide_eq_false h2
    go_enter Tryd.func23, Tryd.ntmps23
    go_wp2
    go_ret
    exact ⟨by rw [HW.out, H1.out, H2.out]; rfl, rfl⟩

theorem bnAnnounced_any (c n : Int) (w : World) :
    Calls Tryd.prog 38 #[.agg #[.int .i64 c, .int .i64 n]] w fun e w' => e = .returned (.bool (c != 0)) ∧ Below w.heap.size w w' := by
  go_enter Tryd.func38, Tryd.ntmps38
  go_wp2
  go_ret
  exact ⟨rfl, (Below.refl _ _).alloc (Nat.le_refl _) _⟩

theorem wr_new14 (w : World) : Wr (w.alloc (.cells #[.int .i64 0, .pointer none, .string ⟨#[]⟩] 74)) w.heap.size [] := ⟨none, ⟨#[]⟩, [], Blk.new _ _ _ _ rfl, .nil, rfl⟩
set_option maxHeartbeats 1000000 in
/-- A number that fits. -/
theorem bnNumber_any (n : Int) (k : Nat) (w : World) (hk : 1 ≤ k ∧ k ≤ 6) (hn : 0 ≤ n ∧ n < (pow k : Nat)) :
    Calls Tryd.prog 22 #[.int .i64 n, .int .i64 (k : Int)] w fun e w' => e = .returned (.string (oz (le n.toNat k))) ∧ Below w.heap.size w w' := by
  obtain ⟨w1, hw1⟩ : ∃ w1, w.alloc (.cells #[.int .i64 0, .pointer none, .string ⟨#[]⟩] 74) = w1 := ⟨_, rfl⟩
  have H1 : Hid (Wr w1 w.heap.size []) := hw1 ▸ wr_new14 w
  have B1 : Hid (Below w.heap.size w w1) := hw1 ▸ (Below.refl _ _).alloc (Nat.le_refl _) _
  have CN : Hid (∀ w1, Wr w1 w.heap.size [] → Calls Tryd.prog 39 #[.pointer (some ⟨w.heap.size, 0, none⟩), .int .i64 n, .int .i64 (k : Int)] w1 fun e w' => e = .returned (.tuple #[]) ∧ Wr w' w.heap.size (le n.toNat k) ∧ But w.heap.size w1 w') := fun w1 h => by
    have c := put_ok w.heap.size [] n.toNat k w1 h hk.1 hk.2 (by omega) (by simp)
    rw [Int.toNat_of_nonneg hn.1] at c
    exact c
  have CD : Hid (∀ w1, Wr w1 w.heap.size (le n.toNat k) → Calls Tryd.prog 40 #[.pointer (some ⟨w.heap.size, 0, none⟩)] w1 fun e w' => e = .returned (.tuple #[.string (oz (le n.toNat k)), .int .i64 0]) ∧ Below w1.heap.size w1 w') := fun w1 h =>
    done_ok w.heap.size (le n.toNat k) w1 h (by rw [le_len]; omega)
  generalize le n.toNat k = L at *
  clear hk hn
  go_enter Tryd.func22, Tryd.ntmps22
  go_wp2_with (first
    | (go_at_call 39; refine (CN.out _ H1.out).mono ?_; rintro e w2 ⟨rfl, h2, b2⟩; have H2 := Lib.hid h2; have B2 := Lib.hid (B1.out.trans (b2.below B1.out.size (Nat.le_refl _))); clear h2 b2)
    | (go_at_call 40; refine (CD.out _ H2.out).mono ?_; rintro e w3 ⟨rfl, b3⟩; have B3 := Lib.hid (B2.out.trans (b3.mono B2.out.size)); clear b3))
  go_returns
  exact ⟨rfl, B3.out⟩

set_option maxRecDepth 100000 in
set_option maxHeartbeats 1000000 in
theorem bnCheckSwitch_any (c n : Int) (w : World) :
    Calls Tryd.prog 25 #[.agg #[.int .i64 c, .int .i64 n]] w fun e w' => e = .returned (.int .i64 (chkS c n)) ∧ Below w.heap.size w w' := by
  have C1 := Lib.hid fun w => bnWithin_any c 0 8 w
  have C2 := Lib.hid fun w => bnWithin_any n 0 255 w
  have CA := Lib.hid fun w => bnAnnounced_any c n w
  have HC : Hid (chkS c n = if (wn c 0 8 && wn n 0 255) = true then (if c = 0 ∧ ¬ n = 0 then 3 else 0) else 4) := rfl
  obtain ⟨w1, hw1⟩ : ∃ w1, w.alloc (.cells #[.int .i64 c, .int .i64 n] 26) = w1 := ⟨_, rfl⟩
  have B1 : Hid (Below w.heap.size w w1) := hw1 ▸ (Below.refl _ _).alloc (Nat.le_refl _) _
  have c0 : w1.cell? ⟨w.heap.size, 0, none⟩ = some (.int .i64 c) := by rw [← hw1]; simp
  have c1 : w1.cell? ⟨w.heap.size, 1, none⟩ = some (.int .i64 n) := by rw [← hw1]; simp
  have L1 : Hid (w.heap.size < w1.heap.size) := by unfold Hid; rw [← hw1]; simp
  have ls := Bn_.loadS_of c0 c1
  cases g1 : wn c 0 8 <;> rw [g1] at C1 HC
  case' true => cases g2 : wn n 0 255 <;> rw [g2] at C2 HC
  case' true.true => by_cases hc : c = 0
  case' pos => by_cases hn : n = 0
  all_goals
    first | subst hc | skip
    first | subst hn | skip
    first | have hc' : (c != 0) = true := by simp [hc] | skip
    first | have hn' : (n != 0) = true := by simp [hn] | skip
    clear g1
    first | clear g2 | skip
    go_enter Tryd.func25, Tryd.ntmps25
    go_wp2_with (first
      | (go_at_call 23; with_reducible refine (C1.out _).mono ?_; rintro e w' ⟨rfl, rfl⟩)
      | (go_at_call 23; with_reducible refine (C2.out _).mono ?_; rintro e w' ⟨rfl, rfl⟩)
      | (go_at_call 38; refine (CA.out _).mono ?_; rintro e w2 ⟨rfl, hb⟩; have B2 := Lib.hid (B1.out.trans (hb.mono B1.out.size)); have d1 := (hb.cell (p := ⟨w.heap.size, 1, none⟩) L1.out).trans c1; clear hb))
    go_ret
    refine ⟨by rw [HC.out]; simp_all, ?_⟩
    first | exact B2.out | exact B1.out

/-- The parameters of all categories, as a value. -/
theorem oks_step (b : Bn) (k : Nat) : oks b (k + 1) = (oks b k && prOk (b.pr k)) := rfl
theorem oks_down {b : Bn} {k : Nat} (h : oks b k = false) : ∀ n, k ≤ n → oks b n = false := by
  intro n hn
  induction n with
  | zero => obtain rfl : k = 0 := by omega
            exact h
  | succ n ih =>
    by_cases e : k = n + 1
    · rw [← e]; exact h
    · rw [oks_step, ih (by omega)]; rfl

set_option maxRecDepth 100000 in
set_option maxHeartbeats 2000000 in
theorem bnCheckParams_any (b : Bn) (w : World) :
    Calls Tryd.prog 26 #[Bn_.Q b] w fun e w' => e = .returned (.int .i64 (chkPs b)) ∧ Below w.heap.size w w' := by
  have HP : Hid (chkPs b = if oks b 4 = true then 0 else 4) := rfl
  go_enter Tryd.func26, Tryd.ntmps26
  go_wp2
  go_loopw [6] (fun i wr => ∃ k : Nat, k ≤ 4 ∧ i = .int .i64 k ∧ oks b k = true ∧ Below w.heap.size w wr) (fun i _ => 4 - (intOf i).toNat)
  case atStart => exact ⟨0, by omega, rfl, rfl, (Below.refl _ _).alloc (Nat.le_refl _) _⟩
  case round =>
    rename_i wr
    obtain ⟨k, hk, rfl, ho, hb⟩ := hrel
    have HB := Lib.hid hb
    have HO := Lib.hid ho
    clear hb ho
    by_cases h4 : k < 4
    · have hix := fun W => Bn_.q_at b k h4 W
      have HS := Lib.hid (oks_step b k)
      have HD := Lib.hid (fun h => oks_down (b := b) (k := k + 1) h 4 (by omega))
      have HQ : Hid (prOk (b.pr k) = (wn (b.pr k).a 2 15 && (wn (b.pr k).i 0 (b.pr k).x && (decide ((b.pr k).x ≤ 10) && wn (b.pr k).t 0 32767)))) := rfl
      have C1 := Lib.hid fun w => bnWithin_any (b.pr k).a 2 15 w
      have C2 := Lib.hid fun w => bnWithin_any (b.pr k).i 0 (b.pr k).x w
      have C3 := Lib.hid fun w => bnWithin_any (b.pr k).t 0 32767 w
      generalize b.pr k = q at *
      obtain ⟨a, i, x, t⟩ := q
      simp only at hix C1 C2 C3 HQ
      cases g1 : wn a 2 15 <;> rw [g1] at C1 HQ
      case' true => cases g2 : wn i 0 x <;> rw [g2] at C2 HQ
      case' true.true => by_cases hx : x ≤ 10
      case' pos => cases g3 : wn t 0 32767 <;> rw [g3] at C3 HQ
      all_goals
        clear g1
        first | clear g2 | skip
        first | clear g3 | skip
        first | have hx' : ¬ 10 < x := by omega | have hx' : 10 < x := by omega | skip
        go_wp2_with (first
          | (go_at_call 23; with_reducible refine (C1.out _).mono ?_; rintro e w' ⟨rfl, rfl⟩)
          | (go_at_call 23; with_reducible refine (C2.out _).mono ?_; rintro e w' ⟨rfl, rfl⟩)
          | (go_at_call 23; with_reducible refine (C3.out _).mono ?_; rintro e w' ⟨rfl, rfl⟩))
      case roundEnd =>
        go_roundw
        case rel => exact ⟨k + 1, by omega, by go_num, by rw [HS.out, HO.out, HQ.out]; simp [hx], HB.out.alloc HB.out.size _⟩
        case measure => simp [intOf]; omega
      all_goals
        go_ret
        refine ⟨?_, HB.out.alloc HB.out.size _⟩
        rw [HP.out, HD.out (by (rw [HS.out, HQ.out]; simp_all <;> (intro _ hh; omega)))]; rfl
    · obtain rfl : k = 4 := by omega
      go_wp2
      go_ret
      exact ⟨by rw [HP.out, HO.out]; rfl, HB.out⟩

theorem tmCheck_bn (t : Go.Tm.Tm) (h : TmW t) (w : World) :
    Calls Tryd.prog 24 #[.agg #[.int .i64 t.c, .int .i64 t.p, .bool t.g, .int .u64 t.m]] w fun e w' => e = .returned (.int .i64 (chkT t)) ∧ Below w.heap.size w w' := by
  have := tmCheck_any t.c t.p t.g t.m.toNat w (by have := h.2; omega)
  rwa [Int.toNat_of_nonneg h.1] at this
theorem empty_eq (s : ByteArray) : s.toList.isEmpty = decide (s.size = 0) := by
  rw [Lib.toList_data, Bool.eq_iff_iff, List.isEmpty_iff, decide_eq_true_iff, ← List.length_eq_zero_iff, Array.length_toList]
  exact Iff.rfl

set_option maxRecDepth 100000 in
set_option maxHeartbeats 4000000 in
theorem bnCheck_any (b : Bn) (w : World) (ht : TmW b.tm) :
    Calls Tryd.prog 10 #[Bn_.v b] w fun e w' => e = .returned (.int .i64 (chk b)) ∧ Below w.heap.size w w' := by
  obtain ⟨w1, hw1⟩ : ∃ w1, w.alloc (.cells (Bn_.C b) 31) = w1 := ⟨_, rfl⟩
  have S1 := Lib.hid (show Stb w b w1 from hw1 ▸ Stb.new w b)
  have e1 := S1.out.box.all
  have lt := S1.out.box.loadT
  have C1 := Lib.hid fun w => bnWithin_any b.st 0 16777216 w
  have C2 := Lib.hid fun w => bnWithin_any b.iv 1 65535 w
  have C3 := Lib.hid fun w => bnWithin_any b.ch 1 8 w
  have C4 := Lib.hid fun w => bnWithin_any b.ld 0 65535 w
  have CT := Lib.hid fun w => tmCheck_bn b.tm ht w
  have CS := Lib.hid fun w => bnCheckSwitch_any b.sc b.sn w
  have CP := Lib.hid fun w => bnCheckParams_any b w
  have HC : Hid (chk b = if (wn b.st 0 16777216 && wn b.iv 1 65535) = true then if b.nm.size = 0 then 1 else if 32 < b.nm.size then 2 else if (wn b.ch 1 8 && wn b.ld 0 65535) = true then if chkT b.tm = 0 then if chkS b.sc b.sn = 0 then chkPs b else chkS b.sc b.sn else chkT b.tm else 4 else 4) := rfl
  have HN := Lib.hid (empty_eq b.nm)
  generalize chkT b.tm = r1 at *
  generalize chkS b.sc b.sn = r2 at *
  generalize chkPs b = r3 at *
  clear ht
  cases g1 : wn b.st 0 16777216 <;> rw [g1] at C1 HC
  case' true => cases g2 : wn b.iv 1 65535 <;> rw [g2] at C2 HC
  case' true.true => by_cases hn0 : b.nm.size = 0
  case' neg => by_cases hn1 : 32 < b.nm.size
  case' neg => cases g3 : wn b.ch 1 8 <;> rw [g3] at C3 HC
  case' neg.true => cases g4 : wn b.ld 0 65535 <;> rw [g4] at C4 HC
  case' neg.true.true => by_cases hr1 : r1 = 0
  case' pos => by_cases hr2 : r2 = 0
  all_goals
    clear g1
    first | clear g2 | skip
    first | clear g3 | skip
    first | clear g4 | skip
    first | have he : b.nm.toList.isEmpty = true := HN.out.trans (decide_eq_true hn0) | have he : b.nm.toList.isEmpty = false := HN.out.trans (decide_eq_false hn0) | skip
    first | have hq1 : ¬ 32 < (b.nm.size : Int) := by omega | have hq1 : 32 < (b.nm.size : Int) := by omega | skip
    first | subst hr1 | (have hr1' : (r1 != 0) = true := by simp [hr1]) | skip
    first | subst hr2 | (have hr2' : (r2 != 0) = true := by simp [hr2]) | skip
    go_enter Tryd.func10, Tryd.ntmps10
    go_wp2_with (first
      | (go_at_call 23; with_reducible refine (C1.out _).mono ?_; rintro e w' ⟨rfl, rfl⟩)
      | (go_at_call 23; with_reducible refine (C2.out _).mono ?_; rintro e w' ⟨rfl, rfl⟩)
      | (go_at_call 23; with_reducible refine (C3.out _).mono ?_; rintro e w' ⟨rfl, rfl⟩)
      | (go_at_call 23; with_reducible refine (C4.out _).mono ?_; rintro e w' ⟨rfl, rfl⟩)
      | (go_at_call 24; refine (CT.out _).mono ?_; rintro e w2 ⟨rfl, hb⟩; have S2 := Lib.hid (S1.out.keep hb); have ls := S2.out.box.loadS; clear hb)
      | (go_at_call 25; refine (CS.out _).mono ?_; rintro e w3 ⟨rfl, hb⟩; have S3 := Lib.hid (S2.out.keep hb); have lq := S3.out.box.loadQ; clear hb)
      | (go_at_call 26; refine (CP.out _).mono ?_; rintro e w4 ⟨rfl, hb⟩; have S4 := Lib.hid (S3.out.keep hb); clear hb))
    go_ret
    refine ⟨by (rw [HC.out]; simp_all <;> (intro hh; omega)), ?_⟩
    first | exact S4.out.bel | exact S3.out.bel | exact S2.out.bel | exact S1.out.bel
end Go.Proofs.YtojiffpmmgjpjaaDoor
