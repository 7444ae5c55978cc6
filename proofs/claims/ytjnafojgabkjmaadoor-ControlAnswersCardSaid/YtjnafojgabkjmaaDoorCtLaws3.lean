/-
  THE LAWS of layer 11: ControlAnswers.
-/
import Derived.Test.YtjnafojgabkjmaaDoorCtLaws
namespace Go.Proofs.YtjnafojgabkjmaaDoor
open Go.RowKit Go.Hd Go.Wr Go.Ct
attribute [local go_sem ↓ high] Fr_.loadF Fr_.storeF Fr_.v_cells Fr_.v_match fr_guard fr_eql
attribute [local go_sem] Fr_.C0 Fr_.C1 Fr_.C2 Fr_.C3 Fr_.C4 Fr_.C5 Fr_.C6 Fr_.C7 Fr_.C8 Fr_.C9 Fr_.C10 Fr_.C11 Fr_.C12 Fr_.C13 Fr_.C14 Fr_.C15 Fr_.C16 Fr_.C17 Fr_.loadF_new Fr_.storeF_zero

theorem wf_int {z : Int} (h : -9223372036854775808 ≤ z ∧ z < 9223372036854775808) : (Lit.int .i64 z).wf = true := by
  simp [Lit.wf, IntKind.min, IntKind.max, IntKind.signed, IntKind.bits]
  omega
theorem nod_vad {n : Int} (h : 0 ≤ n ∧ n < 16) : vad (Go.Ad.nod n : Int) ∧ ¬ grp (Go.Ad.nod n : Int) := by
  rw [Go.Ad.nod_in h]
  unfold grp vad
  omega
theorem nod_u64 (n : Int) : u64 (Go.Ad.nod n : Int) := by
  unfold Go.Ad.nod
  split
  · constructor <;> omega
  · exact (show u64 0 by constructor <;> decide)
theorem nod_zero {n : Int} (h : ¬ Go.Ad.nod n = 0) : 0 ≤ n ∧ n < 16 := by
  unfold Go.Ad.nod at h
  split at h
  · assumption
  · exact absurd rfl h

set_option maxRecDepth 100000 in
set_option maxHeartbeats 8000000 in
theorem answers_out (x : Int) (hx : (Lit.int .i64 x).wf = true) (y : Int) (hy : (Lit.int .i64 y).wf = true) (d c s m : Int) (W : World) (hl : LaidFacts W)
    (h : Go.Ad.nod x = 0 ∨ (¬ Go.Ad.nod x = 0 ∧ Go.Ad.nod y = 0) ∨ (¬ Go.Ad.nod x = 0 ∧ ¬ Go.Ad.nod y = 0 ∧ d < 0) ∨ (¬ Go.Ad.nod x = 0 ∧ ¬ Go.Ad.nod y = 0 ∧ ¬ d < 0 ∧ 32767 < d)) :
    Calls Tryd.prog 3 #[.int .i64 x, .int .i64 y, .int .i64 d, .int .i64 c, .int .i64 s, .int .u64 m] W fun e w' => e = .returned (.bool true) ∧ Below W.heap.size W w' := by
  have NX := Lib.hid (fun w => node_any x w hx)
  have NY := Lib.hid (fun w => node_any y w hy)
  have e : ∀ k : Nat, ((k : Int) == 0) = decide (k = 0) := fun k => by
    by_cases hk : k = 0
    · subst hk; rfl
    · rw [decide_eq_false hk, beq_eq_false_iff_ne]; omega
  have e1 := e (Go.Ad.nod x)
  have e2 := e (Go.Ad.nod y)
  have CL := Lib.hid (lives11_any W hl)
  generalize (Go.Ad.nod x : Int) = a at *
  generalize (Go.Ad.nod y : Int) = b at *
  clear hl e hx hy
  rcases h with h1 | ⟨h1, h2⟩ | ⟨h1, h2, h3⟩ | ⟨h1, h2, h3, h4⟩
  all_goals
    (first | rw [decide_eq_true h1] at e1 | rw [decide_eq_false h1] at e1)
    (first | rw [decide_eq_true h2] at e2 | rw [decide_eq_false h2] at e2 | clear e2)
    clear h1
    (first | clear h2 | skip)
    go_enter Tryd.func3, Tryd.ntmps3
    go_wp2_with (first
      | (go_at_call 8; with_reducible refine (NX.out _).mono ?_; rintro e w' ⟨rfl, rfl⟩)
      | (go_at_call 8; with_reducible refine (NY.out _).mono ?_; rintro e w' ⟨rfl, rfl⟩)
      | (go_at_call 9; refine CL.out.mono ?_; rintro e w1 ⟨rfl, hb⟩; have B1 := Lib.hid hb; clear hb))
    go_returns
    exact ⟨rfl, B1.out⟩

/-- What ControlAnswers asks, where there are the two nodes and the duration is in its range: the answers as words. -/
structure Ans (W : World) (a b d : Int) (R T : Fr) : Prop where
  rts : ∀ w, Calls Tryd.prog 10 #[.int .u64 a, .int .u64 b, .int .i64 d] w fun e w' => e = .returned (Fr_.v R) ∧ Below w.heap.size w w'
  cts : ∀ w', Below W.heap.size W w' → Calls Tryd.prog 11 #[Fr_.v R] w' fun e w'' => e = .returned (.tuple #[Fr_.v T, .bool true]) ∧ Below w'.heap.size w' w''
  ckR : ∀ w', Below W.heap.size W w' → Calls Tryd.prog 12 #[Fr_.v R] w' fun e w'' => e = .returned (.int .i64 0) ∧ Below w'.heap.size w' w''
  ckT : ∀ w', Below W.heap.size W w' → Calls Tryd.prog 12 #[Fr_.v T] w' fun e w'' => e = .returned (.int .i64 0) ∧ Below w'.heap.size w' w''
  to : T.ta = b
  du : (8 ≤ d ∧ T.du = d - 8 ∧ ¬ d < d - 8) ∨ (¬ 8 ≤ d ∧ ¬ d < T.du)
theorem ans_of (x y d : Int) (W : World) (hl : LaidFacts W) (hx : 0 ≤ x ∧ x < 16) (hy : 0 ≤ y ∧ y < 16) (hd : 0 ≤ d ∧ d ≤ 32767) :
    Ans W (Go.Ad.nod x) (Go.Ad.nod y) d (mkF 12 d (Go.Ad.nod x) (Go.Ad.nod y) ⟨#[]⟩) (mkF 13 (rsd d 7) (Go.Ad.nod y) 0 ⟨#[]⟩) := by
  have HT : ∀ w', Below W.heap.size W w' → Tabs w' := fun w' hb => hl.below hb (Nat.le_refl _)
  have vx := nod_vad hx
  have vy := nod_vad hy
  have hR : chk (mkF 12 d (Go.Ad.nod x) (Go.Ad.nod y) ⟨#[]⟩) = 0 := chk_mk (.inl rfl) hd vx vy rfl
  have uR : FrU (mkF 12 d (Go.Ad.nod x) (Go.Ad.nod y) ⟨#[]⟩) := lv_u (nod_u64 x) (nod_u64 y)
  have hA : okC (mkF 12 d (Go.Ad.nod x) (Go.Ad.nod y) ⟨#[]⟩) := ⟨⟨hR, vx.2⟩, rfl⟩
  have hT : chk (mkF 13 (rsd d 7) (Go.Ad.nod y) 0 ⟨#[]⟩) = 0 := chk_cts ⟨rsd_ge _ _, Int.le_trans (rsd_le hd.1) hd.2⟩ vy
  refine ⟨fun w => rts_any _ _ d w, fun w' hb => ?_, fun w' hb => ?_, fun w' hb => ?_, rfl, ?_⟩
  · have h := cts_any _ w' (HT w' hb).hd (HT w' hb).ph uR (show (Lit.int .i64 d).wf = true from wf_int (by omega))
    rw [decide_eq_true hA] at h
    rw [show ctsF (mkF 12 d (Go.Ad.nod x) (Go.Ad.nod y) ⟨#[]⟩) = mkF 13 (rsd d 7) (Go.Ad.nod y) 0 ⟨#[]⟩ from if_pos hA] at h
    exact h
  · have h := progCheck_any _ w' (HT w' hb).hd uR
    rw [hR] at h
    exact h
  · have h := progCheck_any _ w' (HT w' hb).hd (lv_u (nod_u64 y) (show u64 0 by constructor <;> decide) : FrU (mkF 13 (rsd d 7) (Go.Ad.nod y) 0 ⟨#[]⟩))
    rw [hT] at h
    exact h
  · by_cases h8 : 8 ≤ d
    · exact .inl ⟨h8, rsd_seven h8, by omega⟩
    · exact .inr ⟨h8, by have := rsd_le (s := 7) hd.1; show ¬ d < rsd d 7; omega⟩

set_option maxRecDepth 100000 in
set_option maxHeartbeats 8000000 in
theorem answers_no (x : Int) (hx : (Lit.int .i64 x).wf = true) (y : Int) (hy : (Lit.int .i64 y).wf = true) (d c s : Int) (n : Nat) (W : World) (hl : LaidFacts W)
    (h1 : ¬ Go.Ad.nod x = 0) (h2 : ¬ Go.Ad.nod y = 0) (h3 : ¬ d < 0) (h4 : ¬ 32767 < d) (hw : ¬ win c s) :
    Calls Tryd.prog 3 #[.int .i64 x, .int .i64 y, .int .i64 d, .int .i64 c, .int .i64 s, .int .u64 (n : Int)] W fun e w' => e = .returned (.bool true) ∧ Below W.heap.size W w' := by
  have HT : Hid (∀ w', Below W.heap.size W w' → Tabs w') := fun w' hb => hl.below hb (Nat.le_refl _)
  have HB : Hid (∀ w' w'', Below W.heap.size W w' → Below w'.heap.size w' w'' → Below W.heap.size W w'') := fun w' w'' h hb => h.trans (hb.mono h.size)
  have B0 : Hid (Below W.heap.size W W) := Below.refl _ _
  have NX := Lib.hid (fun w => node_any x w hx)
  have NY := Lib.hid (fun w => node_any y w hy)
  have A := ans_of x y d W hl (nod_zero h1) (nod_zero h2) ⟨by omega, by omega⟩
  have e1 : ((Go.Ad.nod x : Int) == 0) = false := by rw [beq_eq_false_iff_ne]; omega
  have e2 : ((Go.Ad.nod y : Int) == 0) = false := by rw [beq_eq_false_iff_ne]; omega
  have CQ : Hid (∀ w', Calls Tryd.prog 13 #[.int .u64 (Go.Ad.nod x : Int), .int .u64 (Go.Ad.nod y : Int), .int .i64 c, .int .i64 s] w' fun e w'' => e = .returned (Fr_.v Fr_.zf) ∧ Below w'.heap.size w' w'') := fun w' => by
    have h := request_any (Go.Ad.nod x) (Go.Ad.nod y) c s w'
    rw [show reqF (Go.Ad.nod x) (Go.Ad.nod y) c s = Fr_.zf from if_neg hw] at h
    exact h
  have CB : Hid (∀ w', Below W.heap.size W w' → Calls Tryd.prog 14 #[Fr_.v Fr_.zf, .int .i64 c, .int .i64 s, .int .u64 (n : Int)] w' fun e w'' => e = .returned (.tuple #[Fr_.v Fr_.zf, .bool false]) ∧ Below w'.heap.size w' w'') := fun w' hb =>
    block_no Fr_.zf c s n w' (HT.out w' hb).hd (show FrU Fr_.zf from lv_u (k := 0) (d := 0) (bo := ⟨#[]⟩) (show u64 0 by constructor <;> decide) (show u64 0 by constructor <;> decide)) (fun h => hw h.2.2)
  have hkd : Fr_.zf.kd = 0 := rfl
  have hc : c < 0 ∨ (¬ c < 0 ∧ 4 ≤ c) ∨ (¬ c < 0 ∧ ¬ 4 ≤ c ∧ s < 0) ∨ (¬ c < 0 ∧ ¬ 4 ≤ c ∧ ¬ s < 0 ∧ 4096 ≤ s) := by unfold win at hw; omega
  generalize mkF 12 d (Go.Ad.nod x) (Go.Ad.nod y) ⟨#[]⟩ = R at *
  generalize mkF 13 (rsd d 7) (Go.Ad.nod y) 0 ⟨#[]⟩ = T at *
  generalize (Go.Ad.nod x : Int) = a at *
  generalize (Go.Ad.nod y : Int) = b at *
  generalize Fr_.zf = Z at *
  obtain ⟨Q, hQ⟩ : ∃ Q, Z = Q := ⟨_, rfl⟩
  obtain ⟨K, hK⟩ : ∃ K, Q = K := ⟨_, rfl⟩
  generalize (n : Int) = m at *
  have CT := Lib.hid A.rts
  have CC := Lib.hid A.cts
  have KR := Lib.hid A.ckR
  have KT := Lib.hid A.ckT
  have hta := A.to
  rw [hQ] at CQ
  rw [hQ] at CB
  have CB : Hid (∀ w', Below W.heap.size W w' → Calls Tryd.prog 14 #[Fr_.v Q, .int .i64 c, .int .i64 s, .int .u64 m] w' fun e w'' => e = .returned (.tuple #[Fr_.v K, .bool false]) ∧ Below w'.heap.size w' w'') := hK ▸ CB
  rw [hQ] at hkd
  have hdu := A.du
  clear hl h1 h2 hw hx hy A hQ hK
  rcases hdu with ⟨g1, g2, g3⟩ | ⟨g1, g3⟩
  all_goals
    rcases hc with hc1 | ⟨hc1, hc2⟩ | ⟨hc1, hc2, hc3⟩ | ⟨hc1, hc2, hc3, hc4⟩
    all_goals
      go_enter Tryd.func3, Tryd.ntmps3
      go_wp2_with (first
        | (go_at_call 8; with_reducible refine (NX.out _).mono ?_; rintro e w' ⟨rfl, rfl⟩)
        | (go_at_call 8; with_reducible refine (NY.out _).mono ?_; rintro e w' ⟨rfl, rfl⟩)
        | (go_at_call 10; refine (CT.out _).mono ?_; rintro e w1 ⟨rfl, hb⟩; have B1 := Lib.hid (HB.out _ _ B0.out hb); clear hb
           obtain ⟨w2, hw2⟩ : ∃ w2, w1.alloc (.cells (Fr_.C R) 27) = w2 := ⟨_, rfl⟩
           have B2 := Lib.hid (show Below W.heap.size W w2 from hw2 ▸ B1.out.alloc B1.out.size _)
           have R2 := Lib.hid (show Fr_.Box w2 w1.heap.size R from hw2 ▸ Fr_.Box.newC w1 R)
           have l2 := R2.out.loadF)
        | (go_at_call 11; refine (CC.out _ B2.out).mono ?_; rintro e w3 ⟨rfl, hb⟩; have B3 := Lib.hid (HB.out _ _ B2.out hb); have R3 := Lib.hid (R2.out.below hb R2.out.lt); clear hb l2
           obtain ⟨w4, hw4⟩ : ∃ w4, w3.alloc (.cells (Fr_.C T) 27) = w4 := ⟨_, rfl⟩
           have B4 := Lib.hid (show Below W.heap.size W w4 from hw4 ▸ B3.out.alloc B3.out.size _)
           have R4 := Lib.hid (show Fr_.Box w4 w1.heap.size R from hw4 ▸ R3.out.allocC _)
           have T4 := Lib.hid (show Fr_.Box w4 w3.heap.size T from hw4 ▸ Fr_.Box.newC w3 T)
           have l4 := R4.out.loadF)
        | (go_at_call 12; with_reducible refine (KR.out _ B4.out).mono ?_; rintro e w5 ⟨rfl, hb⟩; have B5 := Lib.hid (HB.out _ _ B4.out hb); have T5 := Lib.hid (T4.out.below hb T4.out.lt); clear hb l4; have l5 := T5.out.loadF)
        | (go_at_call 12; with_reducible refine (KT.out _ B5.out).mono ?_; rintro e w6 ⟨rfl, hb⟩; have B6 := Lib.hid (HB.out _ _ B5.out hb); have T6 := Lib.hid (T5.out.below hb T5.out.lt); clear hb l5; have e6 := T6.out.all)
        | (go_at_call 13; refine (CQ.out _).mono ?_; rintro e w7 ⟨rfl, hb⟩; have B7 := Lib.hid (HB.out _ _ B6.out hb); clear hb e6
           obtain ⟨w8, hw8⟩ : ∃ w8, w7.alloc (.cells (Fr_.C Q) 27) = w8 := ⟨_, rfl⟩
           have B8 := Lib.hid (show Below W.heap.size W w8 from hw8 ▸ B7.out.alloc B7.out.size _)
           have Q8 := Lib.hid (show Fr_.Box w8 w7.heap.size Q from hw8 ▸ Fr_.Box.newC w7 Q)
           have l8 := Q8.out.loadF)
        | (go_at_call 14; refine (CB.out _ B8.out).mono ?_; rintro e w9 ⟨rfl, hb⟩; have B9 := Lib.hid (HB.out _ _ B8.out hb); have Q9 := Lib.hid (Q8.out.below hb Q8.out.lt); clear hb l8
           obtain ⟨w10, hw10⟩ : ∃ w10, w9.alloc (.cells (Fr_.C K) 27) = w10 := ⟨_, rfl⟩
           have B10 := Lib.hid (show Below W.heap.size W w10 from hw10 ▸ B9.out.alloc B9.out.size _)
           have Q10 := Lib.hid (show Fr_.Box w10 w7.heap.size Q from hw10 ▸ Q9.out.allocC _)
           have K10 := Lib.hid (show Fr_.Box w10 w9.heap.size K from hw10 ▸ Fr_.Box.newC w9 K)
           have l10 := Q10.out.loadF
           have e10 := Q10.out.all)
        | (go_at_call 9; refine (lives11_any _ (HT.out _ B10.out)).mono ?_; rintro e w11 ⟨rfl, hb⟩; have B11 := Lib.hid (HB.out _ _ B10.out hb); clear hb))
      go_returns
      exact ⟨rfl, B11.out⟩
end Go.Proofs.YtjnafojgabkjmaaDoor
