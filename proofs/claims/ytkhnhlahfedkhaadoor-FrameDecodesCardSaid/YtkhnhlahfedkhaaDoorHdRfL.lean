/-
  THE WALK of layer 10: the reference's Read, behind the flags.
-/
import Derived.Test.YtkhnhlahfedkhaaDoorHdRfE
namespace Go.Proofs.YtkhnhlahfedkhaaDoor
open Go.RowKit Go.Hd Go.Wr Go.Ad
attribute [local go_sem ↓ high] Fr_.loadF Fr_.storeF Fr_.v_cells Fr_.v_match
attribute [local go_sem] Fr_.C0 Fr_.C1 Fr_.C2 Fr_.C3 Fr_.C4 Fr_.C5 Fr_.C6 Fr_.C7 Fr_.C8 Fr_.C9 Fr_.C10 Fr_.C11 Fr_.C12 Fr_.C13 Fr_.C14 Fr_.C15 Fr_.C16 Fr_.C17 Fr_.storeF_zero Fr_.storeF_new

/-- A flag that the kind does not use. -/
def bb (n : Nat) (k : Int) (i : Nat) : Prop := (n : Int) / 2 ^ i % 2 = 1 ∧ flg k / 2 ^ i % 2 = 0
/-- What Read hands back behind the flags. -/
def Late (s : ByteArray) (k : Int) (y : Fr) (z e : Int) : Prop :=
  ((s.size : Int) < ln0 k ∧ y = Fr_.zf ∧ z = 0 ∧ e = 1) ∨
  (k = 18 ∧ 27 ≤ s.size ∧ ¬ nv s 25 27 = 0 ∧ s.size < 32 ∧ y = Fr_.zf ∧ z = 0 ∧ e = 1) ∨
  (¬ k = 18 ∧ ln0 k ≤ (s.size : Int) ∧ chk (fOf s) = 0 ∧ e = 0 ∧ y = fOf s ∧ z = ln0 k) ∨
  (¬ k = 18 ∧ ln0 k ≤ (s.size : Int) ∧ chk (fOf s) = e ∧ ¬ e = 0 ∧ y = Fr_.zf ∧ z = 0) ∨
  (k = 18 ∧ 27 ≤ s.size ∧ nv s 25 27 = 0 ∧ chk (fOf s) = 0 ∧ e = 0 ∧ y = fOf s ∧ z = 27) ∨
  (k = 18 ∧ 27 ≤ s.size ∧ nv s 25 27 = 0 ∧ chk (fOf s) = e ∧ ¬ e = 0 ∧ y = Fr_.zf ∧ z = 0) ∨
  (k = 18 ∧ 32 ≤ s.size ∧ ¬ nv s 25 27 = 0 ∧ chk (fOf s) = 0 ∧ e = 0 ∧ y = fOf s ∧ z = 32) ∨
  (k = 18 ∧ 32 ≤ s.size ∧ ¬ nv s 25 27 = 0 ∧ chk (fOf s) = e ∧ ¬ e = 0 ∧ y = Fr_.zf ∧ z = 0)

/-- The frame of a kind alone. -/
def fk (k : Int) : Fr := ⟨k, false, false, false, false, false, false, 0, 0, 0, 0, 0, 0, 0, 0, 0, 0, ⟨#[]⟩⟩
theorem len_fk {k : Int} (h : isK k) : len (fk k) = ln0 k := by
  rcases kinds h with rfl | rfl | rfl | rfl | rfl | rfl | rfl | rfl | rfl | rfl | rfl | rfl | rfl | rfl | rfl | rfl | rfl | rfl | rfl <;> decide +kernel

theorem fields_plain (s : ByteArray) (k : Int) (n : Nat) (ek : (oc s 0 : Int) = k) (en : oc s 1 = n) (hk : isK k) (h18 : ¬ k = 18) (hs : ln0 k ≤ (s.size : Int)) (w : World) :
    Calls Tryd.prog 81 #[.string s] w fun e w' => e = .returned (Fr_.v (fOf s)) ∧ Below w.heap.size w w' := by
  refine refFields_any s w k n ek en ?_
  unfold isK at hk
  by_cases h1 : mg k
  · have e : ln0 k = 24 := if_pos h1
    rw [e] at hs
    unfold mg at h1
    exact .inl ⟨by unfold fro; omega, by unfold nb mg; omega, by unfold pl; omega, h18, by omega⟩
  by_cases h2 : k = 12 ∨ k = 17 ∨ k = 15 ∨ k = 16
  · have e : ln0 k = 16 := by unfold ln0; rw [if_neg h1, if_pos h2]
    rw [e] at hs
    exact .inr (.inl ⟨by unfold fro; omega, by unfold nb mg pl; omega, by unfold pl; omega, h18, by omega⟩)
  by_cases h3 : k = 13 ∨ k = 14
  · have e : ln0 k = 10 := by unfold ln0; rw [if_neg h1, if_neg h2, if_pos h3]
    rw [e] at hs
    exact .inr (.inr (.inl ⟨by unfold fro; omega, by unfold nb mg pl; omega, by unfold pl; omega, h18, by omega⟩))
  · have h4 : k = 19 := by unfold mg at h1; omega
    have e : ln0 k = 25 := by unfold ln0; rw [if_neg h1, if_neg h2, if_neg h3, if_neg h18, if_pos h4]
    rw [e] at hs
    exact .inr (.inr (.inr (.inl ⟨by unfold fro; omega, by unfold nb mg pl; omega, by unfold pl; omega, h18, by omega⟩)))
theorem fields_data (s : ByteArray) (n : Nat) (ek : (oc s 0 : Int) = 18) (en : oc s 1 = n) (h : (27 ≤ s.size ∧ nv s 25 27 = 0) ∨ (32 ≤ s.size ∧ ¬ nv s 25 27 = 0)) (w : World) :
    Calls Tryd.prog 81 #[.string s] w fun e w' => e = .returned (Fr_.v (fOf s)) ∧ Below w.heap.size w w' := by
  refine refFields_any s w 18 n ek en ?_
  rcases h with ⟨h1, h2⟩ | ⟨h1, h2⟩
  · exact .inr (.inr (.inr (.inr (.inl ⟨by unfold fro; omega, by unfold nb mg pl; omega, by unfold pl; omega, rfl, h1, h2⟩))))
  · exact .inr (.inr (.inr (.inr (.inr ⟨by unfold fro; omega, by unfold nb mg pl; omega, by unfold pl; omega, rfl, h1, h2⟩))))

set_option maxRecDepth 100000 in
set_option maxHeartbeats 400000 in
theorem refRead_flags (s : ByteArray) (w : World) (k : Int) (n : Nat) (ek : (oc s 0 : Int) = k) (en : oc s 1 = n) (h2 : 2 ≤ s.size) (hk : isK k) (h64 : pl k ∨ (¬ pl k ∧ (n : Int) / 64 = 0)) (y : Fr) (z e0 : Int)
    (hO : (∃ i, i < 6 ∧ bb n k i) ∧ y = Fr_.zf ∧ z = 0 ∧ e0 = 3) :
    Calls Tryd.prog 43 #[.string s] w fun e w' => e = .returned (.tuple #[Fr_.v y, .int .i64 z, .int .i64 e0]) ∧ Below w.heap.size w w' := by
  have CI := Lib.hid (refIs_any k)
  have CP := Lib.hid (refPolicy_any k)
  have CL := Lib.hid (refFlags_any k)
  rw [decide_eq_true hk] at CI
  have hz := Fr_.C_zf.symm
  obtain ⟨w1, hw1⟩ : ∃ w1, w.alloc (.cells (Fr_.C Fr_.zf) 25) = w1 := ⟨_, rfl⟩
  have st := Lib.hid (show Gst w w.heap.size w1 from hw1 ▸ Gst.new w)
  have sf : (Fr_.StoreF ⟨w.heap.size, 0, none⟩ (.agg (Fr_.C Fr_.zf))).run Tryd.prog w1 = .ok () (w1.setRow w.heap.size (Fr_.C Fr_.zf)) := st.out.res.storeF Fr_.zf
  have uk : RowKit.wrap64 k = k := IntWalk.wrap64_in _ (by have := oc_lt s 0; omega)
  have un : RowKit.wrap64 (n : Int) = n := IntWalk.wrap64_in _ (by have := oc_lt s 1; omega)
  have hn : n < 256 := en ▸ oc_lt s 1
  obtain ⟨t64, u64', v64, -⟩ := quo_facts hn (d := 64) (by decide)
  obtain ⟨q64, Q64⟩ : ∃ q, (n : Int) / 64 = q := ⟨_, rfl⟩
  rw [Q64] at t64 u64' v64 h64
  clear Q64
  have z0 : 0 < s.size := by omega
  have z1 : 1 < s.size := by omega
  have g0 : ((s[0]'z0).toNat : Int) = k := ek ▸ congrArg Nat.cast (oc_get z0)
  have g1 : (s[1]'z1).toNat = n := en ▸ oc_get z1
  have a1 : decide ((s.size : Int) < 1) = false := decide_eq_false (by omega)
  have a2 : decide ((s.size : Int) < 2) = false := decide_eq_false (by omega)
  have H2 := Lib.hid h2
  have hfb := flg_bounds k
  have HBB : Hid (∀ i, bb n k i ↔ ((n : Int) / 2 ^ i % 2 = 1 ∧ flg k / 2 ^ i % 2 = 0)) := fun _ => Iff.rfl
  obtain ⟨hX, rfl, rfl, rfl⟩ := hO
  have HX := Lib.hid hX
  clear h2 hX
  generalize flg k = fl at *
  rcases h64 with hp | ⟨hp, rfl⟩
  all_goals
    (first | rw [decide_eq_true hp] at CP | rw [decide_eq_false hp] at CP)
    clear hp
    have HN := Lib.hid hn
    clear hn
    go_enter Tryd.func43, Tryd.ntmps43
    go_wp2_with (first
      | (go_at_call 57; refine (CI.out _).mono ?_; rintro e w' ⟨rfl, rfl⟩)
      | (go_at_call 62; refine (CP.out _).mono ?_; rintro e w' ⟨rfl, rfl⟩))
    go_loopw [7] (fun i wr => ∃ (m : Nat) (b : Int), m ≤ 6 ∧ b = 2 ^ m ∧ i = .int .i64 b ∧ (∀ j, j < m → ¬ bb n k j) ∧ w1 = wr) (fun i _ => (64 - intOf i).toNat)
    case atStart => exact ⟨0, 1, by decide, rfl, rfl, fun j hj => absurd hj (Nat.not_lt_zero j), rfl⟩
    case round =>
      obtain ⟨m, b, hm, hbm, rfl, hno, rfl⟩ := hrel
      have HNO := Lib.hid hno
      clear hno
      by_cases hlt : m < 6
      · have hbr : 1 ≤ b ∧ b ≤ 32 := by
          rw [hbm]
          match m, hlt with
          | 0, _ => decide
          | 1, _ => decide
          | 2, _ => decide
          | 3, _ => decide
          | 4, _ => decide
          | 5, _ => decide
        have hb2 : b * 2 = 2 ^ (m + 1) := by rw [hbm, Int.pow_succ]
        have hub := HBB.out m
        rw [← hbm] at hub
        have HUBM := Lib.hid hub
        have HB2 := Lib.hid hb2
        obtain ⟨hb1, hb32⟩ := hbr
        obtain ⟨t1, q1', q1, t3⟩ := quo_facts HN.out (d := b) hb1
        have ff : 0 ≤ fl / b ∧ fl / b ≤ 63 := ⟨Int.ediv_nonneg hfb.1 (by omega), Int.le_trans (Int.ediv_le_self _ hfb.1) hfb.2⟩
        have t2 : fl.tdiv b = fl / b := Int.tdiv_eq_ediv_of_nonneg hfb.1
        have t4 : (fl / b).tmod 2 = fl / b % 2 := Int.tmod_eq_emod_of_nonneg ff.1
        have HBM := Lib.hid hbm
        clear hub hb2 hbm
        generalize (n : Int) / b = x at *
        generalize fl / b = y at *
        have q2 : IntKind.i64.wrap y = y := IntWalk.i64_in _ (by omega)
        have z0' : ¬ b = 0 := by omega
        have z1' : (b == 0) = false := by simp [z0']
        by_cases c1 : x % 2 = 1
        · have c1' : (x % 2 == 1) = true := by simp [c1]
          by_cases c2 : y % 2 = 0
          · have c2' : (y % 2 == 0) = true := by simp [c2]
            go_wp2_with (go_at_call 79; refine (CL.out _).mono ?_; rintro e w' ⟨rfl, rfl⟩)
            refine ret_three Tryd.results43 rfl rfl rfl (st.out.res.setRow Fr_.zf) rfl ⟨rfl, st.out.fin Fr_.zf⟩
          · have HNB : Hid (¬ bb n k m) := fun h => c2 (HUBM.out.1 h).2
            have c2' : (y % 2 == 0) = false := by simp [c2]
            go_wp2_with (go_at_call 79; refine (CL.out _).mono ?_; rintro e w' ⟨rfl, rfl⟩)
            go_roundw
            case rel => exact ⟨m + 1, b * 2, by omega, HB2.out, by go_num, fun j hj => by
              by_cases e : j = m
              · subst e; exact HNB.out
              · exact HNO.out j (by omega), trivial⟩
            case measure => simp [intOf]; omega
        · have HNB : Hid (¬ bb n k m) := fun h => c1 (HUBM.out.1 h).1
          have c1' : (x % 2 == 1) = false := by simp [c1]
          go_wp2
          go_roundw
          case rel => exact ⟨m + 1, b * 2, by omega, HB2.out, by go_num, fun j hj => by
            by_cases e : j = m
            · subst e; exact HNB.out
            · exact HNO.out j (by omega), trivial⟩
          case measure => simp [intOf]; omega
      · obtain rfl : m = 6 := by omega
        obtain ⟨i, hi, hu⟩ := HX.out
        exact absurd hu (HNO.out i hi)

set_option maxRecDepth 100000 in
set_option maxHeartbeats 8000000 in
theorem refRead_rest (s : ByteArray) (w : World) (k : Int) (n : Nat) (ek : (oc s 0 : Int) = k) (en : oc s 1 = n) (h2 : 2 ≤ s.size) (hk : isK k) (h64 : pl k ∨ (¬ pl k ∧ (n : Int) / 64 = 0)) (y : Fr) (z e0 : Int)
    (hO : (∀ i, i < 6 → ¬ bb n k i) ∧ Late s k y z e0) :
    Calls Tryd.prog 43 #[.string s] w fun e w' => e = .returned (.tuple #[Fr_.v y, .int .i64 z, .int .i64 e0]) ∧ Below w.heap.size w w' := by
  have CI := Lib.hid (refIs_any k)
  have CP := Lib.hid (refPolicy_any k)
  have CL := Lib.hid (refFlags_any k)
  rw [decide_eq_true hk] at CI
  have hz := Fr_.C_zf.symm
  obtain ⟨w1, hw1⟩ : ∃ w1, w.alloc (.cells (Fr_.C Fr_.zf) 25) = w1 := ⟨_, rfl⟩
  have st := Lib.hid (show Gst w w.heap.size w1 from hw1 ▸ Gst.new w)
  have sf : (Fr_.StoreF ⟨w.heap.size, 0, none⟩ (.agg (Fr_.C Fr_.zf))).run Tryd.prog w1 = .ok () (w1.setRow w.heap.size (Fr_.C Fr_.zf)) := st.out.res.storeF Fr_.zf
  have uk : RowKit.wrap64 k = k := IntWalk.wrap64_in _ (by have := oc_lt s 0; omega)
  have un : RowKit.wrap64 (n : Int) = n := IntWalk.wrap64_in _ (by have := oc_lt s 1; omega)
  have hn : n < 256 := en ▸ oc_lt s 1
  obtain ⟨t64, u64', v64, -⟩ := quo_facts hn (d := 64) (by decide)
  obtain ⟨q64, Q64⟩ : ∃ q, (n : Int) / 64 = q := ⟨_, rfl⟩
  rw [Q64] at t64 u64' v64 h64
  clear Q64
  have z0 : 0 < s.size := by omega
  have z1 : 1 < s.size := by omega
  have g0 : ((s[0]'z0).toNat : Int) = k := ek ▸ congrArg Nat.cast (oc_get z0)
  have g1 : (s[1]'z1).toNat = n := en ▸ oc_get z1
  have a1 : decide ((s.size : Int) < 1) = false := decide_eq_false (by omega)
  have a2 : decide ((s.size : Int) < 2) = false := decide_eq_false (by omega)
  have H2 := Lib.hid h2
  have hfb := flg_bounds k
  have HBB : Hid (∀ i, bb n k i ↔ ((n : Int) / 2 ^ i % 2 = 1 ∧ flg k / 2 ^ i % 2 = 0)) := fun _ => Iff.rfl
  have HX := Lib.hid hO.1
  have HL := Lib.hid hO.2
  have HK := Lib.hid hk
  have EK := Lib.hid ek
  have EN := Lib.hid en
  obtain ⟨x0, hx0⟩ : ∃ x : Fr, x = fk k := ⟨_, rfl⟩
  have hfold : (Fr_.C Fr_.zf).setIfInBounds 0 (.int .i64 k) = Fr_.C x0 := by rw [hx0]; rfl
  have CLn : Hid (∀ w, Calls Tryd.prog 26 #[.agg (Fr_.C x0)] w fun e w' => e = .returned (.int .i64 (ln0 k)) ∧ Below w.heap.size w w') := fun w => by
    have h := refLength_any x0 w
    rw [hx0, len_fk hk, ← hx0] at h
    exact h
  clear h2 hO hk ek en hx0
  generalize flg k = fl at *
  rcases h64 with hp | ⟨hp, rfl⟩
  all_goals
    (first | rw [decide_eq_true hp] at CP | rw [decide_eq_false hp] at CP)
    clear hp
    have HN := Lib.hid hn
    clear hn
    go_enter Tryd.func43, Tryd.ntmps43
    go_wp2_with (first
      | (go_at_call 57; refine (CI.out _).mono ?_; rintro e w' ⟨rfl, rfl⟩)
      | (go_at_call 62; refine (CP.out _).mono ?_; rintro e w' ⟨rfl, rfl⟩))
    go_loopw [7] (fun i wr => ∃ (m : Nat) (b : Int), m ≤ 6 ∧ b = 2 ^ m ∧ i = .int .i64 b ∧ (∀ j, j < m → ¬ bb n k j) ∧ w1 = wr) (fun i _ => (64 - intOf i).toNat)
    case atStart => exact ⟨0, 1, by decide, rfl, rfl, fun j hj => absurd hj (Nat.not_lt_zero j), rfl⟩
    case round =>
      obtain ⟨m, b, hm, hbm, rfl, hno, rfl⟩ := hrel
      have HNO := Lib.hid hno
      clear hno
      by_cases hlt : m < 6
      · have hbr : 1 ≤ b ∧ b ≤ 32 := by
          rw [hbm]
          match m, hlt with
          | 0, _ => decide
          | 1, _ => decide
          | 2, _ => decide
          | 3, _ => decide
          | 4, _ => decide
          | 5, _ => decide
        have hb2 : b * 2 = 2 ^ (m + 1) := by rw [hbm, Int.pow_succ]
        have hub := HBB.out m
        rw [← hbm] at hub
        have HUBM := Lib.hid hub
        have HB2 := Lib.hid hb2
        obtain ⟨hb1, hb32⟩ := hbr
        obtain ⟨t1, q1', q1, t3⟩ := quo_facts HN.out (d := b) hb1
        have ff : 0 ≤ fl / b ∧ fl / b ≤ 63 := ⟨Int.ediv_nonneg hfb.1 (by omega), Int.le_trans (Int.ediv_le_self _ hfb.1) hfb.2⟩
        have t2 : fl.tdiv b = fl / b := Int.tdiv_eq_ediv_of_nonneg hfb.1
        have t4 : (fl / b).tmod 2 = fl / b % 2 := Int.tmod_eq_emod_of_nonneg ff.1
        have HBM := Lib.hid hbm
        clear hub hb2 hbm
        generalize (n : Int) / b = x at *
        generalize fl / b = y at *
        have q2 : IntKind.i64.wrap y = y := IntWalk.i64_in _ (by omega)
        have z0' : ¬ b = 0 := by omega
        have z1' : (b == 0) = false := by simp [z0']
        by_cases c1 : x % 2 = 1
        · have c1' : (x % 2 == 1) = true := by simp [c1]
          by_cases c2 : y % 2 = 0
          · have c2' : (y % 2 == 0) = true := by simp [c2]
            exact absurd (HUBM.out.2 ⟨c1, c2⟩) (HX.out m hlt)
          · have HNB : Hid (¬ bb n k m) := fun h => c2 (HUBM.out.1 h).2
            have c2' : (y % 2 == 0) = false := by simp [c2]
            go_wp2_with (go_at_call 79; refine (CL.out _).mono ?_; rintro e w' ⟨rfl, rfl⟩)
            go_roundw
            case rel => exact ⟨m + 1, b * 2, by omega, HB2.out, by go_num, fun j hj => by
              by_cases e : j = m
              · subst e; exact HNB.out
              · exact HNO.out j (by omega), trivial⟩
            case measure => simp [intOf]; omega
        · have HNB : Hid (¬ bb n k m) := fun h => c1 (HUBM.out.1 h).1
          have c1' : (x % 2 == 1) = false := by simp [c1]
          go_wp2
          go_roundw
          case rel => exact ⟨m + 1, b * 2, by omega, HB2.out, by go_num, fun j hj => by
            by_cases e : j = m
            · subst e; exact HNB.out
            · exact HNO.out j (by omega), trivial⟩
          case measure => simp [intOf]; omega
      · obtain rfl : m = 6 := by omega
        obtain rfl : b = 64 := hbm
        clear HNO hfb HX HBB hlt hm
        rcases HL.out with ⟨c1, hy, hzz, he⟩ | ⟨c1, c2, c3, c4, hy, hzz, he⟩ | ⟨c1, c2, c3, he, hy, hzz⟩ | ⟨c1, c2, c3, hn0, hy, hzz⟩ | ⟨c1, c2, c3, c4, he, hy, hzz⟩ | ⟨c1, c2, c3, c4, hn0, hy, hzz⟩ | ⟨c1, c2, c3, c4, he, hy, hzz⟩ | ⟨c1, c2, c3, c4, hn0, hy, hzz⟩
        case inl =>
          have aL : decide ((s.size : Int) < ln0 k) = true := decide_eq_true c1
          have HE := Lib.hid (And.intro hy (And.intro hzz he))
          clear hy hzz he c1
          generalize ln0 k = L at *
          go_wp2_with (go_at_call 26; refine (CLn.out _).mono ?_; rintro e w2 ⟨rfl, hb⟩; have st2 := Lib.hid (st.out.keep hb); clear hb sf; have sf : (Fr_.StoreF ⟨w.heap.size, 0, none⟩ (.agg (Fr_.C Fr_.zf))).run Tryd.prog w2 = .ok () (w2.setRow w.heap.size (Fr_.C Fr_.zf)) := st2.out.res.storeF Fr_.zf)
          refine ret_three Tryd.results43 rfl rfl rfl (st2.out.res.setRow Fr_.zf) rfl ⟨?_, st2.out.fin Fr_.zf⟩
          rw [HE.out.1, HE.out.2.1, HE.out.2.2]
          rfl
        case inr.inl =>
          subst c1
          rw [show ln0 18 = 27 by decide +kernel] at CLn
          have aL : decide ((s.size : Int) < 27) = false := decide_eq_false (by omega)
          have aM : decide ((s.size : Int) < 32) = true := decide_eq_true (by omega)
          have LN : ∀ W, (Instr.slice 9 (.string s) (some (.int .i64 25)) (some (.int .i64 27)) none).run Tryd.prog W = .ok (.string (s.extract 25 27)) W := cut_run s 25 27 ⟨by decide, by omega⟩
          have CNum := Lib.hid (nv_any s 25 27 (by omega) (by decide))
          have HE := Lib.hid (And.intro hy (And.intro hzz he))
          have kz : (nv s 25 27 != 0) = true := by simp [c3]
          clear hy hzz he c2 c3 c4
          generalize nv s 25 27 = v at *
          go_wp2_with (first
            | (go_at_call 26; refine (CLn.out _).mono ?_; rintro e w2 ⟨rfl, hb⟩; have st2 := Lib.hid (st.out.keep hb); clear hb sf; have sf : (Fr_.StoreF ⟨w.heap.size, 0, none⟩ (.agg (Fr_.C Fr_.zf))).run Tryd.prog w2 = .ok () (w2.setRow w.heap.size (Fr_.C Fr_.zf)) := st2.out.res.storeF Fr_.zf)
            | (go_at_call 80; refine (CNum.out _).mono ?_; rintro e w2' ⟨rfl, rfl⟩))
          refine ret_three Tryd.results43 rfl rfl rfl (st2.out.res.setRow Fr_.zf) rfl ⟨?_, st2.out.fin Fr_.zf⟩
          rw [HE.out.1, HE.out.2.1, HE.out.2.2]
          rfl
        case inr.inr.inl =>
          have aL : decide ((s.size : Int) < ln0 k) = false := decide_eq_false (by omega)
          have CFd := Lib.hid (fields_plain s k n EK.out EN.out HK.out c1 c2)
          have CCk := Lib.hid (refCheck_any (fOf s))
          have h18 : (k == 18) = false := by simp [c1]
          rw [c3] at CCk
          have HE := Lib.hid (And.intro hy (And.intro hzz he))
          skip
          clear hy hzz he c3 c2
          generalize fOf s = F at *
          generalize ln0 k = L at *
          go_wp2_with (first
            | (go_at_call 26; refine (CLn.out _).mono ?_; rintro e w2 ⟨rfl, hb⟩; have st2 := Lib.hid (st.out.keep hb); clear hb sf; have sf : (Fr_.StoreF ⟨w.heap.size, 0, none⟩ (.agg (Fr_.C Fr_.zf))).run Tryd.prog w2 = .ok () (w2.setRow w.heap.size (Fr_.C Fr_.zf)) := st2.out.res.storeF Fr_.zf)
            | (go_at_call 80; refine (CNum.out _).mono ?_; rintro e w2' ⟨rfl, rfl⟩)
            | (go_at_call 81; refine (CFd.out _).mono ?_; rintro e w3 ⟨rfl, hb⟩; have st3 := Lib.hid (st2.out.keep hb); clear hb sf
               obtain ⟨w4, hw4⟩ : ∃ w4, w3.alloc (.cells (Fr_.C F) 25) = w4 := ⟨_, rfl⟩
               have st4 := Lib.hid (show Gst w w.heap.size w4 from hw4 ▸ st3.out.keep ((Below.refl _ _).alloc (Nat.le_refl _) _))
               have bx4 := Lib.hid (show Fr_.Box w4 w3.heap.size F from hw4 ▸ Fr_.Box.newC w3 F)
               have l4 := bx4.out.loadF)
            | (go_at_call 22; refine (CCk.out _).mono ?_; rintro e w5 ⟨rfl, hb⟩; have st5 := Lib.hid (st4.out.keep hb); have bx5 := Lib.hid (bx4.out.below hb bx4.out.lt); clear hb l4
               have l5 := bx5.out.loadF
               have sfF := st5.out.res.storeF F
               have sf : (Fr_.StoreF ⟨w.heap.size, 0, none⟩ (.agg (Fr_.C Fr_.zf))).run Tryd.prog w5 = .ok () (w5.setRow w.heap.size (Fr_.C Fr_.zf)) := st5.out.res.storeF Fr_.zf))
          refine ret_three Tryd.results43 rfl rfl rfl (st5.out.res.setRow F) rfl ⟨?_, st5.out.fin F⟩
          rw [HE.out.1, HE.out.2.1, HE.out.2.2]
          rfl
        case inr.inr.inr.inl =>
          have aL : decide ((s.size : Int) < ln0 k) = false := decide_eq_false (by omega)
          have CFd := Lib.hid (fields_plain s k n EK.out EN.out HK.out c1 c2)
          have CCk := Lib.hid (refCheck_any (fOf s))
          have h18 : (k == 18) = false := by simp [c1]
          rw [c3] at CCk
          have HE := Lib.hid (And.intro hy (And.intro hzz True.intro))
          have en0 : (e0 != 0) = true := by simp [hn0]
          clear hy hzz c3 c2 hn0
          generalize fOf s = F at *
          generalize ln0 k = L at *
          go_wp2_with (first
            | (go_at_call 26; refine (CLn.out _).mono ?_; rintro e w2 ⟨rfl, hb⟩; have st2 := Lib.hid (st.out.keep hb); clear hb sf; have sf : (Fr_.StoreF ⟨w.heap.size, 0, none⟩ (.agg (Fr_.C Fr_.zf))).run Tryd.prog w2 = .ok () (w2.setRow w.heap.size (Fr_.C Fr_.zf)) := st2.out.res.storeF Fr_.zf)
            | (go_at_call 80; refine (CNum.out _).mono ?_; rintro e w2' ⟨rfl, rfl⟩)
            | (go_at_call 81; refine (CFd.out _).mono ?_; rintro e w3 ⟨rfl, hb⟩; have st3 := Lib.hid (st2.out.keep hb); clear hb sf
               obtain ⟨w4, hw4⟩ : ∃ w4, w3.alloc (.cells (Fr_.C F) 25) = w4 := ⟨_, rfl⟩
               have st4 := Lib.hid (show Gst w w.heap.size w4 from hw4 ▸ st3.out.keep ((Below.refl _ _).alloc (Nat.le_refl _) _))
               have bx4 := Lib.hid (show Fr_.Box w4 w3.heap.size F from hw4 ▸ Fr_.Box.newC w3 F)
               have l4 := bx4.out.loadF)
            | (go_at_call 22; refine (CCk.out _).mono ?_; rintro e w5 ⟨rfl, hb⟩; have st5 := Lib.hid (st4.out.keep hb); have bx5 := Lib.hid (bx4.out.below hb bx4.out.lt); clear hb l4
               have l5 := bx5.out.loadF
               have sfF := st5.out.res.storeF F
               have sf : (Fr_.StoreF ⟨w.heap.size, 0, none⟩ (.agg (Fr_.C Fr_.zf))).run Tryd.prog w5 = .ok () (w5.setRow w.heap.size (Fr_.C Fr_.zf)) := st5.out.res.storeF Fr_.zf))
          refine ret_three Tryd.results43 rfl rfl rfl (st5.out.res.setRow Fr_.zf) rfl ⟨?_, st5.out.fin Fr_.zf⟩
          rw [HE.out.1, HE.out.2.1]
          rfl
        case inr.inr.inr.inr.inl =>
          subst c1
          rw [show ln0 18 = 27 by decide +kernel] at CLn
          have aL : decide ((s.size : Int) < 27) = false := decide_eq_false (by omega)
          have LN : ∀ W, (Instr.slice 9 (.string s) (some (.int .i64 25)) (some (.int .i64 27)) none).run Tryd.prog W = .ok (.string (s.extract 25 27)) W := cut_run s 25 27 ⟨by decide, by omega⟩
          have CNum := Lib.hid (nv_any s 25 27 (by omega) (by decide))
          have CFd := Lib.hid (fields_data s n EK.out EN.out (.inl ⟨c2, c3⟩))
          have CCk := Lib.hid (refCheck_any (fOf s))
          have kz : (nv s 25 27 != 0) = false := by simp [c3]
          generalize nv s 25 27 = v at *
          rw [c4] at CCk
          have HE := Lib.hid (And.intro hy (And.intro hzz he))
          skip
          clear hy hzz c2 c3 c4 he
          generalize fOf s = F at *
          go_wp2_with (first
            | (go_at_call 26; refine (CLn.out _).mono ?_; rintro e w2 ⟨rfl, hb⟩; have st2 := Lib.hid (st.out.keep hb); clear hb sf; have sf : (Fr_.StoreF ⟨w.heap.size, 0, none⟩ (.agg (Fr_.C Fr_.zf))).run Tryd.prog w2 = .ok () (w2.setRow w.heap.size (Fr_.C Fr_.zf)) := st2.out.res.storeF Fr_.zf)
            | (go_at_call 80; refine (CNum.out _).mono ?_; rintro e w2' ⟨rfl, rfl⟩)
            | (go_at_call 81; refine (CFd.out _).mono ?_; rintro e w3 ⟨rfl, hb⟩; have st3 := Lib.hid (st2.out.keep hb); clear hb sf
               obtain ⟨w4, hw4⟩ : ∃ w4, w3.alloc (.cells (Fr_.C F) 25) = w4 := ⟨_, rfl⟩
               have st4 := Lib.hid (show Gst w w.heap.size w4 from hw4 ▸ st3.out.keep ((Below.refl _ _).alloc (Nat.le_refl _) _))
               have bx4 := Lib.hid (show Fr_.Box w4 w3.heap.size F from hw4 ▸ Fr_.Box.newC w3 F)
               have l4 := bx4.out.loadF)
            | (go_at_call 22; refine (CCk.out _).mono ?_; rintro e w5 ⟨rfl, hb⟩; have st5 := Lib.hid (st4.out.keep hb); have bx5 := Lib.hid (bx4.out.below hb bx4.out.lt); clear hb l4
               have l5 := bx5.out.loadF
               have sfF := st5.out.res.storeF F
               have sf : (Fr_.StoreF ⟨w.heap.size, 0, none⟩ (.agg (Fr_.C Fr_.zf))).run Tryd.prog w5 = .ok () (w5.setRow w.heap.size (Fr_.C Fr_.zf)) := st5.out.res.storeF Fr_.zf))
          refine ret_three Tryd.results43 rfl rfl rfl (st5.out.res.setRow F) rfl ⟨?_, st5.out.fin F⟩
          rw [HE.out.1, HE.out.2.1, HE.out.2.2]
          rfl
        case inr.inr.inr.inr.inr.inl =>
          subst c1
          rw [show ln0 18 = 27 by decide +kernel] at CLn
          have aL : decide ((s.size : Int) < 27) = false := decide_eq_false (by omega)
          have LN : ∀ W, (Instr.slice 9 (.string s) (some (.int .i64 25)) (some (.int .i64 27)) none).run Tryd.prog W = .ok (.string (s.extract 25 27)) W := cut_run s 25 27 ⟨by decide, by omega⟩
          have CNum := Lib.hid (nv_any s 25 27 (by omega) (by decide))
          have CFd := Lib.hid (fields_data s n EK.out EN.out (.inl ⟨c2, c3⟩))
          have CCk := Lib.hid (refCheck_any (fOf s))
          have kz : (nv s 25 27 != 0) = false := by simp [c3]
          generalize nv s 25 27 = v at *
          rw [c4] at CCk
          have HE := Lib.hid (And.intro hy (And.intro hzz True.intro))
          have en0 : (e0 != 0) = true := by simp [hn0]
          clear hy hzz c2 c3 c4 hn0
          generalize fOf s = F at *
          go_wp2_with (first
            | (go_at_call 26; refine (CLn.out _).mono ?_; rintro e w2 ⟨rfl, hb⟩; have st2 := Lib.hid (st.out.keep hb); clear hb sf; have sf : (Fr_.StoreF ⟨w.heap.size, 0, none⟩ (.agg (Fr_.C Fr_.zf))).run Tryd.prog w2 = .ok () (w2.setRow w.heap.size (Fr_.C Fr_.zf)) := st2.out.res.storeF Fr_.zf)
            | (go_at_call 80; refine (CNum.out _).mono ?_; rintro e w2' ⟨rfl, rfl⟩)
            | (go_at_call 81; refine (CFd.out _).mono ?_; rintro e w3 ⟨rfl, hb⟩; have st3 := Lib.hid (st2.out.keep hb); clear hb sf
               obtain ⟨w4, hw4⟩ : ∃ w4, w3.alloc (.cells (Fr_.C F) 25) = w4 := ⟨_, rfl⟩
               have st4 := Lib.hid (show Gst w w.heap.size w4 from hw4 ▸ st3.out.keep ((Below.refl _ _).alloc (Nat.le_refl _) _))
               have bx4 := Lib.hid (show Fr_.Box w4 w3.heap.size F from hw4 ▸ Fr_.Box.newC w3 F)
               have l4 := bx4.out.loadF)
            | (go_at_call 22; refine (CCk.out _).mono ?_; rintro e w5 ⟨rfl, hb⟩; have st5 := Lib.hid (st4.out.keep hb); have bx5 := Lib.hid (bx4.out.below hb bx4.out.lt); clear hb l4
               have l5 := bx5.out.loadF
               have sfF := st5.out.res.storeF F
               have sf : (Fr_.StoreF ⟨w.heap.size, 0, none⟩ (.agg (Fr_.C Fr_.zf))).run Tryd.prog w5 = .ok () (w5.setRow w.heap.size (Fr_.C Fr_.zf)) := st5.out.res.storeF Fr_.zf))
          refine ret_three Tryd.results43 rfl rfl rfl (st5.out.res.setRow Fr_.zf) rfl ⟨?_, st5.out.fin Fr_.zf⟩
          rw [HE.out.1, HE.out.2.1]
          rfl
        case inr.inr.inr.inr.inr.inr.inl =>
          subst c1
          rw [show ln0 18 = 27 by decide +kernel] at CLn
          have aL : decide ((s.size : Int) < 27) = false := decide_eq_false (by omega)
          have aM : decide ((s.size : Int) < 32) = false := decide_eq_false (by omega)
          have LN : ∀ W, (Instr.slice 9 (.string s) (some (.int .i64 25)) (some (.int .i64 27)) none).run Tryd.prog W = .ok (.string (s.extract 25 27)) W := cut_run s 25 27 ⟨by decide, by omega⟩
          have CNum := Lib.hid (nv_any s 25 27 (by omega) (by decide))
          have CFd := Lib.hid (fields_data s n EK.out EN.out (.inr ⟨c2, c3⟩))
          have CCk := Lib.hid (refCheck_any (fOf s))
          have kz : (nv s 25 27 != 0) = true := by simp [c3]
          generalize nv s 25 27 = v at *
          rw [c4] at CCk
          have HE := Lib.hid (And.intro hy (And.intro hzz he))
          skip
          clear hy hzz c2 c3 c4 he
          generalize fOf s = F at *
          go_wp2_with (first
            | (go_at_call 26; refine (CLn.out _).mono ?_; rintro e w2 ⟨rfl, hb⟩; have st2 := Lib.hid (st.out.keep hb); clear hb sf; have sf : (Fr_.StoreF ⟨w.heap.size, 0, none⟩ (.agg (Fr_.C Fr_.zf))).run Tryd.prog w2 = .ok () (w2.setRow w.heap.size (Fr_.C Fr_.zf)) := st2.out.res.storeF Fr_.zf)
            | (go_at_call 80; refine (CNum.out _).mono ?_; rintro e w2' ⟨rfl, rfl⟩)
            | (go_at_call 81; refine (CFd.out _).mono ?_; rintro e w3 ⟨rfl, hb⟩; have st3 := Lib.hid (st2.out.keep hb); clear hb sf
               obtain ⟨w4, hw4⟩ : ∃ w4, w3.alloc (.cells (Fr_.C F) 25) = w4 := ⟨_, rfl⟩
               have st4 := Lib.hid (show Gst w w.heap.size w4 from hw4 ▸ st3.out.keep ((Below.refl _ _).alloc (Nat.le_refl _) _))
               have bx4 := Lib.hid (show Fr_.Box w4 w3.heap.size F from hw4 ▸ Fr_.Box.newC w3 F)
               have l4 := bx4.out.loadF)
            | (go_at_call 22; refine (CCk.out _).mono ?_; rintro e w5 ⟨rfl, hb⟩; have st5 := Lib.hid (st4.out.keep hb); have bx5 := Lib.hid (bx4.out.below hb bx4.out.lt); clear hb l4
               have l5 := bx5.out.loadF
               have sfF := st5.out.res.storeF F
               have sf : (Fr_.StoreF ⟨w.heap.size, 0, none⟩ (.agg (Fr_.C Fr_.zf))).run Tryd.prog w5 = .ok () (w5.setRow w.heap.size (Fr_.C Fr_.zf)) := st5.out.res.storeF Fr_.zf))
          refine ret_three Tryd.results43 rfl rfl rfl (st5.out.res.setRow F) rfl ⟨?_, st5.out.fin F⟩
          rw [HE.out.1, HE.out.2.1, HE.out.2.2]
          rfl
        case inr.inr.inr.inr.inr.inr.inr =>
          subst c1
          rw [show ln0 18 = 27 by decide +kernel] at CLn
          have aL : decide ((s.size : Int) < 27) = false := decide_eq_false (by omega)
          have aM : decide ((s.size : Int) < 32) = false := decide_eq_false (by omega)
          have LN : ∀ W, (Instr.slice 9 (.string s) (some (.int .i64 25)) (some (.int .i64 27)) none).run Tryd.prog W = .ok (.string (s.extract 25 27)) W := cut_run s 25 27 ⟨by decide, by omega⟩
          have CNum := Lib.hid (nv_any s 25 27 (by omega) (by decide))
          have CFd := Lib.hid (fields_data s n EK.out EN.out (.inr ⟨c2, c3⟩))
          have CCk := Lib.hid (refCheck_any (fOf s))
          have kz : (nv s 25 27 != 0) = true := by simp [c3]
          generalize nv s 25 27 = v at *
          rw [c4] at CCk
          have HE := Lib.hid (And.intro hy (And.intro hzz True.intro))
          have en0 : (e0 != 0) = true := by simp [hn0]
          clear hy hzz c2 c3 c4 hn0
          generalize fOf s = F at *
          go_wp2_with (first
            | (go_at_call 26; refine (CLn.out _).mono ?_; rintro e w2 ⟨rfl, hb⟩; have st2 := Lib.hid (st.out.keep hb); clear hb sf; have sf : (Fr_.StoreF ⟨w.heap.size, 0, none⟩ (.agg (Fr_.C Fr_.zf))).run Tryd.prog w2 = .ok () (w2.setRow w.heap.size (Fr_.C Fr_.zf)) := st2.out.res.storeF Fr_.zf)
            | (go_at_call 80; refine (CNum.out _).mono ?_; rintro e w2' ⟨rfl, rfl⟩)
            | (go_at_call 81; refine (CFd.out _).mono ?_; rintro e w3 ⟨rfl, hb⟩; have st3 := Lib.hid (st2.out.keep hb); clear hb sf
               obtain ⟨w4, hw4⟩ : ∃ w4, w3.alloc (.cells (Fr_.C F) 25) = w4 := ⟨_, rfl⟩
               have st4 := Lib.hid (show Gst w w.heap.size w4 from hw4 ▸ st3.out.keep ((Below.refl _ _).alloc (Nat.le_refl _) _))
               have bx4 := Lib.hid (show Fr_.Box w4 w3.heap.size F from hw4 ▸ Fr_.Box.newC w3 F)
               have l4 := bx4.out.loadF)
            | (go_at_call 22; refine (CCk.out _).mono ?_; rintro e w5 ⟨rfl, hb⟩; have st5 := Lib.hid (st4.out.keep hb); have bx5 := Lib.hid (bx4.out.below hb bx4.out.lt); clear hb l4
               have l5 := bx5.out.loadF
               have sfF := st5.out.res.storeF F
               have sf : (Fr_.StoreF ⟨w.heap.size, 0, none⟩ (.agg (Fr_.C Fr_.zf))).run Tryd.prog w5 = .ok () (w5.setRow w.heap.size (Fr_.C Fr_.zf)) := st5.out.res.storeF Fr_.zf))
          refine ret_three Tryd.results43 rfl rfl rfl (st5.out.res.setRow Fr_.zf) rfl ⟨?_, st5.out.fin Fr_.zf⟩
          rw [HE.out.1, HE.out.2.1]
          rfl
end Go.Proofs.YtkhnhlahfedkhaaDoor
