/-
  WALKS of the reference of layer 21: Check, New, Has.
-/
import Derived.Test.YtjighkagmnoncaaScProg
import Derived.Handy
namespace Go.Proofs.Ytjighkagmnoncaa
open Go.RowKit Go.Sc Go.Sq Go.Bs
attribute [local go_sem ↓ high] Sw_.loadF Sw_.storeF Sw_.v_cells Sw_.v_match
attribute [local go_sem] Sw_.C0 Sw_.C1 Sw_.C2 Sw_.loadF_new Sw_.storeF_zero Oper.semAt_some

theorem dwn_ne (m k : Nat) : ((m : Int) / 2 ^ k != 0) = !decide (dwn m k = 0) := by
  have e : (m : Int) / 2 ^ k = ((m / 2 ^ k : Nat) : Int) := by rw [Int.natCast_ediv, Int.natCast_pow]; rfl
  have e2 : dwn m k = m / 2 ^ k := by unfold dwn; rw [Int.toNat_natCast]
  rw [e, e2]
  by_cases h : m / 2 ^ k = 0
  · rw [h]; rfl
  · rw [decide_eq_false h]; simp only [Bool.not_false, bne_iff_ne]; omega
theorem bit1 (m i : Nat) (hm : m < 18446744073709551616) : (bits .and .u64 ((m : Int) / 2 ^ i) 1 == 1) = m.testBit i := by
  have e : (m : Int) / 2 ^ i = ((m / 2 ^ i : Nat) : Int) := by rw [Int.natCast_ediv, Int.natCast_pow]; rfl
  have e2 : bits .and .u64 ((m / 2 ^ i : Nat) : Int) ((1 : Nat) : Int) = ((m / 2 ^ i &&& 1 : Nat) : Int) := u64_and_nat _ _ (Nat.lt_of_le_of_lt (Nat.div_le_self _ _) hm) (by decide)
  rw [e, show (1 : Int) = ((1 : Nat) : Int) from rfl, e2, Nat.and_one_is_mod, Nat.testBit_eq_decide_div_mod_eq]
  by_cases h : m / 2 ^ i % 2 = 1
  · rw [decide_eq_true h, beq_iff_eq]; omega
  · rw [decide_eq_false h, beq_eq_false_iff_ne]; omega
theorem ck_new (s z : Int) : ck s z 0 = 0 ∨ ck s z 0 = 4 := by
  by_cases h : vl s = true ∧ 1 ≤ z ∧ z ≤ 64
  · left
    rw [ck_in h.1 h.2.1 h.2.2, if_pos]
    unfold dwn; simp
  · exact .inr (ck_out h)

set_option maxRecDepth 100000 in
set_option maxHeartbeats 4000000 in
theorem r21_check_any (st sz : Int) (m : Nat) (w : World) (hm : m < 18446744073709551616) :
    Calls Try.prog 11 #[Sw_.v ⟨st, sz, m⟩] w fun e w' => e = .returned (.int .i64 (ck st sz m)) ∧ Below w.heap.size w w' := by
  obtain ⟨x, hx⟩ : ∃ x : Sc, ⟨st, sz, m⟩ = x := ⟨_, rfl⟩
  rw [hx]
  obtain ⟨w1, hw1⟩ : ∃ w1, w.alloc (.cells (Sw_.C x) 24) = w1 := ⟨_, rfl⟩
  have hb : Sw_.Box w1 w.heap.size x := hw1 ▸ Sw_.Box.new w x
  have B1 : Hid (Below w.heap.size w w1) := hw1 ▸ (Below.refl _ _).alloc (Nat.le_refl _) _
  have e1 := hb.all
  have c0 : (Sw_.C x)[0]? = some (.int .i64 st) := by rw [← hx]; rfl
  have c1 : (Sw_.C x)[1]? = some (.int .i64 sz) := by rw [← hx]; rfl
  have c2 : (Sw_.C x)[2]? = some (.int .u64 (m : Int)) := by rw [← hx]; rfl
  have CV := Lib.hid (fun w => refValid_any st w)
  have HO := Lib.hid (@ck_out st sz m)
  have HI := Lib.hid (@ck_in st sz m)
  have HM := Lib.hid hm
  generalize ck st sz m = R at *
  clear hb hm hx
  cases hv : vl st
  · obtain rfl := HO.out (by rw [hv]; simp)
    rw [hv] at CV
    clear HO HI
    go_enter Try.func11, Try.ntmps11
    go_wp2_with (go_at_call 20; refine (CV.out _).mono ?_; rintro e w' ⟨rfl, rfl⟩)
    go_returns
    exact ⟨rfl, B1.out⟩
  by_cases h1 : sz < 1
  · obtain rfl := HO.out (fun h => by have := h.2.1; omega)
    rw [hv] at CV
    clear HO HI
    go_enter Try.func11, Try.ntmps11
    go_wp2_with (go_at_call 20; refine (CV.out _).mono ?_; rintro e w' ⟨rfl, rfl⟩)
    go_returns
    exact ⟨rfl, B1.out⟩
  by_cases h2 : 64 < sz
  · obtain rfl := HO.out (fun h => by have := h.2.2; omega)
    rw [hv] at CV
    clear HO HI
    go_enter Try.func11, Try.ntmps11
    go_wp2_with (go_at_call 20; refine (CV.out _).mono ?_; rintro e w' ⟨rfl, rfl⟩)
    go_returns
    exact ⟨rfl, B1.out⟩
  have hr := HI.out hv (by omega) (by omega)
  rw [hv] at CV
  clear HO HI
  by_cases h3 : sz < 64
  · obtain ⟨k, hk⟩ : ∃ k : Nat, sz = k := ⟨sz.toNat, by omega⟩
    subst hk
    have hmin : min k 64 = k := by omega
    have hu : IntKind.u64.wrap (k : Int) = k := IntWalk.u64_in _ (by omega)
    have hq := dwn_ne m k
    have HR := Lib.hid hr
    clear hr
    by_cases h4 : dwn m k = 0
    · have hr := HR.out.trans (if_pos h4)
      subst hr
      rw [decide_eq_true h4, Bool.not_true] at hq
      clear HR h4
      go_enter Try.func11, Try.ntmps11
      go_wp2_with (go_at_call 20; refine (CV.out _).mono ?_; rintro e w' ⟨rfl, rfl⟩)
      go_returns
      exact ⟨rfl, B1.out⟩
    · have hr := HR.out.trans (if_neg h4)
      subst hr
      rw [decide_eq_false h4, Bool.not_false] at hq
      clear HR h4
      go_enter Try.func11, Try.ntmps11
      go_wp2_with (go_at_call 20; refine (CV.out _).mono ?_; rintro e w' ⟨rfl, rfl⟩)
      go_returns
      exact ⟨rfl, B1.out⟩
  · obtain rfl : sz = 64 := by omega
    rw [if_pos (dwn_big HM.out (Int.le_refl 64))] at hr
    subst hr
    go_enter Try.func11, Try.ntmps11
    go_wp2_with (go_at_call 20; refine (CV.out _).mono ?_; rintro e w' ⟨rfl, rfl⟩)
    go_returns
    exact ⟨rfl, B1.out⟩

set_option maxRecDepth 100000 in
set_option maxHeartbeats 4000000 in
theorem r21_new_any (s z : Int) (w : World) :
    Calls Try.prog 9 #[.int .i64 s, .int .i64 z] w fun e w' => NwPost s z w e w' := by
  obtain ⟨w1, hw1⟩ : ∃ w1, w.alloc (.cells (Sw_.C zs) 24) = w1 := ⟨_, rfl⟩
  obtain ⟨w2, hw2⟩ : ∃ w2, w1.alloc (.cells (Sw_.C ⟨s, z, 0⟩) 24) = w2 := ⟨_, rfl⟩
  have hw1' : w.alloc (.cells #[.int .i64 0, .int .i64 0, .int .u64 0] 24) = w1 := hw1
  have z1 : w1.heap.size = w.heap.size + 1 := by rw [← hw1]; simp
  have X1 : Sw_.Box w1 w.heap.size zs := hw1 ▸ Sw_.Box.new w zs
  have b2 : Below w1.heap.size w1 w2 := hw2 ▸ (Below.refl _ _).alloc (Nat.le_refl _) _
  have B2 : Hid (Below w.heap.size w w2) := (show Below w.heap.size w w1 from hw1 ▸ (Below.refl _ _).alloc (Nat.le_refl _) _).trans (b2.mono (by omega))
  have X2 := Lib.hid (X1.below b2 X1.lt)
  have Y2 := Lib.hid (show Sw_.Box w2 (w.heap.size + 1) ⟨s, z, 0⟩ by rw [← hw2, ← z1]; exact Sw_.Box.new w1 _)
  have st0 : (Sw_.StoreF ⟨w.heap.size + 1, 0, none⟩ (.agg #[.int .i64 s, .int .i64 z, .int .u64 0])).run Try.prog (w1.alloc (.cells #[.int .i64 0, .int .i64 0, .int .u64 0] 24)) = .ok () w2 := by
    rw [← hw2, ← z1]; exact Sw_.storeF_new w1 zs ⟨s, z, 0⟩
  have l2 := Y2.out.loadF
  have CC : Hid (Calls Try.prog 11 #[Sw_.v ⟨s, z, 0⟩] w2 fun e w' => e = .returned (.int .i64 (ck s z 0)) ∧ Below w2.heap.size w2 w') := r21_check_any s z 0 w2 (by decide)
  have HY := Lib.hid (fun (h : ck s z 0 = 0) => show nwC s z = ⟨s, z, 0⟩ from if_pos h)
  have HN := Lib.hid (fun (h : ¬ ck s z 0 = 0) => show nwC s z = zs from if_neg h)
  have H4 := Lib.hid (ck_new s z)
  unfold NwPost
  generalize nwC s z = y at *
  generalize ck s z 0 = K at *
  clear X1 b2 hw1 hw2
  by_cases hk : K = 0
  · obtain rfl := HY.out hk
    subst hk
    clear HY HN
    go_enter Try.func9, Try.ntmps9
    go_wp2_with (go_at_call 11; refine CC.out.mono ?_; rintro e w3 ⟨rfl, hw3⟩; have X3 := Lib.hid (X2.out.below hw3 X2.out.lt); have B3 := Lib.hid (B2.out.trans (hw3.mono B2.out.size)); have l3 := (Y2.out.below hw3 Y2.out.lt).loadF; have st3 := X3.out.storeF ⟨s, z, 0⟩; clear hw3)
    exact ret_sc2 Try.results9 rfl rfl (X3.out.setRow ⟨s, z, 0⟩) rfl ⟨rfl, below_row21 B3.out (Nat.le_refl _) _⟩
  · obtain rfl := HN.out hk
    obtain rfl := H4.out.resolve_left hk
    clear HY HN hk
    go_enter Try.func9, Try.ntmps9
    go_wp2_with (go_at_call 11; refine CC.out.mono ?_; rintro e w3 ⟨rfl, hw3⟩; have X3 := Lib.hid (X2.out.below hw3 X2.out.lt); have B3 := Lib.hid (B2.out.trans (hw3.mono B2.out.size)); have st3 : (Sw_.StoreF ⟨w.heap.size, 0, none⟩ (.agg #[.int .i64 0, .int .i64 0, .int .u64 0])).run Try.prog w3 = .ok () (w3.setRow w.heap.size (Sw_.C zs)) := X3.out.storeF zs; clear hw3)
    exact ret_sc2 Try.results9 rfl rfl (X3.out.setRow zs) rfl ⟨rfl, below_row21 B3.out (Nat.le_refl _) _⟩

set_option maxRecDepth 100000 in
set_option maxHeartbeats 4000000 in
theorem r21_has_any (st sz : Int) (m : Nat) (n : Int) (w : World) (hm : m < 18446744073709551616) (hsz : sz ≤ 64) :
    Calls Try.prog 17 #[Sw_.v ⟨st, sz, m⟩, .int .i64 n] w fun e w' => e = .returned (.bool (hs st sz m n)) ∧ Below w.heap.size w w' := by
  obtain ⟨x, hx⟩ : ∃ x : Sc, ⟨st, sz, m⟩ = x := ⟨_, rfl⟩
  rw [hx]
  obtain ⟨w1, hw1⟩ : ∃ w1, w.alloc (.cells (Sw_.C x) 24) = w1 := ⟨_, rfl⟩
  have B1 : Hid (Below w.heap.size w w1) := hw1 ▸ (Below.refl _ _).alloc (Nat.le_refl _) _
  have c0 : (Sw_.C x)[0]? = some (.int .i64 st) := by rw [← hx]; rfl
  have c1 : (Sw_.C x)[1]? = some (.int .i64 sz) := by rw [← hx]; rfl
  have c2 : (Sw_.C x)[2]? = some (.int .u64 (m : Int)) := by rw [← hx]; rfl
  have CI := Lib.hid (fun w => refIn_any st sz n w)
  have CD := Lib.hid (fun w => refDistance_any st n w)
  have HH : Hid (hs st sz m n = (inn st sz n && has m (dist st n))) := rfl
  have h0 := dist_in st n
  have HI := Lib.hid (fun (h : inn st sz n = true) => (inn_iff.1 h).2)
  rw [HH.out]
  have S1 := Lib.hid (show Sst w w.heap.size x w1 from ⟨hw1 ▸ Sw_.Box.new w x, B1.out⟩)
  have q0 : ∀ (q : Of (Sst w w.heap.size x)) (j : Nat), q.w.cell? ⟨w.heap.size, j, none⟩ = (Sw_.C x)[j]? := fun q j => q.ok.bx.all j
  have _ne : Nonempty (Of (Sst w w.heap.size x)) := ⟨⟨_, S1.out⟩⟩
  generalize dist st n = D at *
  generalize inn st sz n = I at *
  clear hx HH B1
  cases I
  · rw [Bool.false_and]
    clear HI hsz h0
    go_enter Try.func17, Try.ntmps17
    go_wp2_with fail
    refine wp_region_of (Sst w w.heap.size x) (by kernel_rfl) (Region.lexB_of_fast (by kernel_rfl)) S1.out.drew ?_
    repeat (go_big_quiet_step (first
      | (go_at_call 22; exact Calls.of_same (CI.out _))
      | (go_at_call 21; exact Calls.of_same (CD.out _))))
    refine wpQuiet_nil ?_
    rintro _ ⟨q, rfl⟩
    have HB2 := Lib.hid q.ok.bel
    generalize q.w = w9 at *
    clear q0
    go_wp2
    go_returns
    exact ⟨rfl, HB2.out⟩
  · rw [Bool.true_and]
    have hd := HI.out rfl
    obtain ⟨d, rfl⟩ : ∃ d : Nat, D = d := ⟨D.toNat, by omega⟩
    have hmin : min d 64 = d := by omega
    have hu : IntKind.u64.wrap (d : Int) = d := IntWalk.u64_in _ (by omega)
    have hd0 : (0 : Int) ≤ (d : Int) := by omega
    rw [has_in (by omega) (by omega), Int.toNat_natCast]
    have hbt := bit1 m d hm
    clear hm
    generalize m.testBit d = H at *
    clear HI hsz h0 hd
    go_enter Try.func17, Try.ntmps17
    go_wp2_with fail
    refine wp_region_of (Sst w w.heap.size x) (by kernel_rfl) (Region.lexB_of_fast (by kernel_rfl)) S1.out.drew ?_
    repeat (go_big_quiet_step (first
      | (go_at_call 22; exact Calls.of_same (CI.out _))
      | (go_at_call 21; exact Calls.of_same (CD.out _))))
    refine wpQuiet_nil ?_
    rintro _ ⟨q, rfl⟩
    have HB2 := Lib.hid q.ok.bel
    generalize q.w = w9 at *
    clear q0
    go_wp2
    go_returns
    exact ⟨rfl, HB2.out⟩
end Go.Proofs.Ytjighkagmnoncaa
