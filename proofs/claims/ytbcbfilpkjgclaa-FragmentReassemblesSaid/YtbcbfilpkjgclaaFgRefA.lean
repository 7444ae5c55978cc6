/-
  WALKS of the reference of layer 18: Valid (6), Add.
-/
import Derived.Test.YtbcbfilpkjgclaaFgAdd2
namespace Go.Proofs.Ytbcbfilpkjgclaa
open Go.RowKit Go.Fg
attribute [local go_sem ↓ high] Pw_.loadF Pw_.storeF Pw_.v_cells Pw_.v_match Xw_.loadF Xw_.v_cells Xw_.v_match
attribute [local go_sem] Pw_.C0 Pw_.C1 Pw_.C2 Pw_.C3 Xw_.C0 Xw_.C1 Xw_.C2 Xw_.C3 Xw_.C4 Pw_.loadF_new Xw_.loadF_new

theorem r06Valid_any (n : Int) (w : World) :
    Calls Try.prog 22 #[.int .i64 n] w fun e w' => e = .returned (.bool (vl n)) ∧ w = w' := by
  by_cases h1 : 0 ≤ n
  · by_cases h2 : n < 4096
    · have HR := Lib.hid (vl_yes h1 h2)
      have d1 : decide (0 ≤ n) = true := decide_eq_true h1
      have d2 : decide (n < 4096) = true := decide_eq_true h2
      go_enter Try.func22, Try.ntmps22
      go_wp2
      go_returns
      exact ⟨by rw [HR.out] <;> rfl, rfl⟩
    · have HR := Lib.hid (vl_no2 h2)
      have d1 : decide (0 ≤ n) = true := decide_eq_true h1
      have d2 : decide (n < 4096) = false := decide_eq_false h2
      go_enter Try.func22, Try.ntmps22
      go_wp2
      go_returns
      exact ⟨by rw [HR.out] <;> rfl, rfl⟩
  · have HR := Lib.hid (vl_no1 h1)
    have d1 : decide (0 ≤ n) = false := decide_eq_false h1
    go_enter Try.func22, Try.ntmps22
    go_wp2
    go_returns
    exact ⟨by rw [HR.out] <;> rfl, rfl⟩

/-- The ways of a part through Add. -/
theorem poss_no {x : Xr} (h : ¬ vl x.q = true ∨ ¬ x.s.size ≤ 2048 ∨ ¬ 0 ≤ x.f ∨ ¬ x.f ≤ 15 ∨ (x.f = 15 ∧ x.m = true)) : ¬ poss x = true := by
  obtain ⟨q, f, m, r, s⟩ := x
  exact Bool.eq_false_iff.1 (poss_f h)
theorem poss_yes {x : Xr} (h : vl x.q = true) (h1 : x.s.size ≤ 2048) (h2 : 0 ≤ x.f) (h3 : x.f ≤ 15) (h4 : ¬ (x.f = 15 ∧ x.m = true)) : poss x = true := by
  obtain ⟨q, f, m, r, s⟩ := x
  exact poss_t h h1 h2 h3 h4
theorem cont_no {p : Pt} {x : Xr} (h : p.b = false ∨ ¬ p.q = x.q ∨ ¬ p.n = x.f ∨ ¬ p.s.size + x.s.size ≤ 2048) : ¬ cont p x = true := by
  obtain ⟨b, q, n, s⟩ := p
  obtain ⟨q', f, m, r, u⟩ := x
  exact Bool.eq_false_iff.1 (cont_f h)

set_option maxRecDepth 100000 in
set_option maxHeartbeats 8000000 in
/-- Refused by the first rule. -/
theorem r18Add_no (p : Pt) (x : Xr) (w : World) (h : ¬ poss x = true) :
    Calls Try.prog 14 #[Pw_.v p, Xw_.v x] w fun e w' => AdPost p x w e w' := by
  unfold AdPost
  obtain ⟨a1, a2, a3⟩ := ad_0 (kd_no (p := p) h)
  rw [a1, a2, a3]
  obtain ⟨w1, hw1⟩ : ∃ w1, w.alloc (.cells (Pw_.C p) 29) = w1 := ⟨_, rfl⟩
  obtain ⟨w2, hw2⟩ : ∃ w2, w1.alloc (.cells (Xw_.C x) 31) = w2 := ⟨_, rfl⟩
  obtain ⟨w3, hw3⟩ : ∃ w3, w2.alloc (.cells (Pw_.C zp) 29) = w3 := ⟨_, rfl⟩
  have hw3' : w2.alloc (.cells #[.bool false, .int .i64 0, .int .i64 0, .string ⟨#[]⟩] 29) = w3 := hw3
  have hz1 : w1.heap.size = w.heap.size + 1 := by rw [← hw1]; simp
  have hz2 : w2.heap.size = w.heap.size + 2 := by rw [← hw2]; simp [hz1]
  have S3 := Lib.hid (Bst.new hw1 hw2 hw3)
  have lp := S3.out.bp.loadF
  have ex := S3.out.bx.all
  have sf := S3.out.rs.storeF p
  have CV := Lib.hid fun w => r06Valid_any x.q w
  have HY := Lib.hid (@poss_yes x)
  have H := Lib.hid h
  clear h a1 a2 a3
  cases hv : vl x.q
  case' true => by_cases h2 : x.f < 0
  case' neg => by_cases h3 : 16 ≤ x.f
  case' neg => by_cases h4 : x.f = 15
  case' pos => cases hm : x.m
  all_goals
    rw [hv] at CV
    first
      | (have h1 : (2048 : Int) < (x.s.size : Int) := by
          have hx : ¬ (x.f = 15 ∧ x.m = true) := by
            intro hq
            first
              | exact h4 hq.1
              | (rw [hm] at hq; exact Bool.noConfusion hq.2)
          have hy : 0 ≤ x.f := by omega
          have hz : x.f ≤ 15 := by omega
          have : ¬ x.s.size ≤ 2048 := fun hh => H.out (HY.out hv hh hy hz hx)
          omega)
      | skip
    clear HY hv
    first
      | (have d4 : (x.f == 15) = true := by rw [beq_iff_eq]; exact h4)
      | (have d4 : (x.f == 15) = false := by rw [beq_eq_false_iff_ne]; exact h4)
      | skip
    first | clear h4 | skip
    first
      | (have c2 : (Xw_.C x)[2]? = some (.bool true) := by rw [Xw_.C2, hm])
      | (have c2 : (Xw_.C x)[2]? = some (.bool false) := by rw [Xw_.C2, hm])
      | skip
    first | clear hm | skip
    go_enter Try.func14, Try.ntmps14
    go_wp2_with (go_at_call 22; refine (CV.out _).mono ?_; rintro e w' ⟨rfl, rfl⟩)
    exact ret_pt Try.results14 rfl rfl rfl (S3.out.rs.setRow p) rfl ⟨rfl, S3.out.fin p⟩

theorem cont_yes {p : Pt} {x : Xr} (h1 : p.b = true) (h2 : p.q = x.q) (h3 : p.n = x.f) (h4 : p.s.size + x.s.size ≤ 2048) : cont p x = true := cont_iff.2 ⟨h1, h2, h3, h4⟩

set_option maxRecDepth 100000 in
set_option maxHeartbeats 16000000 in
/-- Let by the first rule. -/
theorem r18Add_yes (p : Pt) (x : Xr) (w : World) (hp : p.s.size ≤ 5000) (h : poss x = true) :
    Calls Try.prog 14 #[Pw_.v p, Xw_.v x] w fun e w' => AdPost p x w e w' := by
  unfold AdPost
  obtain ⟨w1, hw1⟩ : ∃ w1, w.alloc (.cells (Pw_.C p) 29) = w1 := ⟨_, rfl⟩
  obtain ⟨w2, hw2⟩ : ∃ w2, w1.alloc (.cells (Xw_.C x) 31) = w2 := ⟨_, rfl⟩
  obtain ⟨w3, hw3⟩ : ∃ w3, w2.alloc (.cells (Pw_.C zp) 29) = w3 := ⟨_, rfl⟩
  have hw3' : w2.alloc (.cells #[.bool false, .int .i64 0, .int .i64 0, .string ⟨#[]⟩] 29) = w3 := hw3
  have hz1 : w1.heap.size = w.heap.size + 1 := by rw [← hw1]; simp
  have hz2 : w2.heap.size = w.heap.size + 2 := by rw [← hw2]; simp [hz1]
  have S3 := Lib.hid (Bst.new hw1 hw2 hw3)
  have lp := S3.out.bp.loadF
  have ep := S3.out.bp.all
  have ex := S3.out.bx.all
  have CV := Lib.hid fun w => r06Valid_any x.q w
  obtain ⟨hq, hs, h0, h15, hl⟩ := poss_iff.1 h
  have hv : vl x.q = true := decide_eq_true hq
  rw [hv] at CV
  have h1 : ¬ (2048 : Int) < (x.s.size : Int) := by omega
  have h2 : ¬ x.f < 0 := by omega
  have h3 : ¬ 16 ≤ x.f := by omega
  have hw : wrap64 (x.f + 1) = x.f + 1 := IntWalk.wrap64_in _ (by omega)
  have H := Lib.hid h
  have hsz := sum_sz hp (Nat.le_trans hs (by decide))
  have hsum : ¬ 9223372036854775807 < p.s.size + x.s.size := by omega
  have HX : Hid (x.m = true → ¬ x.f = 15) := fun hm hf => hl ⟨hf, hm⟩
  have SZ : Hid ((Pw_.StoreF ⟨w.heap.size + 2, 0, none⟩ (.agg #[.bool false, .int .i64 0, .int .i64 0, .string ⟨#[]⟩])).run Try.prog w3 = .ok () (w3.setRow (w.heap.size + 2) (Pw_.C zp))) := S3.out.rs.storeF zp
  have SM : Hid (∀ d, (Pw_.StoreF ⟨w.heap.size + 2, 0, none⟩ (.agg #[.bool true, .int .i64 x.q, .int .i64 (x.f + 1), .string d])).run Try.prog w3 = .ok () (w3.setRow (w.heap.size + 2) (Pw_.C ⟨true, x.q, x.f + 1, d⟩))) := fun d => S3.out.rs.storeF ⟨true, x.q, x.f + 1, d⟩
  have SP : Hid ((Pw_.StoreF ⟨w.heap.size + 2, 0, none⟩ (Pw_.v p)).run Try.prog w3 = .ok () (w3.setRow (w.heap.size + 2) (Pw_.C p))) := S3.out.rs.storeF p
  clear hq hv hl h hp hs h0 h15
  by_cases hf : x.f = 0
  · obtain ⟨a1, a2, a3⟩ := ad_1 (kd_first (p := p) H.out hf)
    have d4 : (x.f == 15) = false := by rw [beq_eq_false_iff_ne]; omega
    have d0 : ¬ 0 < x.f := by omega
    rw [a1, a2, a3]
    clear a1 a2 a3 hf HX ep lp SP hsz hsum
    cases hm : x.m
    · obtain ⟨r1, r2, r3⟩ := pr_last (x := x) x.s (by rw [hm]; decide)
      rw [r1, r2, r3]
      have c2 : (Xw_.C x)[2]? = some (.bool false) := by rw [Xw_.C2, hm]
      have sf := SZ.out
      clear r1 r2 r3 hm SM
      go_enter Try.func14, Try.ntmps14
      go_wp2_with (go_at_call 22; refine (CV.out _).mono ?_; rintro e w' ⟨rfl, rfl⟩)
      exact ret_pt Try.results14 rfl rfl rfl (S3.out.rs.setRow zp) rfl ⟨rfl, S3.out.fin zp⟩
    · obtain ⟨r1, r2, r3⟩ := pr_more (x := x) x.s hm
      rw [r1, r2, r3]
      have c2 : (Xw_.C x)[2]? = some (.bool true) := by rw [Xw_.C2, hm]
      have sf := SM.out x.s
      clear r1 r2 r3 hm SZ
      go_enter Try.func14, Try.ntmps14
      go_wp2_with (go_at_call 22; refine (CV.out _).mono ?_; rintro e w' ⟨rfl, rfl⟩)
      exact ret_pt Try.results14 rfl rfl rfl (S3.out.rs.setRow ⟨true, x.q, x.f + 1, x.s⟩) rfl ⟨rfl, S3.out.fin ⟨true, x.q, x.f + 1, x.s⟩⟩
  have d0 : 0 < x.f := by omega
  have HN := Lib.hid (@cont_no p x)
  have HY := Lib.hid (@cont_yes p x)
  cases hm : x.m
  case' false => by_cases h4 : x.f = 15
  all_goals
    first
      | (have d4 : (x.f == 15) = true := by rw [beq_iff_eq]; exact h4)
      | (have d4 : (x.f == 15) = false := by rw [beq_eq_false_iff_ne]; exact h4)
      | (have d4 : (x.f == 15) = false := by rw [beq_eq_false_iff_ne]; exact HX.out hm)
    first
      | (have c2 : (Xw_.C x)[2]? = some (.bool true) := by rw [Xw_.C2, hm])
      | (have c2 : (Xw_.C x)[2]? = some (.bool false) := by rw [Xw_.C2, hm])
    first | clear h4 | skip
    clear HX
    cases hb : p.b
    case' true => by_cases hq : p.q = x.q
    case' pos => by_cases hn : p.n = x.f
    case' pos => by_cases hu : p.s.size + x.s.size ≤ 2048
    case pos =>
      obtain ⟨a1, a2, a3⟩ := ad_2 (kd_next (p := p) H.out hf (HY.out hb hq hn hu))
      rw [a1, a2, a3]
      have b0 : (Pw_.C p)[0]? = some (.bool true) := by rw [Pw_.C0, hb]
      have dq : (p.q != x.q) = false := by rw [bne_eq_false_iff_eq]; exact hq
      have dn : (p.n != x.f) = false := by rw [bne_eq_false_iff_eq]; exact hn
      have du : ¬ (2048 : Int) < (p.s.size : Int) + (x.s.size : Int) := by omega
      first
        | (obtain ⟨r1, r2, r3⟩ := pr_more (x := x) (p.s ++ x.s) hm
           rw [r1, r2, r3]
           have sf := SM.out (p.s ++ x.s)
           clear r1 r2 r3 hm SZ SM SP HN HY hb hq hn hf a1 a2 a3
           go_enter Try.func14, Try.ntmps14
           go_wp2_with (go_at_call 22; refine (CV.out _).mono ?_; rintro e w' ⟨rfl, rfl⟩)
           exact ret_pt Try.results14 rfl rfl rfl (S3.out.rs.setRow ⟨true, x.q, x.f + 1, p.s ++ x.s⟩) rfl ⟨rfl, S3.out.fin ⟨true, x.q, x.f + 1, p.s ++ x.s⟩⟩)
        | (obtain ⟨r1, r2, r3⟩ := pr_last (x := x) (p.s ++ x.s) (Bool.eq_false_iff.1 hm)
           rw [r1, r2, r3]
           have sf := SZ.out
           clear r1 r2 r3 hm SZ SM SP HN HY hb hq hn hf a1 a2 a3
           go_enter Try.func14, Try.ntmps14
           go_wp2_with (go_at_call 22; refine (CV.out _).mono ?_; rintro e w' ⟨rfl, rfl⟩)
           exact ret_pt Try.results14 rfl rfl rfl (S3.out.rs.setRow zp) rfl ⟨rfl, S3.out.fin zp⟩)
    all_goals
      first
        | (have HC := Lib.hid (HN.out (.inl hb)))
        | (have HC := Lib.hid (HN.out (.inr (.inl hq))))
        | (have HC := Lib.hid (HN.out (.inr (.inr (.inl hn)))))
        | (have HC := Lib.hid (HN.out (.inr (.inr (.inr hu)))))
      obtain ⟨a1, a2, a3⟩ := ad_0 (kd_other (p := p) (x := x) hf HC.out)
      rw [a1, a2, a3]
      first
        | (have b0 : (Pw_.C p)[0]? = some (.bool true) := by rw [Pw_.C0, hb])
        | (have b0 : (Pw_.C p)[0]? = some (.bool false) := by rw [Pw_.C0, hb])
      first
        | (have dq : (p.q != x.q) = false := by rw [bne_eq_false_iff_eq]; exact hq)
        | (have dq : (p.q != x.q) = true := by rw [bne_iff_ne]; exact hq)
        | skip
      first
        | (have dn : (p.n != x.f) = false := by rw [bne_eq_false_iff_eq]; exact hn)
        | (have dn : (p.n != x.f) = true := by rw [bne_iff_ne]; exact hn)
        | skip
      first
        | (have du : (2048 : Int) < (p.s.size : Int) + (x.s.size : Int) := by omega)
        | skip
      have sf := SP.out
      first | clear hq | skip
      first | clear hn | skip
      clear hm hb hf a1 a2 a3 HC HN HY SZ SM SP
      go_enter Try.func14, Try.ntmps14
      go_wp2_with (go_at_call 22; refine (CV.out _).mono ?_; rintro e w' ⟨rfl, rfl⟩)
      exact ret_pt Try.results14 rfl rfl rfl (S3.out.rs.setRow p) rfl ⟨rfl, S3.out.fin p⟩
end Go.Proofs.Ytbcbfilpkjgclaa
