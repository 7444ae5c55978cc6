/-
  WALKS of the reference of layer 21: Note.
-/
import Derived.Test.YtjighkagmnoncaaScRef2
namespace Go.Proofs.Ytjighkagmnoncaa
open Go.RowKit Go.Sc Go.Sq Go.Bs
attribute [local go_sem ↓ high] Sw_.loadF Sw_.storeF Sw_.v_cells Sw_.v_match
attribute [local go_sem] Sw_.C0 Sw_.C1 Sw_.C2 Sw_.loadF_new Sw_.storeF_zero Oper.semAt_some

set_option maxRecDepth 100000 in
set_option maxHeartbeats 4000000 in
theorem r21_note_no (st sz : Int) (m : Nat) (n : Int) (w : World) (hI : inn st 2048 n = false) :
    Calls Try.prog 15 #[Sw_.v ⟨st, sz, m⟩, .int .i64 n] w fun e w' => e = .returned (Sw_.v ⟨st, sz, m⟩) ∧ Below w.heap.size w w' := by
  obtain ⟨x, hx⟩ : ∃ x : Sc, ⟨st, sz, m⟩ = x := ⟨_, rfl⟩
  rw [hx]
  obtain ⟨w1, hw1⟩ : ∃ w1, w.alloc (.cells (Sw_.C x) 24) = w1 := ⟨_, rfl⟩
  obtain ⟨w2, hw2⟩ : ∃ w2, w1.alloc (.cells (Sw_.C zs) 24) = w2 := ⟨_, rfl⟩
  have hw2' : w1.alloc (.cells #[.int .i64 0, .int .i64 0, .int .u64 0] 24) = w2 := hw2
  have hz1 : w1.heap.size = w.heap.size + 1 := by rw [← hw1]; simp
  have S2 := Lib.hid (Rst.new hw1 hw2)
  have l2 := S2.out.bx.loadF
  have e2 := S2.out.bx.all
  have tx := S2.out.rs.storeF x
  have CV := Lib.hid (fun w => refValid_any n w)
  have CD := Lib.hid (fun w => refDistance_any st n w)
  have c0 : (Sw_.C x)[0]? = some (.int .i64 st) := by rw [← hx]; rfl
  have HI : (vl n && decide (dist st n < 2048)) = false := hI
  generalize dist st n = D at *
  clear hx hw2 hI
  cases hv : vl n
  · rw [hv] at CV
    clear HI
    go_enter Try.func15, Try.ntmps15
    go_wp2_with (first
      | (go_at_call 20; refine (CV.out _).mono ?_; rintro e w' ⟨rfl, rfl⟩)
      | (go_at_call 21; refine (CD.out _).mono ?_; rintro e w' ⟨rfl, rfl⟩))
    exact ret_sc Try.results15 rfl (S2.out.fin x).1 rfl ⟨rfl, (S2.out.fin x).2⟩
  · rw [hv, Bool.true_and] at HI
    have hd : ¬ D < 2048 := of_decide_eq_false HI
    rw [hv] at CV
    clear HI
    go_enter Try.func15, Try.ntmps15
    go_wp2_with (first
      | (go_at_call 20; refine (CV.out _).mono ?_; rintro e w' ⟨rfl, rfl⟩)
      | (go_at_call 21; refine (CD.out _).mono ?_; rintro e w' ⟨rfl, rfl⟩))
    exact ret_sc Try.results15 rfl (S2.out.fin x).1 rfl ⟨rfl, (S2.out.fin x).2⟩

set_option maxRecDepth 100000 in
set_option maxHeartbeats 4000000 in
theorem r21_note_in (st sz : Int) (m : Nat) (n : Int) (w : World) (hm : m < 18446744073709551616) (hsz : sz ≤ 64) (hI : inn st 2048 n = true) (hJ : inn st sz n = true) :
    Calls Try.prog 15 #[Sw_.v ⟨st, sz, m⟩, .int .i64 n] w fun e w' => e = .returned (Sw_.v ⟨st, sz, (wth m (dist st n) : Nat)⟩) ∧ Below w.heap.size w w' := by
  obtain ⟨x, hx⟩ : ∃ x : Sc, ⟨st, sz, m⟩ = x := ⟨_, rfl⟩
  rw [hx]
  obtain ⟨w1, hw1⟩ : ∃ w1, w.alloc (.cells (Sw_.C x) 24) = w1 := ⟨_, rfl⟩
  obtain ⟨w2, hw2⟩ : ∃ w2, w1.alloc (.cells (Sw_.C zs) 24) = w2 := ⟨_, rfl⟩
  have hw2' : w1.alloc (.cells #[.int .i64 0, .int .i64 0, .int .u64 0] 24) = w2 := hw2
  have hz1 : w1.heap.size = w.heap.size + 1 := by rw [← hw1]; simp
  have S2 := Lib.hid (Rst.new hw1 hw2)
  have e2 := S2.out.bx.all
  have f2 := S2.out.bx.frozen
  have CV := Lib.hid (fun w => refValid_any n w)
  have CD := Lib.hid (fun w => refDistance_any st n w)
  have CI := Lib.hid (fun w => refIn_any st sz n w)
  rw [hJ] at CI
  obtain ⟨⟨v0, v1⟩, hd⟩ := inn_iff.1 hI
  rw [vl_iff.2 ⟨v0, v1⟩] at CV
  have hds := (inn_iff.1 hJ).2
  have h0 := dist_in st n
  have c0 : (Sw_.C x)[0]? = some (.int .i64 st) := by rw [← hx]; rfl
  have c1 : (Sw_.C x)[1]? = some (.int .i64 sz) := by rw [← hx]; rfl
  have c2 : (Sw_.C x)[2]? = some (.int .u64 (m : Int)) := by rw [← hx]; rfl
  have HX := Lib.hid hx
  generalize dist st n = D at *
  obtain ⟨d, rfl⟩ : ∃ d : Nat, D = d := ⟨D.toNat, by omega⟩
  have hmin : min d 64 = d := by omega
  have hu : IntKind.u64.wrap (d : Int) = d := IntWalk.u64_in _ (by omega)
  have hd0 : (0 : Int) ≤ (d : Int) := by omega
  have hsh := shl1 (k := d) (by omega)
  have hor := or_eq hm d
  generalize sgl (d : Int) = G at *
  clear hx hw2 hI hJ hsz h0 v0 v1 hds hm
  go_enter Try.func15, Try.ntmps15
  go_upto_region 5 with (first
    | (go_at_call 20; refine (CV.out _).mono ?_; rintro e w' ⟨rfl, rfl⟩)
    | (go_at_call 22; refine (CI.out _).mono ?_; rintro e w' ⟨rfl, rfl⟩)
    | (go_at_call 21; refine (CD.out _).mono ?_; rintro e w' ⟨rfl, rfl⟩))
  go_cut [2] (fun p wx => p = .pointer (some ⟨w.heap.size, 0, none⟩) ∧ Hid (Rst w ⟨st, sz, (wth m d : Nat)⟩ zs wx))
  case first =>
    clear hw1 hw2' hz1
    go_region_with (go_at_call 21; refine (CD.out _).mono ?_; rintro e w' ⟨rfl, rfl⟩)
    all_goals
      go_wp2_with fail
      go_meet
      exact ⟨rfl, by
        have h := (S2.out.set2 (wth m d : Nat)).drewN 1
        rw [← HX.out] at h
        exact h⟩
  case rest =>
    obtain ⟨rfl, S7⟩ := hcut
    have l7 := S7.out.bx.loadF
    have t7 := S7.out.rs.storeF ⟨st, sz, (wth m d : Nat)⟩
    go_wp2
    exact ret_sc Try.results15 rfl (S7.out.fin _).1 rfl ⟨rfl, (S7.out.fin _).2⟩
end Go.Proofs.Ytjighkagmnoncaa
