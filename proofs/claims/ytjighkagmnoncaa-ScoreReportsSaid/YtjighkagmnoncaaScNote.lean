/-
  WALKS of package score: Note.
-/
import Derived.Test.YtjighkagmnoncaaScMove
namespace Go.Proofs.Ytjighkagmnoncaa
open Go.RowKit Go.Sc Go.Sq Go.Bs
attribute [local go_sem ↓ high] Sw_.loadF Sw_.storeF Sw_.v_cells Sw_.v_match
attribute [local go_sem] Sw_.C0 Sw_.C1 Sw_.C2 Sw_.loadF_new Sw_.storeF_zero Oper.semAt_some

set_option maxRecDepth 100000 in
set_option maxHeartbeats 4000000 in
theorem sc_note_any (st sz : Int) (m : Nat) (n : Int) (w : World) (hm : m < 18446744073709551616) (hsz : 1 ≤ sz ∧ sz ≤ 64) :
    Calls Try.prog 14 #[Sw_.v ⟨st, sz, m⟩, .int .i64 n] w fun e w' => e = .returned (Sw_.v ⟨nS st sz n, sz, (nM st sz m n : Nat)⟩) ∧ Below w.heap.size w w' := by
  obtain ⟨x, hx⟩ : ∃ x : Sc, ⟨st, sz, m⟩ = x := ⟨_, rfl⟩
  rw [hx]
  obtain ⟨w1, hw1⟩ : ∃ w1, w.alloc (.cells (Sw_.C x) 24) = w1 := ⟨_, rfl⟩
  obtain ⟨w2, hw2⟩ : ∃ w2, w1.alloc (.cells (Sw_.C zs) 24) = w2 := ⟨_, rfl⟩
  have hw2' : w1.alloc (.cells #[.int .i64 0, .int .i64 0, .int .u64 0] 24) = w2 := hw2
  have hz1 : w1.heap.size = w.heap.size + 1 := by rw [← hw1]; simp
  have S2 := Lib.hid (Rst.new hw1 hw2)
  have l2 := S2.out.bx.loadF
  have CA : Hid (∀ W, Calls Try.prog 26 #[Sw_.v x, .int .i64 n] W fun e w' => e = .returned (.bool (inn st 2048 n)) ∧ Below W.heap.size W w') := fun W => by rw [← hx]; exact sc_isAhead_any _ n W
  have CW : Hid (∀ W, Calls Try.prog 27 #[Sw_.v x, .int .i64 n] W fun e w' => e = .returned (.bool (inn st sz n)) ∧ Below W.heap.size W w') := fun W => by rw [← hx]; exact sc_inWindow_any _ n W
  have CM : Hid (∀ W, Calls Try.prog 18 #[Sw_.v x, .int .i64 (add n (1 - sz))] W fun e w' => e = .returned (Sw_.v ⟨mS st (add n (1 - sz)), sz, (mM st m (add n (1 - sz)) : Nat)⟩) ∧ Below W.heap.size W w') := fun W => by rw [← hx]; exact sc_move_any st sz m _ W hm
  have CAD := Lib.hid (fun w => add_any n (1 - sz) w)
  have hwr : IntKind.i64.wrap (1 - sz) = 1 - sz := IntWalk.i64_in _ (by omega)
  have HN := Lib.hid (And.intro (@nS_no st sz n) (@nM_no st sz n m))
  have HI := Lib.hid (And.intro (@nS_in st sz n) (@nM_in st sz n m))
  have HO := Lib.hid (And.intro (@nS_out st sz n) (@nM_out st sz n m))
  have CDI := Lib.hid (fun a w => distance_any a n w)
  have CWT : Hid (∀ w, Calls Try.prog 29 #[.int .u64 m, .int .i64 (dist st n)] w fun e w' => e = .returned (.int .u64 (wth m (dist st n) : Nat)) ∧ w = w') := fun w => with_any m _ w hm
  have CWM : Hid (∀ d w, Calls Try.prog 29 #[.int .u64 (mM st m (add n (1 - sz)) : Nat), .int .i64 d] w fun e w' => e = .returned (.int .u64 (wth (mM st m (add n (1 - sz))) d : Nat)) ∧ w = w') := fun d w => with_any _ d w (mM_lt hm)
  have c0 : (Sw_.C x)[0]? = some (.int .i64 st) := by rw [← hx]; rfl
  have c1 : (Sw_.C x)[1]? = some (.int .i64 sz) := by rw [← hx]; rfl
  have c2 : (Sw_.C x)[2]? = some (.int .u64 (m : Int)) := by rw [← hx]; rfl
  have HX := Lib.hid hx
  generalize nS st sz n = S at *
  generalize nM st sz m n = M at *
  generalize mS st (add n (1 - sz)) = S1 at *
  generalize mM st m (add n (1 - sz)) = M1 at *
  generalize add n (1 - sz) = A at *
  generalize inn st 2048 n = I at *
  generalize inn st sz n = J at *
  clear hx hm hw2 hsz
  cases I
  · obtain ⟨e1, e2⟩ := HN.out
    obtain rfl := e1 rfl
    obtain rfl := e2 rfl
    clear e1 e2 HN HI HO
    rw [HX.out]
    go_enter Try.func14, Try.ntmps14
    go_wp2_with (go_at_call 26; refine (CA.out _).mono ?_; rintro e w3 ⟨rfl, h⟩; have S3 := Lib.hid (S2.out.keep h); have l3 := S3.out.bx.loadF; have t3 := S3.out.rs.storeF x; clear h)
    exact ret_sc Try.results14 rfl (S3.out.fin x).1 rfl ⟨rfl, (S3.out.fin x).2⟩
  cases J
  · obtain ⟨e1, e2⟩ := HO.out
    obtain rfl := e1 rfl rfl
    obtain rfl := e2 rfl rfl
    clear e1 e2 HN HI HO CWT
    replace CDI := Lib.hid (CDI.out S)
    generalize dist S n = D at *
    replace CWM := Lib.hid (CWM.out D)
    go_enter Try.func14, Try.ntmps14
    go_upto_region 4 with (first
      | (go_at_call 26; refine (CA.out _).mono ?_; rintro e w3 ⟨rfl, h⟩; have S3 := Lib.hid (S2.out.keep h); have l3 := S3.out.bx.loadF; clear h)
      | (go_at_call 27; refine (CW.out _).mono ?_; rintro e w4 ⟨rfl, h⟩; have S4 := Lib.hid (S3.out.keep h); have l4 := S4.out.bx.loadF; have e4 := S4.out.bx.all; have f4 := S4.out.bx.frozen; clear h))
    clear l2 hw1 hw2' hz1 l3 S2 S3 l4
    have l4 : (Sw_.LoadF ⟨w.heap.size, 0, none⟩).run Try.prog w4.drew = .ok (Sw_.v x) w4.drew := (S4.out.drewN 1).bx.loadF
    go_cut [2] (fun p wx => p = .pointer (some ⟨w.heap.size, 0, none⟩) ∧ Hid (Rst w ⟨S, sz, (M1 : Nat)⟩ zs wx))
    case first =>
      go_region_with (first
        | (go_at_call 28; refine (CAD.out _).mono ?_; rintro e w' ⟨rfl, rfl⟩)
        | (go_at_call 18; refine (CM.out _).mono ?_; rintro e w5 ⟨rfl, h⟩; have S5 := Lib.hid ((S4.out.drewN 1).keep h); have t5 := S5.out.bx.storeF ⟨S, sz, (M1 : Nat)⟩; clear h))
      all_goals
        go_wp2_with fail
        go_meet
        exact ⟨rfl, S5.out.put ⟨S, sz, (M1 : Nat)⟩⟩
    case rest =>
      obtain ⟨rfl, S6⟩ := hcut
      have e6 := S6.out.bx.all
      have f6 := S6.out.bx.frozen
      go_upto_region 5 with fail
      clear CA CW CM CAD S4 l4 e4 f4
      go_cut [2] (fun p wx => p = .pointer (some ⟨w.heap.size, 0, none⟩) ∧ Hid (Rst w ⟨S, sz, (wth M1 D : Nat)⟩ zs wx))
      case first =>
        go_region_with (first
          | (go_at_call 30; refine (CDI.out _).mono ?_; rintro e w' ⟨rfl, rfl⟩)
          | (go_at_call 29; refine (CWM.out _).mono ?_; rintro e w' ⟨rfl, rfl⟩))
        all_goals
          go_wp2_with fail
          go_meet
          exact ⟨rfl, (S6.out.set2 (wth M1 D : Nat)).drewN 1⟩
      case rest =>
        obtain ⟨rfl, S7⟩ := hcut
        have l7 := S7.out.bx.loadF
        have t7 := S7.out.rs.storeF ⟨S, sz, (wth M1 D : Nat)⟩
        go_wp2
        exact ret_sc Try.results14 rfl (S7.out.fin _).1 rfl ⟨rfl, (S7.out.fin _).2⟩
  · obtain ⟨e1, e2⟩ := HI.out
    obtain rfl := e1 rfl rfl
    obtain rfl := e2 rfl rfl
    clear e1 e2 HN HI HO CWM CM CAD
    replace CDI := Lib.hid (CDI.out S)
    generalize dist S n = D at *
    go_enter Try.func14, Try.ntmps14
    go_upto_region 5 with (first
      | (go_at_call 26; refine (CA.out _).mono ?_; rintro e w3 ⟨rfl, h⟩; have S3 := Lib.hid (S2.out.keep h); have l3 := S3.out.bx.loadF; clear h)
      | (go_at_call 27; refine (CW.out _).mono ?_; rintro e w4 ⟨rfl, h⟩; have S4 := Lib.hid (S3.out.keep h); have e4 := S4.out.bx.all; have f4 := S4.out.bx.frozen; clear h))
    clear l2 hw1 hw2' hz1 l3 S2 S3
    go_cut [2] (fun p wx => p = .pointer (some ⟨w.heap.size, 0, none⟩) ∧ Hid (Rst w ⟨S, sz, (wth m D : Nat)⟩ zs wx))
    case first =>
      go_region_with (first
        | (go_at_call 30; refine (CDI.out _).mono ?_; rintro e w' ⟨rfl, rfl⟩)
        | (go_at_call 29; refine (CWT.out _).mono ?_; rintro e w' ⟨rfl, rfl⟩))
      all_goals
        go_wp2_with fail
        go_meet
        exact ⟨rfl, by
          have h := (S4.out.set2 (wth m D : Nat)).drewN 1
          rw [← HX.out] at h
          exact h⟩
    case rest =>
      obtain ⟨rfl, S5⟩ := hcut
      have l5 := S5.out.bx.loadF
      have t5 := S5.out.rs.storeF ⟨S, sz, (wth m D : Nat)⟩
      go_wp2
      exact ret_sc Try.results14 rfl (S5.out.fin _).1 rfl ⟨rfl, (S5.out.fin _).2⟩
end Go.Proofs.Ytjighkagmnoncaa
