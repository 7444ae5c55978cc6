/-
  WALKS of the reference of layer 21: Note beyond the window; Note.
-/
import Derived.Test.YtjighkagmnoncaaScRefN
namespace Go.Proofs.Ytjighkagmnoncaa
open Go.RowKit Go.Sc Go.Sq Go.Bs
attribute [local go_sem ↓ high] Sw_.loadF Sw_.storeF Sw_.v_cells Sw_.v_match
attribute [local go_sem] Sw_.C0 Sw_.C1 Sw_.C2 Sw_.loadF_new Sw_.storeF_zero Oper.semAt_some

set_option maxRecDepth 100000 in
set_option maxHeartbeats 4000000 in
theorem r21_note_out (st sz : Int) (m : Nat) (n : Int) (w : World) (hm : m < 18446744073709551616) (g : Gd st sz m) (hI : inn st 2048 n = true) (hJ : inn st sz n = false) :
    Calls Try.prog 15 #[Sw_.v ⟨st, sz, m⟩, .int .i64 n] w fun e w' => e = .returned (Sw_.v ⟨add n (1 - sz), sz, (wth (dwn m (dist st (add n (1 - sz)))) (sz - 1) : Nat)⟩) ∧ Below w.heap.size w w' := by
  obtain ⟨x, hx⟩ : ∃ x : Sc, ⟨st, sz, m⟩ = x := ⟨_, rfl⟩
  rw [hx]
  obtain ⟨w1, hw1⟩ : ∃ w1, w.alloc (.cells (Sw_.C x) 24) = w1 := ⟨_, rfl⟩
  obtain ⟨w2, hw2⟩ : ∃ w2, w1.alloc (.cells (Sw_.C zs) 24) = w2 := ⟨_, rfl⟩
  have hw2' : w1.alloc (.cells #[.int .i64 0, .int .i64 0, .int .u64 0] 24) = w2 := hw2
  have hz1 : w1.heap.size = w.heap.size + 1 := by rw [← hw1]; simp
  have S2 := Lib.hid (Rst.new hw1 hw2)
  have e2 := S2.out.bx.all
  have l2 : (Sw_.LoadF ⟨w.heap.size, 0, none⟩).run Try.prog w2.drew = .ok (Sw_.v x) w2.drew := (S2.out.drewN 1).bx.loadF
  have CV := Lib.hid (fun w => refValid_any n w)
  have CI := Lib.hid (fun w => refIn_any st sz n w)
  rw [hJ] at CI
  obtain ⟨⟨v0, v1⟩, hd⟩ := inn_iff.1 hI
  rw [vl_iff.2 ⟨v0, v1⟩] at CV
  obtain ⟨o1, o2, o3, o4, o5, -⟩ := out_facts g.lo g.hi hI hJ
  have hlo := g.lo
  have hhi := g.hi
  have CAD := Lib.hid (fun w => refAdd_any n (1 - sz) w)
  have hwr : IntKind.i64.wrap (1 - sz) = 1 - sz := IntWalk.i64_in _ (by omega)
  have CM : Hid (∀ W, Calls Try.prog 31 #[Sw_.v x, .int .i64 (add n (1 - sz))] W fun e w' => e = .returned (Sw_.v ⟨add n (1 - sz), sz, (dwn m (dist st (add n (1 - sz))) : Nat)⟩) ∧ Below W.heap.size W w') := fun W => by
    rw [← hx]; exact r21_moved_any st sz m _ W hm g (inn_iff.1 o3).2
  have CD := Lib.hid (fun w => refDistance_any st n w)
  have CD2 := Lib.hid (fun w => refDistance_any (add n (1 - sz)) n w)
  rw [o4] at CD2
  have hmd := dwn_lt hm (dist st (add n (1 - sz)))
  have c0 : (Sw_.C x)[0]? = some (.int .i64 st) := by rw [← hx]; rfl
  have c1 : (Sw_.C x)[1]? = some (.int .i64 sz) := by rw [← hx]; rfl
  generalize dwn m (dist st (add n (1 - sz))) = M1 at *
  generalize add n (1 - sz) = S at *
  generalize dist st n = D at *
  obtain ⟨d, hd1⟩ : ∃ d : Nat, sz - 1 = d := ⟨(sz - 1).toNat, by omega⟩
  rw [hd1] at CD2 ⊢
  have hmin : min d 64 = d := by omega
  have hu : IntKind.u64.wrap (d : Int) = d := IntWalk.u64_in _ (by omega)
  have hd0 : (0 : Int) ≤ (d : Int) := by omega
  have hsh := shl1 (k := d) (by omega)
  have hor := or_eq hmd d
  have HWR := Lib.hid hwr
  generalize sgl (d : Int) = G at *
  clear hx hw2 hI hJ v0 v1 hm g o1 o2 o3 o4 o5 hlo hhi hd1 hmd
  go_enter Try.func15, Try.ntmps15
  go_upto_region 4 with (first
    | (go_at_call 20; refine (CV.out _).mono ?_; rintro e w' ⟨rfl, rfl⟩)
    | (go_at_call 22; refine (CI.out _).mono ?_; rintro e w' ⟨rfl, rfl⟩)
    | (go_at_call 21; refine (CD.out _).mono ?_; rintro e w' ⟨rfl, rfl⟩))
  go_cut [2] (fun p wx => p = .pointer (some ⟨w.heap.size, 0, none⟩) ∧ Hid (Rst w ⟨S, sz, (M1 : Nat)⟩ zs wx))
  case first =>
    clear hw1 hw2' hz1
    go_region_with (first
      | (go_at_call 23; refine (CAD.out _).mono ?_; rintro e w' ⟨rfl, rfl⟩)
      | (go_at_call 31; refine (CM.out _).mono ?_; rintro e w5 ⟨rfl, h⟩; have S5 := Lib.hid ((S2.out.drewN 1).keep h); have t5 := S5.out.bx.storeF ⟨S, sz, (M1 : Nat)⟩; clear h))
    all_goals
      go_wp2_with fail
      go_meet
      exact ⟨rfl, S5.out.put ⟨S, sz, (M1 : Nat)⟩⟩
  case rest =>
    obtain ⟨rfl, S6⟩ := hcut
    clear e2 l2 S2 hw1 hw2' hz1 CAD CM hwr
    have e6 := S6.out.bx.all
    have f6 := S6.out.bx.frozen
    go_upto_region 5 with fail
    go_cut [2] (fun p wx => p = .pointer (some ⟨w.heap.size, 0, none⟩) ∧ Hid (Rst w ⟨S, sz, (wth M1 d : Nat)⟩ zs wx))
    case first =>
      go_region_with (go_at_call 21; refine (CD2.out _).mono ?_; rintro e w' ⟨rfl, rfl⟩)
      all_goals
        go_wp2_with fail
        go_meet
        exact ⟨rfl, (S6.out.set2 (wth M1 d : Nat)).drewN 1⟩
    case rest =>
      obtain ⟨rfl, S7⟩ := hcut
      have l7 := S7.out.bx.loadF
      have t7 := S7.out.rs.storeF ⟨S, sz, (wth M1 d : Nat)⟩
      go_wp2
      exact ret_sc Try.results15 rfl (S7.out.fin _).1 rfl ⟨rfl, (S7.out.fin _).2⟩

theorem r21_note_any (st sz : Int) (m : Nat) (n : Int) (w : World) (hm : m < 18446744073709551616) (g : Gd st sz m) :
    Calls Try.prog 15 #[Sw_.v ⟨st, sz, m⟩, .int .i64 n] w fun e w' => e = .returned (Sw_.v ⟨nS st sz n, sz, (nM st sz m n : Nat)⟩) ∧ Below w.heap.size w w' := by
  cases h : inn st 2048 n
  · rw [nS_no h, nM_no h]; exact r21_note_no st sz m n w h
  · cases h2 : inn st sz n
    · obtain ⟨o1, o2, o3, o4, o5, -⟩ := out_facts g.lo g.hi h h2
      rw [nS_out h h2, nM_out h h2, mS_yes o3, mM_yes o3, o4]
      exact r21_note_out st sz m n w hm g h h2
    · rw [nS_in h h2, nM_in h h2]; exact r21_note_in st sz m n w hm g.hi h h2
end Go.Proofs.Ytjighkagmnoncaa
