/-
  WALKS of the reference of layer 21: moved, Move, Note.
-/
import Derived.Test.YtjighkagmnoncaaScRef
import Derived.Test.YtjighkagmnoncaaScMove
import Derived.Deep.LoopGhost
namespace Go.Proofs.Ytjighkagmnoncaa
open Go.RowKit Go.Sc Go.Sq Go.Bs
attribute [local go_sem ↓ high] Sw_.loadF Sw_.storeF Sw_.v_cells Sw_.v_match
attribute [local go_sem] Sw_.C0 Sw_.C1 Sw_.C2 Sw_.loadF_new Sw_.storeF_zero Oper.semAt_some

/-- A scoreboard, the result's cell, the new one. -/
structure Mst (w : World) (x o : Sc) (wi : World) : Prop where
  bx : Sw_.Box wi w.heap.size x
  rs : Sw_.Box wi (w.heap.size + 1) zs
  bo : Sw_.Box wi (w.heap.size + 2) o
  bel : Below w.heap.size w wi
theorem Mst.new {w w1 w2 w3 : World} {x o : Sc} (h1 : w.alloc (.cells (Sw_.C x) 24) = w1) (h2 : w1.alloc (.cells (Sw_.C zs) 24) = w2) (h3 : w2.alloc (.cells (Sw_.C o) 24) = w3) : Mst w x o w3 := by
  have r := Rst.new h1 h2
  have hz : w2.heap.size = w.heap.size + 2 := by rw [← h2, ← h1]; simp
  refine ⟨h3 ▸ r.bx.allocC _, h3 ▸ r.rs.allocC _, ?_, h3 ▸ r.bel.alloc r.bel.size _⟩
  rw [← hz, ← h3]; exact Sw_.Box.new w2 o
theorem Mst.keep {w : World} {x o : Sc} (wi wj : World) (h : Mst w x o wi) (hb : Below wi.heap.size wi wj) : Mst w x o wj := ⟨h.bx.below hb h.bx.lt, h.rs.below hb h.rs.lt, h.bo.below hb h.bo.lt, h.bel.trans (hb.mono h.bel.size)⟩
theorem Mst.drew {w : World} {x o : Sc} {wi : World} (h : Mst w x o wi) : Mst w x o wi.drew := h.keep _ _ ⟨rfl, rfl, rfl, Nat.le_refl _, fun _ _ => rfl⟩
theorem Mst.set2 {w : World} {x o : Sc} {wi : World} (h : Mst w x o wi) (u : Int) : Mst w x { o with mp := u } (wi.setCell ⟨w.heap.size + 2, 2, none⟩ (.int .u64 u)) :=
  ⟨h.bx.other (by show w.heap.size ≠ w.heap.size + 2; omega) _, h.rs.other (by show w.heap.size + 1 ≠ w.heap.size + 2; omega) _, h.bo.set2 u, h.bel.setCell (by show w.heap.size ≤ w.heap.size + 2; omega) _⟩
theorem Mst.fin {w wi : World} {x o : Sc} (h : Mst w x o wi) (z : Sc) : Sw_.Box (wi.setRow (w.heap.size + 1) (Sw_.C z)) (w.heap.size + 1) z ∧ Below w.heap.size w (wi.setRow (w.heap.size + 1) (Sw_.C z)) := ⟨h.rs.setRow z, below_row21 h.bel (Nat.le_succ _) _⟩
theorem shl1 {k : Nat} (h : k < 64) : IntKind.u64.wrap (2 ^ k) = (sgl k : Int) := by
  have e : sgl (k : Int) = pw k := by rw [sgl_in (by omega) (by omega), Int.toNat_natCast]
  have := pw_lt h
  rw [e, IntWalk.u64_in]
  · unfold pw; simp
  · have e2 : (2 ^ k : Int) = (pw k : Int) := by unfold pw; simp
    omega

set_option maxRecDepth 100000 in
set_option maxHeartbeats 4000000 in
theorem r21_moved_any (st sz : Int) (m : Nat) (s : Int) (w : World) (hm : m < 18446744073709551616) (g : Gd st sz m) (hd : dist st s < 2048) :
    Calls Try.prog 31 #[Sw_.v ⟨st, sz, m⟩, .int .i64 s] w fun e w' => e = .returned (Sw_.v ⟨s, sz, (dwn m (dist st s) : Nat)⟩) ∧ Below w.heap.size w w' := by
  obtain ⟨K, rfl⟩ : ∃ K : Nat, sz = K := ⟨sz.toNat, by have := g.lo; omega⟩
  have hK : K ≤ 64 := by have := g.hi; omega
  obtain ⟨x, hx⟩ : ∃ x : Sc, ⟨st, (K : Int), m⟩ = x := ⟨_, rfl⟩
  obtain ⟨w1, hw1⟩ : ∃ w1, w.alloc (.cells (Sw_.C x) 24) = w1 := ⟨_, rfl⟩
  obtain ⟨w2, hw2⟩ : ∃ w2, w1.alloc (.cells (Sw_.C zs) 24) = w2 := ⟨_, rfl⟩
  obtain ⟨w3, hw3⟩ : ∃ w3, w2.alloc (.cells (Sw_.C ⟨s, K, 0⟩) 24) = w3 := ⟨_, rfl⟩
  have hw2' : w1.alloc (.cells #[.int .i64 0, .int .i64 0, .int .u64 0] 24) = w2 := hw2
  have hz1 : w1.heap.size = w.heap.size + 1 := by rw [← hw1]; simp
  have hz2 : w2.heap.size = w.heap.size + 2 := by rw [← hw2, ← hw1]; simp
  have st3 : (Sw_.StoreF ⟨w.heap.size + 2, 0, none⟩ (.agg #[.int .i64 s, .int .i64 K, .int .u64 0])).run Try.prog (w2.alloc (.cells #[.int .i64 0, .int .i64 0, .int .u64 0] 24)) = .ok () w3 := by
    rw [← hw3, ← hz2]; exact Sw_.storeF_new w2 zs ⟨s, K, 0⟩
  have e2 := (Rst.new hw1 hw2).bx.all
  have S3 := Lib.hid (Mst.new hw1 hw2 hw3)
  have CH : Hid (∀ (k : Nat) w, k < 64 → Calls Try.prog 17 #[Sw_.v x, .int .i64 (add s k)] w fun e w' => e = .returned (.bool ((dwn m (dist st s)).testBit k)) ∧ Below w.heap.size w w') := fun k w hk => by
    have h := r21_has_any st K m (add s k) w hm g.hi
    rw [hs_add g k hk hd, hx] at h
    exact h
  have CAD := Lib.hid (fun (k : Nat) w => refAdd_any s k w)
  have HV : Hid (mvk m (dist st s) K = dwn m (dist st s)) := by
    have h := mvk_all g (dist st s)
    rw [Int.toNat_natCast] at h
    exact h
  have HLT := Lib.hid (fun k => mvk_lt m (dist st s) k)
  have HSU : Hid (∀ k, mvk m (dist st s) (k + 1) = if (dwn m (dist st s)).testBit k = true then wth (mvk m (dist st s) k) k else mvk m (dist st s) k) := fun k => rfl
  have HZ : Hid (mvk m (dist st s) 0 = 0) := rfl
  have c1 : (Sw_.C x)[1]? = some (.int .i64 K) := by rw [← hx]; rfl
  rw [hx]
  have HX := Lib.hid hx
  rw [← HV.out]
  generalize mvk m (dist st s) = mv at *
  generalize dwn m (dist st s) = dm at *
  clear hm hd g hx hw2 HV
  go_enter Try.func31, Try.ntmps31
  go_wp2_with fail
  clear st3 e2 hw1 hw2' hz1 hz2 hw3
  go_loopw [6] (fun i wr => ∃ k : Nat, k ≤ K ∧ i = .int .i64 k ∧ Hid (Mst w x ⟨s, K, (mv k : Nat)⟩ wr)) (fun i _ => K - (intOf i).toNat)
  case atStart => exact ⟨0, Nat.zero_le _, rfl, by rw [HZ.out]; exact S3.out⟩
  case round =>
    rename World => wr
    obtain ⟨k, hk, rfl, HS⟩ := hrel
    have ex := HS.out.bx.all
    by_cases hlt : k < K
    · have hlt' := Lib.hid hlt
      have hlk : (k : Int) < (K : Int) := by omega
      have hl64 : (k : Int) < 64 := by omega
      have CHk := Lib.hid (fun w => CH.out k w (by omega))
      have CAk := Lib.hid (CAD.out k)
      have q1 : ∀ (q : Of (Mst w x ⟨s, K, (mv k : Nat)⟩)), (Sw_.LoadF ⟨w.heap.size, 0, none⟩).run Try.prog q.w = .ok (Sw_.v x) q.w := fun q => q.ok.bx.loadF
      have HSk := Lib.hid (HSU.out k)
      have hsh := shl1 (k := k) (by omega)
      have HOR := Lib.hid (or_eq (HLT.out k) k)
      have hmin : min k 64 = k := by omega
      have hu : IntKind.u64.wrap (k : Int) = k := IntWalk.u64_in _ (by omega)
      have k0 : (0 : Int) ≤ (k : Int) := by omega
      generalize dm.testBit k = B at *
      generalize mv k = M at *
      obtain ⟨M', hM'⟩ : ∃ M', mv (k + 1) = M' := ⟨_, rfl⟩
      rw [hM'] at HSk
      have HM' := Lib.hid hM'
      clear hM'
      generalize wth M k = M2 at *
      generalize sgl (k : Int) = G at *
      have _ne : Nonempty (Of (Mst w x ⟨s, K, (M : Nat)⟩)) := ⟨⟨_, HS.out⟩⟩
      clear hlt hk
      go_wp2_with fail
      refine wp_region_of (Mst w x ⟨s, K, (M : Nat)⟩) (by kernel_rfl) (Region.lexB_of_fast (by kernel_rfl)) HS.out.drew ?_
      repeat (go_big_quiet_step (first
        | (go_at_call 23; exact Calls.of_same (CAk.out _))
        | (go_at_call 17; exact Calls.of_below Mst.keep (CHk.out _))))
      refine wpQuiet_nil ?_
      rintro _ ⟨q, rfl⟩
      have SQ := Lib.hid q.ok
      generalize q.w = w9 at *
      clear q1 ex
      have eo := SQ.out.bo.all
      have fo := SQ.out.bo.frozen
      cases B
      · obtain rfl : M' = M := HSk.out.trans (if_neg (by decide))
        go_wp2
        go_roundw
        case rel => exact ⟨k + 1, hlt'.out, by go_num, by rw [HM'.out]; exact SQ.out⟩
        case measure => have := hlt'.out; simp [intOf]; omega
      · obtain rfl : M' = M2 := HSk.out.trans (if_pos rfl)
        have hor := HOR.out
        go_wp2
        go_roundw
        case rel => exact ⟨k + 1, hlt'.out, by go_num, by rw [HM'.out]; exact SQ.out.set2 _⟩
        case measure => have := hlt'.out; simp [intOf]; omega
    · obtain rfl : k = K := by omega
      have lo := HS.out.bo.loadF
      have tr := HS.out.rs.storeF ⟨s, k, (mv k : Nat)⟩
      clear hlt
      go_wp2
      exact ret_sc Try.results31 rfl (HS.out.fin _).1 rfl ⟨rfl, (HS.out.fin _).2⟩

set_option maxRecDepth 100000 in
set_option maxHeartbeats 4000000 in
theorem r21_move_any (st sz : Int) (m : Nat) (s : Int) (w : World) (hm : m < 18446744073709551616) (g : Gd st sz m) :
    Calls Try.prog 19 #[Sw_.v ⟨st, sz, m⟩, .int .i64 s] w fun e w' => e = .returned (Sw_.v ⟨mS st s, sz, (mM st m s : Nat)⟩) ∧ Below w.heap.size w w' := by
  obtain ⟨x, hx⟩ : ∃ x : Sc, ⟨st, sz, m⟩ = x := ⟨_, rfl⟩
  rw [hx]
  obtain ⟨w1, hw1⟩ : ∃ w1, w.alloc (.cells (Sw_.C x) 24) = w1 := ⟨_, rfl⟩
  obtain ⟨w2, hw2⟩ : ∃ w2, w1.alloc (.cells (Sw_.C zs) 24) = w2 := ⟨_, rfl⟩
  have hw2' : w1.alloc (.cells #[.int .i64 0, .int .i64 0, .int .u64 0] 24) = w2 := hw2
  have hz1 : w1.heap.size = w.heap.size + 1 := by rw [← hw1]; simp
  have S2 := Lib.hid (Rst.new hw1 hw2)
  have l2 := S2.out.bx.loadF
  have e2 := S2.out.bx.all
  have tx := S2.out.rs.storeF x
  have CV := Lib.hid (fun w => refValid_any s w)
  have CD := Lib.hid (fun w => refDistance_any st s w)
  have CM : Hid (dist st s < 2048 → ∀ w, Calls Try.prog 31 #[Sw_.v x, .int .i64 s] w fun e w' => e = .returned (Sw_.v ⟨s, sz, (dwn m (dist st s) : Nat)⟩) ∧ Below w.heap.size w w') := fun h w => by
    rw [← hx]; exact r21_moved_any st sz m s w hm g h
  have HI : Hid (inn st 2048 s = (vl s && decide (dist st s < 2048))) := rfl
  have HN := Lib.hid (And.intro (@mS_no st s) (@mM_no st s m))
  have HY := Lib.hid (And.intro (@mS_yes st s) (@mM_yes st s m))
  have c0 : (Sw_.C x)[0]? = some (.int .i64 st) := by rw [← hx]; rfl
  have HX := Lib.hid hx
  generalize mS st s = S at *
  generalize mM st m s = M at *
  generalize dwn m (dist st s) = M2 at *
  generalize dist st s = D at *
  generalize inn st 2048 s = I at *
  clear hx hm hw2 g
  cases hv : vl s
  · have hI : I = false := by rw [HI.out, hv]; rfl
    obtain ⟨e1, e3⟩ := HN.out
    obtain rfl := e1 hI
    obtain rfl := e3 hI
    rw [hv] at CV
    clear e1 e3 HN HY CM hI HI
    rw [HX.out]
    go_enter Try.func19, Try.ntmps19
    go_wp2_with (first
      | (go_at_call 20; refine (CV.out _).mono ?_; rintro e w' ⟨rfl, rfl⟩)
      | (go_at_call 21; refine (CD.out _).mono ?_; rintro e w' ⟨rfl, rfl⟩))
    exact ret_sc Try.results19 rfl (S2.out.fin x).1 rfl ⟨rfl, (S2.out.fin x).2⟩
  by_cases hd : D < 2048
  · have hI : I = true := by rw [HI.out, hv, decide_eq_true hd]; rfl
    obtain ⟨e1, e3⟩ := HY.out
    obtain rfl := e1 hI
    obtain rfl := e3 hI
    rw [hv] at CV
    have CM2 := Lib.hid (CM.out hd)
    clear e1 e3 HN HY CM hI HI tx
    go_enter Try.func19, Try.ntmps19
    go_wp2_with (first
      | (go_at_call 20; refine (CV.out _).mono ?_; rintro e w' ⟨rfl, rfl⟩)
      | (go_at_call 21; refine (CD.out _).mono ?_; rintro e w' ⟨rfl, rfl⟩)
      | (go_at_call 31; refine (CM2.out _).mono ?_; rintro e w3 ⟨rfl, h⟩; have S3 := Lib.hid (S2.out.keep h); have t3 := S3.out.rs.storeF ⟨S, sz, (M : Nat)⟩; clear h))
    exact ret_sc Try.results19 rfl (S3.out.fin _).1 rfl ⟨rfl, (S3.out.fin _).2⟩
  · have hI : I = false := by rw [HI.out, hv, decide_eq_false hd]; rfl
    obtain ⟨e1, e3⟩ := HN.out
    obtain rfl := e1 hI
    obtain rfl := e3 hI
    rw [hv] at CV
    clear e1 e3 HN HY CM hI HI
    rw [HX.out]
    go_enter Try.func19, Try.ntmps19
    go_wp2_with (first
      | (go_at_call 20; refine (CV.out _).mono ?_; rintro e w' ⟨rfl, rfl⟩)
      | (go_at_call 21; refine (CD.out _).mono ?_; rintro e w' ⟨rfl, rfl⟩))
    exact ret_sc Try.results19 rfl (S2.out.fin x).1 rfl ⟨rfl, (S2.out.fin x).2⟩
end Go.Proofs.Ytjighkagmnoncaa
