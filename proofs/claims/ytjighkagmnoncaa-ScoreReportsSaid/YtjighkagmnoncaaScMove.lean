/-
  WALKS of package score: Move, Note.
-/
import Derived.Test.YtjighkagmnoncaaScProg
import Derived.Deep.RegionWith
import Derived.Handy
import Derived.Deep.DeepCutAuto
namespace Go.Proofs.Ytjighkagmnoncaa
open Go.RowKit Go.Sc Go.Sq Go.Bs
attribute [local go_sem ↓ high] Sw_.loadF Sw_.storeF Sw_.v_cells Sw_.v_match
attribute [local go_sem] Sw_.C0 Sw_.C1 Sw_.C2 Sw_.loadF_new Sw_.storeF_zero Oper.semAt_some

/-- A scoreboard in its cell, the result's cell behind it. -/
structure Rst (w : World) (x y : Sc) (wi : World) : Prop where
  bx : Sw_.Box wi w.heap.size x
  rs : Sw_.Box wi (w.heap.size + 1) y
  bel : Below w.heap.size w wi
theorem Rst.new {w w1 w2 : World} {x : Sc} (h1 : w.alloc (.cells (Sw_.C x) 24) = w1) (h2 : w1.alloc (.cells (Sw_.C zs) 24) = w2) : Rst w x zs w2 := by
  subst h1; subst h2
  refine ⟨(Sw_.Box.new w x).allocC _, ?_, ((Below.refl _ _).alloc (Nat.le_refl _) _).alloc (by simp) _⟩
  have := Sw_.Box.new (w.alloc (.cells (Sw_.C x) 24)) zs
  rwa [show (w.alloc (.cells (Sw_.C x) 24)).heap.size = w.heap.size + 1 by simp] at this
theorem Rst.keep {w : World} {x y : Sc} {wi wj : World} (h : Rst w x y wi) (hb : Below wi.heap.size wi wj) : Rst w x y wj := ⟨h.bx.below hb h.bx.lt, h.rs.below hb h.rs.lt, h.bel.trans (hb.mono h.bel.size)⟩
theorem Rst.drewN {w : World} {x y : Sc} {wi : World} (h : Rst w x y wi) (n : Nat) : Rst w x y (wi.drewN n) := h.keep ⟨rfl, rfl, rfl, Nat.le_refl _, fun _ _ => rfl⟩
theorem Rst.set2 {w : World} {x y : Sc} {wi : World} (h : Rst w x y wi) (u : Int) : Rst w { x with mp := u } y (wi.setCell ⟨w.heap.size, 2, none⟩ (.int .u64 u)) :=
  ⟨h.bx.set2 u, h.rs.other (by show w.heap.size + 1 ≠ w.heap.size; omega) _, h.bel.setCell (Nat.le_refl _) _⟩
theorem Rst.set0 {w : World} {x y : Sc} {wi : World} (h : Rst w x y wi) (u : Int) : Rst w { x with st := u } y (wi.setCell ⟨w.heap.size, 0, none⟩ (.int .i64 u)) :=
  ⟨h.bx.set0 u, h.rs.other (by show w.heap.size + 1 ≠ w.heap.size; omega) _, h.bel.setCell (Nat.le_refl _) _⟩
theorem Rst.put {w : World} {x y : Sc} {wi : World} (h : Rst w x y wi) (z : Sc) : Rst w z y (wi.setRow w.heap.size (Sw_.C z)) :=
  ⟨h.bx.setRow z, (Sw_.setRow_other (by show w.heap.size + 1 ≠ w.heap.size; omega) _).trans h.rs, below_row21 h.bel (Nat.le_refl _) _⟩
theorem Rst.fin {w wi : World} {x y : Sc} (h : Rst w x y wi) (z : Sc) : Sw_.Box (wi.setRow (w.heap.size + 1) (Sw_.C z)) (w.heap.size + 1) z ∧ Below w.heap.size w (wi.setRow (w.heap.size + 1) (Sw_.C z)) := ⟨h.rs.setRow z, below_row21 h.bel (Nat.le_succ _) _⟩

set_option maxRecDepth 100000 in
set_option maxHeartbeats 4000000 in
theorem sc_move_any (st sz : Int) (m : Nat) (s : Int) (w : World) (hm : m < 18446744073709551616) :
    Calls Try.prog 18 #[Sw_.v ⟨st, sz, m⟩, .int .i64 s] w fun e w' => e = .returned (Sw_.v ⟨mS st s, sz, (mM st m s : Nat)⟩) ∧ Below w.heap.size w w' := by
  obtain ⟨x, hx⟩ : ∃ x : Sc, ⟨st, sz, m⟩ = x := ⟨_, rfl⟩
  rw [hx]
  obtain ⟨w1, hw1⟩ : ∃ w1, w.alloc (.cells (Sw_.C x) 24) = w1 := ⟨_, rfl⟩
  obtain ⟨w2, hw2⟩ : ∃ w2, w1.alloc (.cells (Sw_.C zs) 24) = w2 := ⟨_, rfl⟩
  have hw2' : w1.alloc (.cells #[.int .i64 0, .int .i64 0, .int .u64 0] 24) = w2 := hw2
  have hz1 : w1.heap.size = w.heap.size + 1 := by rw [← hw1]; simp
  have S2 := Lib.hid (Rst.new hw1 hw2)
  have l2 := S2.out.bx.loadF
  have CA : Hid (∀ W, Calls Try.prog 26 #[Sw_.v x, .int .i64 s] W fun e w' => e = .returned (.bool (inn st 2048 s)) ∧ Below W.heap.size W w') := fun W => by rw [← hx]; exact sc_isAhead_any _ s W
  have CDI := Lib.hid (fun w => distance_any st s w)
  have CDO := Lib.hid (fun w => down_any m (dist st s) w hm)
  have HN := Lib.hid (And.intro (@mS_no st s) (@mM_no st s m))
  have HY := Lib.hid (And.intro (@mS_yes st s) (@mM_yes st s m))
  have c0 : (Sw_.C x)[0]? = some (.int .i64 st) := by rw [← hx]; rfl
  have c2 : (Sw_.C x)[2]? = some (.int .u64 (m : Int)) := by rw [← hx]; rfl
  have HX := Lib.hid hx
  generalize mS st s = S at *
  generalize mM st m s = M at *
  generalize dist st s = D at *
  generalize inn st 2048 s = I at *
  clear hx hm hw2
  cases I
  · obtain ⟨e1, e2⟩ := HN.out
    obtain rfl := e1 rfl
    obtain rfl := e2 rfl
    clear e1 e2 HN HY
    rw [HX.out]
    go_enter Try.func18, Try.ntmps18
    go_wp2_with (go_at_call 26; refine (CA.out _).mono ?_; rintro e w3 ⟨rfl, h⟩; have S3 := Lib.hid (S2.out.keep h); have l3 := S3.out.bx.loadF; have t3 := S3.out.rs.storeF x; clear h)
    exact ret_sc Try.results18 rfl (S3.out.fin x).1 rfl ⟨rfl, (S3.out.fin x).2⟩
  · obtain ⟨e1, e2⟩ := HY.out
    obtain rfl := e1 rfl
    obtain rfl := e2 rfl
    clear e1 e2 HN HY
    go_enter Try.func18, Try.ntmps18
    go_wp2_with (go_at_call 26; refine (CA.out _).mono ?_; rintro e w3 ⟨rfl, h⟩; have S3 := Lib.hid (S2.out.keep h); have e3 := S3.out.bx.all; have f3 := S3.out.bx.frozen; clear h)
    clear l2 hw1 hw2' hz1
    go_region_with (first
      | (go_at_call 30; refine (CDI.out _).mono ?_; rintro e w' ⟨rfl, rfl⟩)
      | (go_at_call 25; refine (CDO.out _).mono ?_; rintro e w' ⟨rfl, rfl⟩))
    all_goals
      have S4 := Lib.hid (show Rst w ⟨st, sz, (dwn m D : Nat)⟩ zs (w3.setCell ⟨w.heap.size, 2, none⟩ (.int .u64 (dwn m D : Nat))).drew by
        have h := (S3.out.set2 (dwn m D : Nat)).drewN 1
        rw [← HX.out] at h
        exact h)
      clear e3 f3 S3 S2 CA CDI CDO c0 c2
      generalize (w3.setCell ⟨w.heap.size, 2, none⟩ (.int .u64 (dwn m D : Nat))).drew = w4 at *
      have e4 := S4.out.bx.all
      have f4 := S4.out.bx.frozen
      have S5 := Lib.hid (S4.out.set0 S)
      have l5 := S5.out.bx.loadF
      have t5 := S5.out.rs.storeF ⟨S, sz, (dwn m D : Nat)⟩
      go_wp2
      exact ret_sc Try.results18 rfl (S5.out.fin ⟨S, sz, (dwn m D : Nat)⟩).1 rfl ⟨rfl, (S5.out.fin ⟨S, sz, (dwn m D : Nat)⟩).2⟩
end Go.Proofs.Ytjighkagmnoncaa
