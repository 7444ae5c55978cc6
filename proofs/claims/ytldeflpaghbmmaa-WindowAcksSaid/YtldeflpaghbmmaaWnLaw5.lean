/-
  THE LAW WindowAcks over the walks (its regions 3 and 5 written by gen_branch.py with acks_conf.py by mkacks22.py).
-/
import Derived.Test.YtldeflpaghbmmaaWnRefC
import Derived.Test.YtldeflpaghbmmaaWnRef7
import Derived.Test.YtldeflpaghbmmaaWnRef8
import Derived.Test.YtldeflpaghbmmaaWnMiss
import Derived.Test.YtldeflpaghbmmaaWnSame
import Derived.Test.YtldeflpaghbmmaaWnFit
import Derived.Test.YtldeflpaghbmmaaWnAo
import Derived.Deep.RegionWith
import Derived.Deep.DeepCutAuto
import Derived.Deep.RegionHeld
import Derived.Deep.MidRow
namespace Go.Proofs.Ytldeflpaghbmmaa
open Go.RowKit Go.Wn Go.Sq Go.Wr
attribute [local go_sem ↓ high] Wv_.loadF Wv_.storeF Wv_.v_cells Wv_.v_match Ww_.loadF Ww_.storeF Ww_.v_cells Ww_.v_match Aw_.loadF Aw_.storeF Aw_.v_cells Aw_.v_match
attribute [local go_sem] Wv_.C0 Wv_.C1 Wv_.C2 Wv_.C3 Wv_.loadF_new Wv_.storeF_zero Ww_.C0 Ww_.C1 Ww_.C2 Ww_.C3 Ww_.loadF_new Ww_.storeF_zero Aw_.C0 Aw_.C1 Aw_.C2 Aw_.C3 Aw_.loadF_new Aw_.storeF_zero Oper.semAt_some

/-- A block of its own is made for a result; what lay before is kept. -/
structure Al (B : World → Prop) (g : Nat) (w : World) : Prop where
  fm : ∃ wb, B wb ∧ wb.heap.size ≤ g ∧ Below wb.heap.size wb w
  bx : Ww_.Box w g zw
theorem Al.keep {B : World → Prop} {g : Nat} {wi wj : World} (h : Al B g wi) (hb : Below wi.heap.size wi wj) : Al B g wj := by
  obtain ⟨wb, h1, h2, h3⟩ := h.fm
  exact ⟨⟨wb, h1, h2, h3.trans (hb.mono h3.size)⟩, h.bx.below hb h.bx.lt⟩
theorem Al.b {B : World → Prop} {g : Nat} {w : World} (h : Al B g w) (hk : ∀ {wi wj}, B wi → Below wi.heap.size wi wj → B wj) : B w := by
  obtain ⟨wb, h1, h2, h3⟩ := h.fm
  exact hk h1 h3
theorem al_new {B : World → Prop} {w : World} (h : B w) : ∃ g w', w.heap.size = g ∧ w.alloc (.cells #[.int .i64 0, .int .i64 0, .slice none 0 0, .bool false] 29) = w' ∧ Al B g w' :=
  ⟨_, _, rfl, rfl, ⟨w, h, Nat.le_refl _, (Below.refl _ _).alloc (Nat.le_refl _) _⟩, Ww_.Box.new w zw⟩
/-- A state and identifiers that lie there. -/
structure Rs (P : St × List Int) (x : Wn) (sa : Option Addr) (c : Nat) (w : World) : Prop where
  lies : Lies w x P.1
  ids : Is_.Sl w sa P.2 c
theorem Rs.keep {P : St × List Int} {x : Wn} {sa : Option Addr} {c : Nat} {wi wj : World} (h : Rs P x sa c wi) (hb : Below wi.heap.size wi wj) : Rs P x sa c wj := ⟨h.lies.below hb, h.ids.below hb⟩
/-- Both: the block is made, the results are there, and do not lie in it. -/
structure Ar (B : World → Prop) (g : Nat) (P : St × List Int) (x : Wn) (sa : Option Addr) (c : Nat) (w : World) : Prop where
  al : Al B g w
  rs : Rs P x sa c w
  n1 : 0 < P.1.l.length → ∀ bb off, x.sa = some ⟨bb, off, none⟩ → bb ≠ g
  n2 : 0 < P.2.length → ∀ bb off, sa = some ⟨bb, off, none⟩ → bb ≠ g
theorem Al.call {B : World → Prop} {g : Nat} {wi wj : World} {P : St × List Int} {x : Wn} {sa : Option Addr} {c : Nat} (h : Al B g wi) (hO : Out P.1 wi x wj) (hI : Is_.Sl wj sa P.2 c) (hF : Fr wi.heap.size sa) : Ar B g P x sa c wj := by
  have hlt := h.bx.lt
  exact ⟨h.keep hO.bel, ⟨hO.lies, hI⟩, fun _ bb off e => by have := hO.fr bb off e; omega, fun _ bb off e => by have := hF bb off e; omega⟩
theorem ar_new {B : World → Prop} {w : World} {P : St × List Int} {x : Wn} {sa : Option Addr} {c : Nat} (_hk : ∀ {wi wj}, B wi → Below wi.heap.size wi wj → B wj) (h : B w) (hr : Rs P x sa c w) :
    ∃ g w', w.heap.size = g ∧ w.alloc (.cells #[.int .i64 0, .int .i64 0, .slice none 0 0, .bool false] 29) = w' ∧ Ar B g P x sa c w' := by
  refine ⟨_, _, rfl, rfl, ⟨⟨w, h, Nat.le_refl _, (Below.refl _ _).alloc (Nat.le_refl _) _⟩, Ww_.Box.new w zw⟩, hr.keep ((Below.refl _ _).alloc (Nat.le_refl _) _), fun h0 bb off e => ?_, fun h0 bb off e => ?_⟩
  · obtain ⟨b', o', e', hl, -⟩ := hr.lies.sl.lies 0 h0
    rw [e] at e'; cases e'; omega
  · obtain ⟨b', o', e', hl, -⟩ := hr.ids.lies 0 h0
    rw [e] at e'; cases e'; omega
/-- Done: the state is laid into its block. -/
structure Dn (B : World → Prop) (g : Nat) (P : St × List Int) (x : Wn) (sa : Option Addr) (c : Nat) (w : World) : Prop where
  b : B w
  bx : Ww_.Box w g x
  rs : Rs P x sa c w
theorem Ar.store {B : World → Prop} {g : Nat} {P : St × List Int} {x : Wn} {sa : Option Addr} {c : Nat} {w : World} (h : Ar B g P x sa c w) (hk : ∀ {wi wj}, B wi → Below wi.heap.size wi wj → B wj) :
    ∃ w', (Ww_.StoreF ⟨g, 0, none⟩ (Ww_.v x)).run Try.prog w = .ok () w' ∧ Dn B g P x sa c w' := by
  obtain ⟨⟨wb, h1, h2, h3⟩, hbx⟩ := h.al
  refine ⟨_, hbx.storeF x, hk h1 (below_row22 h3 h2 _), hbx.setRow x, ⟨h.rs.lies.nx, h.rs.lies.sz, h.rs.lies.rq, h.rs.lies.n, ?_⟩, ?_⟩
  · rcases Nat.eq_zero_or_pos P.1.l.length with h0 | h0
    · have hl := List.length_eq_zero_iff.1 h0
      exact ⟨by rw [hl]; exact Sn_.At.nil _ _, h.rs.lies.sl.le, h.rs.lies.sl.nil⟩
    · exact ⟨h.rs.lies.sl.lies.block (by simp [World.setRow]) (fun bb off e => Ww_.setRow_other (h.n1 h0 bb off e) _), h.rs.lies.sl.le, h.rs.lies.sl.nil⟩
  · rcases Nat.eq_zero_or_pos P.2.length with h0 | h0
    · have hl := List.length_eq_zero_iff.1 h0
      exact ⟨by rw [hl]; exact Is_.At.nil _ _, h.rs.ids.le, h.rs.ids.nil⟩
    · exact ⟨h.rs.ids.lies.block (by simp [World.setRow]) (fun bb off e => Ww_.setRow_other (h.n2 h0 bb off e) _), h.rs.ids.le, h.rs.ids.nil⟩

/-- What came in: a state and an answer, each in a block of its own. -/
structure Ak (W : World) (x : Wn) (s : St) (y : An) (Q : List Int) (wi : World) : Prop where
  v : Kv W W.heap.size x s wi
  yb : Aw_.Box wi (W.heap.size + 1) y
  q : Wa_.Ao wi y Q
theorem Ak.keep {W : World} {x : Wn} {s : St} {y : An} {Q : List Int} {wi wj : World} (h : Ak W x s y Q wi) (hb : Below wi.heap.size wi wj) : Ak W x s y Q wj := ⟨h.v.keep hb, h.yb.below hb h.yb.lt, h.q.below hb⟩
theorem Ak.ld {W : World} {x : Wn} {s : St} {y : An} {Q : List Int} {wi : World} (h : Ak W x s y Q wi) : (Wv_.LoadF ⟨W.heap.size, 0, none⟩).run Try.prog wi = .ok (Wv_.v x) wi ∧ wi.cell? ⟨W.heap.size + 1, 0, none⟩ = some (.int .i64 y.st) ∧ wi.cell? ⟨W.heap.size + 1, 1, none⟩ = some (.int .u64 y.m) ∧ wi.cell? ⟨W.heap.size + 1, 2, none⟩ = some (.slice y.sa y.n y.c) ∧ wi.cell? ⟨W.heap.size + 1, 3, none⟩ = some (.int .i64 y.lim) :=
  ⟨h.v.bx.loadF, h.yb.all 0, h.yb.all 1, h.yb.all 2, h.yb.all 3⟩
theorem Ak.a {W : World} {x : Wn} {s : St} {y : An} {Q : List Int} {wi : World} (h : Ak W x s y Q wi) : Ak W x s y Q wi := h
/-- And the results of Acked: the program's, the reference's. -/
structure Ak2 (W : World) (x : Wn) (s : St) (y : An) (Q : List Int) (P : St × List Int) (g g' : Nat) (x3 x4 : Wn) (sa3 sa4 : Option Addr) (c3 c4 : Nat) (wi : World) : Prop where
  a : Ak W x s y Q wi
  bx : Ww_.Box wi g x3
  rs : Rs P x3 sa3 c3 wi
  bv : Wv_.Box wi g' x4
  rv : Rs P x4 sa4 c4 wi
theorem Ak2.keep {W : World} {x : Wn} {s : St} {y : An} {Q : List Int} {P : St × List Int} {g g' : Nat} {x3 x4 : Wn} {sa3 sa4 : Option Addr} {c3 c4 : Nat} {wi wj : World} (h : Ak2 W x s y Q P g g' x3 x4 sa3 sa4 c3 c4 wi) (hb : Below wi.heap.size wi wj) : Ak2 W x s y Q P g g' x3 x4 sa3 sa4 c3 c4 wj :=
  ⟨h.a.keep hb, h.bx.below hb h.bx.lt, h.rs.keep hb, h.bv.below hb h.bv.lt, h.rv.keep hb⟩
theorem Ak2.ld {W : World} {x : Wn} {s : St} {y : An} {Q : List Int} {P : St × List Int} {g g' : Nat} {x3 x4 : Wn} {sa3 sa4 : Option Addr} {c3 c4 : Nat} {wi : World} (h : Ak2 W x s y Q P g g' x3 x4 sa3 sa4 c3 c4 wi) : (Wv_.LoadF ⟨W.heap.size, 0, none⟩).run Try.prog wi = .ok (Wv_.v x) wi ∧ wi.cell? ⟨W.heap.size + 1, 0, none⟩ = some (.int .i64 y.st) ∧ wi.cell? ⟨W.heap.size + 1, 1, none⟩ = some (.int .u64 y.m) ∧ wi.cell? ⟨W.heap.size + 1, 2, none⟩ = some (.slice y.sa y.n y.c) ∧ wi.cell? ⟨W.heap.size + 1, 3, none⟩ = some (.int .i64 y.lim) := h.a.ld

/-- And the results of Missed. -/
structure Ak3 (W : World) (x : Wn) (s : St) (y : An) (Q : List Int) (P : St × List Int) (g g' : Nat) (x3 x4 : Wn) (sa3 sa4 : Option Addr) (c3 c4 : Nat) (P' : St × List Int) (h h' : Nat) (x5 x6 : Wn) (sa5 sa6 : Option Addr) (c5 c6 : Nat) (wi : World) : Prop where
  k : Ak2 W x s y Q P g g' x3 x4 sa3 sa4 c3 c4 wi
  bx : Ww_.Box wi h x5
  rs : Rs P' x5 sa5 c5 wi
  bv : Wv_.Box wi h' x6
  rv : Rs P' x6 sa6 c6 wi
theorem Ak3.keep {W : World} {x : Wn} {s : St} {y : An} {Q : List Int} {P P' : St × List Int} {g g' h h' : Nat} {x3 x4 x5 x6 : Wn} {sa3 sa4 sa5 sa6 : Option Addr} {c3 c4 c5 c6 : Nat} {wi wj : World} (H : Ak3 W x s y Q P g g' x3 x4 sa3 sa4 c3 c4 P' h h' x5 x6 sa5 sa6 c5 c6 wi) (hb : Below wi.heap.size wi wj) : Ak3 W x s y Q P g g' x3 x4 sa3 sa4 c3 c4 P' h h' x5 x6 sa5 sa6 c5 c6 wj :=
  ⟨H.k.keep hb, H.bx.below hb H.bx.lt, H.rs.keep hb, H.bv.below hb H.bv.lt, H.rv.keep hb⟩
theorem Ak3.ld {W : World} {x : Wn} {s : St} {y : An} {Q : List Int} {P P' : St × List Int} {g g' h h' : Nat} {x3 x4 x5 x6 : Wn} {sa3 sa4 sa5 sa6 : Option Addr} {c3 c4 c5 c6 : Nat} {wi : World} (H : Ak3 W x s y Q P g g' x3 x4 sa3 sa4 c3 c4 P' h h' x5 x6 sa5 sa6 c5 c6 wi) :
    (Ww_.LoadF ⟨g, 0, none⟩).run Try.prog wi = .ok (Ww_.v x3) wi ∧ (Wv_.LoadF ⟨g', 0, none⟩).run Try.prog wi = .ok (Wv_.v x4) wi ∧ (Ww_.LoadF ⟨h, 0, none⟩).run Try.prog wi = .ok (Ww_.v x5) wi ∧ (Wv_.LoadF ⟨h', 0, none⟩).run Try.prog wi = .ok (Wv_.v x6) wi :=
  ⟨H.k.bx.loadF, H.k.bv.loadF, H.bx.loadF, H.bv.loadF⟩

set_option maxRecDepth 100000 in
set_option maxHeartbeats 16000000 in
theorem windowAcks_walk0 (x : Wn) (s : St) {W : World} (hL : Lies W x s) (y : An) (Q : List Int) (hA : Wa_.Ao W y Q) :
    Calls Try.prog 5 #[Wv_.v x, Aw_.v y] W fun e w' => e = .returned (.bool true) ∧ Below W.heap.size W w' := by
  obtain ⟨w0, hw0⟩ : ∃ w0, W.alloc (.cells (Wv_.C x) 24) = w0 := ⟨_, rfl⟩
  obtain ⟨w1, hw1⟩ : ∃ w1, w0.alloc (.cells (Aw_.C y) 50) = w1 := ⟨_, rfl⟩
  have z0 : w0.heap.size = W.heap.size + 1 := by rw [← hw0]; simp
  have B0 : Below W.heap.size W w0 := hw0 ▸ (Below.refl _ _).alloc (Nat.le_refl _) _
  have B1 : Below w0.heap.size w0 w1 := hw1 ▸ (Below.refl _ _).alloc (Nat.le_refl _) _
  have K0 : Kv W W.heap.size x s w0 := ⟨hw0 ▸ Wv_.Box.new W x, hL.below B0, B0⟩
  have Y1 : Aw_.Box w1 (W.heap.size + 1) y := z0 ▸ hw1 ▸ Aw_.Box.new w0 y
  have HB := Lib.hid (show Ak W x s y Q w1 from ⟨K0.keep B1, Y1, (hA.below B0).below B1⟩)
  obtain ⟨l1, d0, d1, d2, d3⟩ := HB.out.ld
  have CF := Lib.hid (fun w => few22_any x w)
  have CL := Lib.hid lives22_any
  have hn := hL.n
  have hq := hA.n
  obtain ⟨k, hm, hk⟩ := hA.m
  clear hL B0 B1 K0 Y1 hA
  by_cases h70 : x.n ≤ 70
  · rw [decide_eq_true h70] at CF
    by_cases h100 : y.n ≤ 100
    · have h100' : ¬ ((100 : Int) < (y.n : Int)) := by omega
      have hl : s.l.length ≤ 1000 := by omega
      have hQ : Q.length ≤ 1000 := by omega
      have CR := Lib.hid (fun w (h : Lies w x s) => r22_check_any x s w h hl)
      by_cases hK : chk s = 0
      · rw [hK] at CR
        have hall := chk_all hK
        have CT := Lib.hid (fun w => state22_any x w)
        have CA : Hid (∀ w, Lies w x s → Calls Try.prog 27 #[Ww_.v x, .int .i64 y.st, .int .u64 y.m] w fun e w' => StIds (acked s y.st k) w e w') := fun w h => by rw [hm]; exact wn_acked_any x s y.st k hk w h hl
        have CAr : Hid (∀ w, Lies w x s → Calls Try.prog 28 #[Wv_.v x, .int .i64 y.st, .int .u64 y.m] w fun e w' => StIdsV (acked s y.st k) w e w') := fun w h => by rw [hm]; exact r22_acked_any x s y.st k hk w h hl
        have CM : Hid (∀ w, Lies w x s → Is_.Sl w y.sa Q y.c → Calls Try.prog 29 #[Ww_.v x, .slice y.sa y.n y.c, .int .i64 y.lim] w fun e w' => StIds (missed s Q y.lim) w e w') := fun w h h' => by rw [hq]; exact wn_missed_any x s y.sa Q y.c y.lim w h hl h' hQ (fun p hp => (hall p hp).1)
        have CMr : Hid (∀ w, Lies w x s → Is_.Sl w y.sa Q y.c → Calls Try.prog 30 #[Wv_.v x, .slice y.sa y.n y.c, .int .i64 y.lim] w fun e w' => StIdsV (missed s Q y.lim) w e w') := fun w h h' => by rw [hq]; exact r22_missed_any x s y.sa Q y.c y.lim w h hl h' hQ hall
        have A1 := Nat.le_trans (acked_len s y.st k).1 hl
        have A2 := Nat.le_trans (acked_len s y.st k).2 hl
        have M1 := Nat.le_trans (missed_len s Q y.lim).1 hl
        have M2 := Nat.le_trans (missed_len s Q y.lim).2 hl
        have CS1 := Lib.hid (fun p q w h h' => same22_any p q (acked s y.st k).1 w h h' A1)
        have CS2 := Lib.hid (fun p q w h h' => same22_any p q (missed s Q y.lim).1 w h h' M1)
        have CI1 := Lib.hid (fun sa sb c c' w h h' => sameIs22_any (acked s y.st k).2 sa sb c c' w h h' A2)
        have CI2 := Lib.hid (fun sa sb c c' w h h' => sameIs22_any (missed s Q y.lim).2 sa sb c c' w h h' M2)
        unfold StIds at CA CM
        unfold StIdsV at CAr CMr
        generalize acked s y.st k = PA at *
        generalize missed s Q y.lim = PM at *
        clear hK h70 hl hn A1 A2 M1 M2 hall hQ h100 hm hk hq
        go_enter Try.func5, Try.ntmps5
        go_upto_region 3 with (first
          | (go_at_call 9; refine (CF.out _).mono ?_; rintro e w2 ⟨rfl, hw2⟩; replace HB := Lib.hid (HB.out.keep hw2); obtain ⟨l2, d02, d12, d22, d32⟩ := HB.out.ld; clear hw2)
          | (go_at_call 13; refine (CR.out w2 HB.out.v.lies).mono ?_; rintro e w3 ⟨rfl, hw3⟩; replace HB := Lib.hid (HB.out.keep hw3); replace HB := Lib.hid (HB.out.keep (wj := w3.drew) ⟨rfl, rfl, rfl, Nat.le_refl _, fun _ _ => rfl⟩); clear hw3))
        go_cut [5, 6] (fun p v wx => ∃ (g : Nat) (x3 : Wn) (sa : Option Addr) (c : Nat), p = .pointer (some ⟨g, 0, none⟩) ∧ v = .slice sa PA.2.length c ∧ Hid (Dn (Ak W x s y Q) g PA x3 sa c wx))
        case first =>
          refine wp_region_held_drew (S := (fun w' => (Wv_.LoadF ⟨W.heap.size, 0, none⟩).run Try.prog w' = .ok (Wv_.v x) w' ∧ w'.cell? ⟨W.heap.size + 1, 0, none⟩ = some (.int .i64 y.st) ∧ w'.cell? ⟨W.heap.size + 1, 1, none⟩ = some (.int .u64 y.m) ∧ w'.cell? ⟨W.heap.size + 1, 2, none⟩ = some (.slice y.sa y.n y.c) ∧ w'.cell? ⟨W.heap.size + 1, 3, none⟩ = some (.int .i64 y.lim))) (by kernel_rfl) ?_ (fun hHeld => ?_)
          · exact HB.out.ld
          refine wpAnyH_take (i := 0) (oi := { dst := some 29, op := Op.load 24 (Operand.tmp 2), type := 24, pos := "law.go:62", after := #[], guard := none }) (v := ?v1) rfl (by kernel_rfl) (by kernel_rfl) (by kernel_rfl) (fun _ _ _ h => h) (Or.inl ⟨by rfl, ?y1⟩) hHeld ?r1
          case y1 => (intro w hSw; (try dsimp only at hSw); go_simp; try with_reducible rfl)
          try simp only [Act.put, List.setIfInBounds_toArray, List.set_cons_zero, List.set_cons_succ]
          refine wpAnyH_take (i := 2) (oi := { dst := some 31, op := Op.fieldAddr 50 (Operand.tmp 3) 0, type := 0, pos := "law.go:62", after := #[], guard := none }) (v := ?v2) rfl (by kernel_rfl) (by kernel_rfl) (by kernel_rfl) (fun _ _ _ h => h) (Or.inl ⟨by rfl, ?y2⟩) hHeld ?r2
          case y2 => (intro w hSw; (try dsimp only at hSw); go_simp; try with_reducible rfl)
          try simp only [Act.put, List.setIfInBounds_toArray, List.set_cons_zero, List.set_cons_succ]
          refine wpAnyH_take (i := 3) (oi := { dst := some 32, op := Op.load 3 (Operand.tmp 31), type := 3, pos := "law.go:62", after := #[{ on := 2, ground := Ground.data }], guard := none }) (v := ?v3) rfl (by kernel_rfl) (by kernel_rfl) (by kernel_rfl) (fun _ _ _ h => h) (Or.inl ⟨by rfl, ?y3⟩) hHeld ?r3
          case y3 => (intro w hSw; (try dsimp only at hSw); go_simp; try with_reducible rfl)
          try simp only [Act.put, List.setIfInBounds_toArray, List.set_cons_zero, List.set_cons_succ]
          refine wpAnyH_take (i := 4) (oi := { dst := some 33, op := Op.fieldAddr 50 (Operand.tmp 3) 1, type := 0, pos := "law.go:62", after := #[], guard := none }) (v := ?v4) rfl (by kernel_rfl) (by kernel_rfl) (by kernel_rfl) (fun _ _ _ h => h) (Or.inl ⟨by rfl, ?y4⟩) hHeld ?r4
          case y4 => (intro w hSw; (try dsimp only at hSw); go_simp; try with_reducible rfl)
          try simp only [Act.put, List.setIfInBounds_toArray, List.set_cons_zero, List.set_cons_succ]
          refine wpAnyH_take (i := 5) (oi := { dst := some 34, op := Op.load 47 (Operand.tmp 33), type := 47, pos := "law.go:62", after := #[{ on := 4, ground := Ground.data }], guard := none }) (v := ?v5) rfl (by kernel_rfl) (by kernel_rfl) (by kernel_rfl) (fun _ _ _ h => h) (Or.inl ⟨by rfl, ?y5⟩) hHeld ?r5
          case y5 => (intro w hSw; (try dsimp only at hSw); go_simp; try with_reducible rfl)
          try simp only [Act.put, List.setIfInBounds_toArray, List.set_cons_zero, List.set_cons_succ]
          refine wpAnyH_ready (rs := [1, 10]) (by kernel_rfl) (by simp) ?_
          refine AllReadyH.cons (o := { dst := some 30, op := Op.call { callee := Callee.value (Operand.func 12), args := #[Operand.tmp 29], argTypes := #[24] }, type := 29, pos := "law.go:62", after := #[{ on := 0, ground := Ground.data }], guard := none }) rfl (fun K hK => ?_) ?_
          · clear hHeld
            go_simp
            go_at_call 12
            with_reducible refine (CT.out _).mono ?_
            rintro e wa ⟨rfl, h⟩
            first | replace HB := Lib.hid (HB.out.keep h) | replace HA := Lib.hid (HA.out.keep h)
            clear h
            refine hK.out _ _ ?_ (fun hHeld => ?_)
            · first | exact HB.out.ld | exact (HA.out.b (fun h hb => h.keep hb)).ld | exact HC.out.1.ld | exact (HR.out.al.b (fun h hb => h.keep hb)).ld | exact HD.out.b.ld
            clear hK K
            try simp only [Act.put, List.setIfInBounds_toArray, List.set_cons_zero, List.set_cons_succ]
            refine wpAnyH_ready (rs := [6, 10]) (by kernel_rfl) (by simp) ?_
            refine AllReadyH.cons (o := { dst := some 35, op := Op.call { callee := Callee.value (Operand.func 27), args := #[Operand.tmp 30, Operand.tmp 32, Operand.tmp 34], argTypes := #[29, 3, 47] }, type := 51, pos := "law.go:62", after := #[{ on := 1, ground := Ground.data }, { on := 3, ground := Ground.data }, { on := 5, ground := Ground.data }, { on := 1, ground := Ground.chain }], guard := none }) rfl (fun K hK => ?_) ?_
            · clear hHeld
              go_simp
              go_at_call 27
              first
                | with_reducible refine (CA.out _ HB.out.a.v.lies).mono ?_
                | with_reducible refine (CA.out _ (HA.out.b (fun h hb => h.keep hb)).a.v.lies).mono ?_
              rintro e wb ⟨x3, sa3, c3, rfl, hO, hI, hF⟩
              first
                | (have HC := Lib.hid (And.intro (HB.out.keep hO.bel) (show Rs PA _ _ _ _ from ⟨hO.lies, hI⟩)); clear HB)
                | (have HR := Lib.hid (Al.call (B := Ak W x s y Q) (P := PA) HA.out hO hI hF); clear HA)
              clear hO hI hF
              refine hK.out _ _ ?_ (fun hHeld => ?_)
              · first | exact HB.out.ld | exact (HA.out.b (fun h hb => h.keep hb)).ld | exact HC.out.1.ld | exact (HR.out.al.b (fun h hb => h.keep hb)).ld | exact HD.out.b.ld
              clear hK K
              try simp only [Act.put, List.setIfInBounds_toArray, List.set_cons_zero, List.set_cons_succ]
              refine wpAnyH_take (i := 7) (oi := { dst := some 28, op := Op.move (Operand.tmp 35), type := 51, pos := "law.go:62", after := #[{ on := 6, ground := Ground.data }], guard := none }) (v := ?v6) rfl (by kernel_rfl) (by kernel_rfl) (by kernel_rfl) (fun _ _ _ h => h) (Or.inl ⟨by rfl, ?y6⟩) hHeld ?r6
              case y6 => (intro w hSw; (try dsimp only at hSw); go_simp; try with_reducible rfl)
              try simp only [Act.put, List.setIfInBounds_toArray, List.set_cons_zero, List.set_cons_succ]
              refine wpAnyH_take (i := 8) (oi := { dst := some 36, op := Op.extract (Operand.tmp 28) 0, type := 29, pos := "law.go:62", after := #[{ on := 7, ground := Ground.data }], guard := none }) (v := ?v7) rfl (by kernel_rfl) (by kernel_rfl) (by kernel_rfl) (fun _ _ _ h => h) (Or.inl ⟨by rfl, ?y7⟩) hHeld ?r7
              case y7 => (intro w hSw; (try dsimp only at hSw); go_simp; try with_reducible rfl)
              try simp only [Act.put, List.setIfInBounds_toArray, List.set_cons_zero, List.set_cons_succ]
              refine wpAnyH_take (i := 9) (oi := { dst := some 37, op := Op.extract (Operand.tmp 28) 1, type := 48, pos := "law.go:62", after := #[{ on := 7, ground := Ground.data }, { on := 11, ground := Ground.gcOnly Departure.lateStores }], guard := none }) (v := ?v8) rfl (by kernel_rfl) (by kernel_rfl) (by kernel_rfl) (fun _ _ _ h => h) (Or.inl ⟨by rfl, ?y8⟩) hHeld ?r8
              case y8 => (intro w hSw; (try dsimp only at hSw); go_simp; try with_reducible rfl)
              try simp only [Act.put, List.setIfInBounds_toArray, List.set_cons_zero, List.set_cons_succ]
              refine wpAnyH_ready (rs := [10]) (by kernel_rfl) (by simp) ?_
              refine AllReadyH.cons (o := { dst := some 5, op := Op.alloc 29, type := 0, pos := "law.go:62", after := #[], guard := none }) rfl (fun K hK => ?_) ?_
              · clear hHeld
                first
                  | (obtain ⟨g, w7, e1, e2, hs⟩ := al_new (B := Ak W x s y Q) HB.out; go_simp; (try simp only [e1, e2]); have HA := Lib.hid hs; clear HB)
                  | (obtain ⟨g, w7, e1, e2, hs⟩ := ar_new (B := Ak W x s y Q) (P := PA) (fun h hb => h.keep hb) HC.out.1 HC.out.2; go_simp; (try simp only [e1, e2]); have HR := Lib.hid hs; clear HC)
                clear hs e1 e2
                refine hK.out _ _ ?_ (fun hHeld => ?_)
                · first | exact HB.out.ld | exact (HA.out.b (fun h hb => h.keep hb)).ld | exact HC.out.1.ld | exact (HR.out.al.b (fun h hb => h.keep hb)).ld | exact HD.out.b.ld
                clear hK K
                try simp only [Act.put, List.setIfInBounds_toArray, List.set_cons_zero, List.set_cons_succ]
                refine wpAnyH_ready (rs := [11]) (by kernel_rfl) (by simp) ?_
                refine AllReadyH.cons (o := { dst := none, op := Op.store 29 (Operand.tmp 5) (Operand.tmp 36), type := 0, pos := "law.go:62", after := #[{ on := 10, ground := Ground.data }, { on := 8, ground := Ground.data }, { on := 6, ground := Ground.chain }, { on := 0, ground := Ground.phase }, { on := 1, ground := Ground.phase }, { on := 2, ground := Ground.phase }, { on := 3, ground := Ground.phase }, { on := 4, ground := Ground.phase }, { on := 5, ground := Ground.phase }, { on := 6, ground := Ground.phase }, { on := 7, ground := Ground.phase }, { on := 8, ground := Ground.phase }, { on := 9, ground := Ground.textOnly Departure.lateStores }, { on := 10, ground := Ground.phase }], guard := none }) rfl (fun K hK => ?_) ?_
                · clear hHeld
                  obtain ⟨w8, e1, hs⟩ := HR.out.store (fun h hb => h.keep hb)
                  go_simp
                  have HD := Lib.hid hs
                  clear hs e1 HR
                  refine hK.out _ _ ?_ (fun hHeld => ?_)
                  · first | exact HB.out.ld | exact (HA.out.b (fun h hb => h.keep hb)).ld | exact HC.out.1.ld | exact (HR.out.al.b (fun h hb => h.keep hb)).ld | exact HD.out.b.ld
                  clear hK K
                  try simp only [Act.put, List.setIfInBounds_toArray, List.set_cons_zero, List.set_cons_succ]
                  refine wpAnyH_take (i := 12) (oi := { dst := some 6, op := Op.assign (Operand.tmp 37), type := 48, pos := "law.go:62", after := #[{ on := 9, ground := Ground.data }, { on := 11, ground := Ground.chain }, { on := 0, ground := Ground.phase }, { on := 1, ground := Ground.phase }, { on := 2, ground := Ground.phase }, { on := 3, ground := Ground.phase }, { on := 4, ground := Ground.phase }, { on := 5, ground := Ground.phase }, { on := 6, ground := Ground.phase }, { on := 7, ground := Ground.phase }, { on := 8, ground := Ground.phase }, { on := 9, ground := Ground.phase }, { on := 10, ground := Ground.phase }, { on := 11, ground := Ground.phase }], guard := none }) (v := ?v9) rfl (by kernel_rfl) (by kernel_rfl) (by kernel_rfl) (fun _ _ _ h => h) (Or.inl ⟨by rfl, ?y9⟩) hHeld ?r9
                  case y9 => (intro w hSw; (try dsimp only at hSw); go_simp; try with_reducible rfl)
                  try simp only [Act.put, List.setIfInBounds_toArray, List.set_cons_zero, List.set_cons_succ]
                  refine wpAnyH_done (by kernel_rfl) ?_ _
                  go_wp2_with fail
                  go_meet
                  exact ⟨g, x3, sa3, c3, rfl, rfl, HD⟩
                exact AllReadyH.nil
              exact AllReadyH.nil
            refine AllReadyH.cons (o := { dst := some 5, op := Op.alloc 29, type := 0, pos := "law.go:62", after := #[], guard := none }) rfl (fun K hK => ?_) ?_
            · clear hHeld
              first
                | (obtain ⟨g, w7, e1, e2, hs⟩ := al_new (B := Ak W x s y Q) HB.out; go_simp; (try simp only [e1, e2]); have HA := Lib.hid hs; clear HB)
                | (obtain ⟨g, w7, e1, e2, hs⟩ := ar_new (B := Ak W x s y Q) (P := PA) (fun h hb => h.keep hb) HC.out.1 HC.out.2; go_simp; (try simp only [e1, e2]); have HR := Lib.hid hs; clear HC)
              clear hs e1 e2
              refine hK.out _ _ ?_ (fun hHeld => ?_)
              · first | exact HB.out.ld | exact (HA.out.b (fun h hb => h.keep hb)).ld | exact HC.out.1.ld | exact (HR.out.al.b (fun h hb => h.keep hb)).ld | exact HD.out.b.ld
              clear hK K
              try simp only [Act.put, List.setIfInBounds_toArray, List.set_cons_zero, List.set_cons_succ]
              refine wpAnyH_ready (rs := [6]) (by kernel_rfl) (by simp) ?_
              refine AllReadyH.cons (o := { dst := some 35, op := Op.call { callee := Callee.value (Operand.func 27), args := #[Operand.tmp 30, Operand.tmp 32, Operand.tmp 34], argTypes := #[29, 3, 47] }, type := 51, pos := "law.go:62", after := #[{ on := 1, ground := Ground.data }, { on := 3, ground := Ground.data }, { on := 5, ground := Ground.data }, { on := 1, ground := Ground.chain }], guard := none }) rfl (fun K hK => ?_) ?_
              · clear hHeld
                go_simp
                go_at_call 27
                first
                  | with_reducible refine (CA.out _ HB.out.a.v.lies).mono ?_
                  | with_reducible refine (CA.out _ (HA.out.b (fun h hb => h.keep hb)).a.v.lies).mono ?_
                rintro e wb ⟨x3, sa3, c3, rfl, hO, hI, hF⟩
                first
                  | (have HC := Lib.hid (And.intro (HB.out.keep hO.bel) (show Rs PA _ _ _ _ from ⟨hO.lies, hI⟩)); clear HB)
                  | (have HR := Lib.hid (Al.call (B := Ak W x s y Q) (P := PA) HA.out hO hI hF); clear HA)
                clear hO hI hF
                refine hK.out _ _ ?_ (fun hHeld => ?_)
                · first | exact HB.out.ld | exact (HA.out.b (fun h hb => h.keep hb)).ld | exact HC.out.1.ld | exact (HR.out.al.b (fun h hb => h.keep hb)).ld | exact HD.out.b.ld
                clear hK K
                try simp only [Act.put, List.setIfInBounds_toArray, List.set_cons_zero, List.set_cons_succ]
                refine wpAnyH_take (i := 7) (oi := { dst := some 28, op := Op.move (Operand.tmp 35), type := 51, pos := "law.go:62", after := #[{ on := 6, ground := Ground.data }], guard := none }) (v := ?v10) rfl (by kernel_rfl) (by kernel_rfl) (by kernel_rfl) (fun _ _ _ h => h) (Or.inl ⟨by rfl, ?y10⟩) hHeld ?r10
                case y10 => (intro w hSw; (try dsimp only at hSw); go_simp; try with_reducible rfl)
                try simp only [Act.put, List.setIfInBounds_toArray, List.set_cons_zero, List.set_cons_succ]
                refine wpAnyH_take (i := 8) (oi := { dst := some 36, op := Op.extract (Operand.tmp 28) 0, type := 29, pos := "law.go:62", after := #[{ on := 7, ground := Ground.data }], guard := none }) (v := ?v11) rfl (by kernel_rfl) (by kernel_rfl) (by kernel_rfl) (fun _ _ _ h => h) (Or.inl ⟨by rfl, ?y11⟩) hHeld ?r11
                case y11 => (intro w hSw; (try dsimp only at hSw); go_simp; try with_reducible rfl)
                try simp only [Act.put, List.setIfInBounds_toArray, List.set_cons_zero, List.set_cons_succ]
                refine wpAnyH_take (i := 9) (oi := { dst := some 37, op := Op.extract (Operand.tmp 28) 1, type := 48, pos := "law.go:62", after := #[{ on := 7, ground := Ground.data }, { on := 11, ground := Ground.gcOnly Departure.lateStores }], guard := none }) (v := ?v12) rfl (by kernel_rfl) (by kernel_rfl) (by kernel_rfl) (fun _ _ _ h => h) (Or.inl ⟨by rfl, ?y12⟩) hHeld ?r12
                case y12 => (intro w hSw; (try dsimp only at hSw); go_simp; try with_reducible rfl)
                try simp only [Act.put, List.setIfInBounds_toArray, List.set_cons_zero, List.set_cons_succ]
                refine wpAnyH_ready (rs := [11]) (by kernel_rfl) (by simp) ?_
                refine AllReadyH.cons (o := { dst := none, op := Op.store 29 (Operand.tmp 5) (Operand.tmp 36), type := 0, pos := "law.go:62", after := #[{ on := 10, ground := Ground.data }, { on := 8, ground := Ground.data }, { on := 6, ground := Ground.chain }, { on := 0, ground := Ground.phase }, { on := 1, ground := Ground.phase }, { on := 2, ground := Ground.phase }, { on := 3, ground := Ground.phase }, { on := 4, ground := Ground.phase }, { on := 5, ground := Ground.phase }, { on := 6, ground := Ground.phase }, { on := 7, ground := Ground.phase }, { on := 8, ground := Ground.phase }, { on := 9, ground := Ground.textOnly Departure.lateStores }, { on := 10, ground := Ground.phase }], guard := none }) rfl (fun K hK => ?_) ?_
                · clear hHeld
                  obtain ⟨w8, e1, hs⟩ := HR.out.store (fun h hb => h.keep hb)
                  go_simp
                  have HD := Lib.hid hs
                  clear hs e1 HR
                  refine hK.out _ _ ?_ (fun hHeld => ?_)
                  · first | exact HB.out.ld | exact (HA.out.b (fun h hb => h.keep hb)).ld | exact HC.out.1.ld | exact (HR.out.al.b (fun h hb => h.keep hb)).ld | exact HD.out.b.ld
                  clear hK K
                  try simp only [Act.put, List.setIfInBounds_toArray, List.set_cons_zero, List.set_cons_succ]
                  refine wpAnyH_take (i := 12) (oi := { dst := some 6, op := Op.assign (Operand.tmp 37), type := 48, pos := "law.go:62", after := #[{ on := 9, ground := Ground.data }, { on := 11, ground := Ground.chain }, { on := 0, ground := Ground.phase }, { on := 1, ground := Ground.phase }, { on := 2, ground := Ground.phase }, { on := 3, ground := Ground.phase }, { on := 4, ground := Ground.phase }, { on := 5, ground := Ground.phase }, { on := 6, ground := Ground.phase }, { on := 7, ground := Ground.phase }, { on := 8, ground := Ground.phase }, { on := 9, ground := Ground.phase }, { on := 10, ground := Ground.phase }, { on := 11, ground := Ground.phase }], guard := none }) (v := ?v13) rfl (by kernel_rfl) (by kernel_rfl) (by kernel_rfl) (fun _ _ _ h => h) (Or.inl ⟨by rfl, ?y13⟩) hHeld ?r13
                  case y13 => (intro w hSw; (try dsimp only at hSw); go_simp; try with_reducible rfl)
                  try simp only [Act.put, List.setIfInBounds_toArray, List.set_cons_zero, List.set_cons_succ]
                  refine wpAnyH_done (by kernel_rfl) ?_ _
                  go_wp2_with fail
                  go_meet
                  exact ⟨g, x3, sa3, c3, rfl, rfl, HD⟩
                exact AllReadyH.nil
              exact AllReadyH.nil
            exact AllReadyH.nil
          refine AllReadyH.cons (o := { dst := some 5, op := Op.alloc 29, type := 0, pos := "law.go:62", after := #[], guard := none }) rfl (fun K hK => ?_) ?_
          · clear hHeld
            first
              | (obtain ⟨g, w7, e1, e2, hs⟩ := al_new (B := Ak W x s y Q) HB.out; go_simp; (try simp only [e1, e2]); have HA := Lib.hid hs; clear HB)
              | (obtain ⟨g, w7, e1, e2, hs⟩ := ar_new (B := Ak W x s y Q) (P := PA) (fun h hb => h.keep hb) HC.out.1 HC.out.2; go_simp; (try simp only [e1, e2]); have HR := Lib.hid hs; clear HC)
            clear hs e1 e2
            refine hK.out _ _ ?_ (fun hHeld => ?_)
            · first | exact HB.out.ld | exact (HA.out.b (fun h hb => h.keep hb)).ld | exact HC.out.1.ld | exact (HR.out.al.b (fun h hb => h.keep hb)).ld | exact HD.out.b.ld
            clear hK K
            try simp only [Act.put, List.setIfInBounds_toArray, List.set_cons_zero, List.set_cons_succ]
            refine wpAnyH_ready (rs := [1]) (by kernel_rfl) (by simp) ?_
            refine AllReadyH.cons (o := { dst := some 30, op := Op.call { callee := Callee.value (Operand.func 12), args := #[Operand.tmp 29], argTypes := #[24] }, type := 29, pos := "law.go:62", after := #[{ on := 0, ground := Ground.data }], guard := none }) rfl (fun K hK => ?_) ?_
            · clear hHeld
              go_simp
              go_at_call 12
              with_reducible refine (CT.out _).mono ?_
              rintro e wa ⟨rfl, h⟩
              first | replace HB := Lib.hid (HB.out.keep h) | replace HA := Lib.hid (HA.out.keep h)
              clear h
              refine hK.out _ _ ?_ (fun hHeld => ?_)
              · first | exact HB.out.ld | exact (HA.out.b (fun h hb => h.keep hb)).ld | exact HC.out.1.ld | exact (HR.out.al.b (fun h hb => h.keep hb)).ld | exact HD.out.b.ld
              clear hK K
              try simp only [Act.put, List.setIfInBounds_toArray, List.set_cons_zero, List.set_cons_succ]
              refine wpAnyH_ready (rs := [6]) (by kernel_rfl) (by simp) ?_
              refine AllReadyH.cons (o := { dst := some 35, op := Op.call { callee := Callee.value (Operand.func 27), args := #[Operand.tmp 30, Operand.tmp 32, Operand.tmp 34], argTypes := #[29, 3, 47] }, type := 51, pos := "law.go:62", after := #[{ on := 1, ground := Ground.data }, { on := 3, ground := Ground.data }, { on := 5, ground := Ground.data }, { on := 1, ground := Ground.chain }], guard := none }) rfl (fun K hK => ?_) ?_
              · clear hHeld
                go_simp
                go_at_call 27
                first
                  | with_reducible refine (CA.out _ HB.out.a.v.lies).mono ?_
                  | with_reducible refine (CA.out _ (HA.out.b (fun h hb => h.keep hb)).a.v.lies).mono ?_
                rintro e wb ⟨x3, sa3, c3, rfl, hO, hI, hF⟩
                first
                  | (have HC := Lib.hid (And.intro (HB.out.keep hO.bel) (show Rs PA _ _ _ _ from ⟨hO.lies, hI⟩)); clear HB)
                  | (have HR := Lib.hid (Al.call (B := Ak W x s y Q) (P := PA) HA.out hO hI hF); clear HA)
                clear hO hI hF
                refine hK.out _ _ ?_ (fun hHeld => ?_)
                · first | exact HB.out.ld | exact (HA.out.b (fun h hb => h.keep hb)).ld | exact HC.out.1.ld | exact (HR.out.al.b (fun h hb => h.keep hb)).ld | exact HD.out.b.ld
                clear hK K
                try simp only [Act.put, List.setIfInBounds_toArray, List.set_cons_zero, List.set_cons_succ]
                refine wpAnyH_take (i := 7) (oi := { dst := some 28, op := Op.move (Operand.tmp 35), type := 51, pos := "law.go:62", after := #[{ on := 6, ground := Ground.data }], guard := none }) (v := ?v14) rfl (by kernel_rfl) (by kernel_rfl) (by kernel_rfl) (fun _ _ _ h => h) (Or.inl ⟨by rfl, ?y14⟩) hHeld ?r14
                case y14 => (intro w hSw; (try dsimp only at hSw); go_simp; try with_reducible rfl)
                try simp only [Act.put, List.setIfInBounds_toArray, List.set_cons_zero, List.set_cons_succ]
                refine wpAnyH_take (i := 8) (oi := { dst := some 36, op := Op.extract (Operand.tmp 28) 0, type := 29, pos := "law.go:62", after := #[{ on := 7, ground := Ground.data }], guard := none }) (v := ?v15) rfl (by kernel_rfl) (by kernel_rfl) (by kernel_rfl) (fun _ _ _ h => h) (Or.inl ⟨by rfl, ?y15⟩) hHeld ?r15
                case y15 => (intro w hSw; (try dsimp only at hSw); go_simp; try with_reducible rfl)
                try simp only [Act.put, List.setIfInBounds_toArray, List.set_cons_zero, List.set_cons_succ]
                refine wpAnyH_take (i := 9) (oi := { dst := some 37, op := Op.extract (Operand.tmp 28) 1, type := 48, pos := "law.go:62", after := #[{ on := 7, ground := Ground.data }, { on := 11, ground := Ground.gcOnly Departure.lateStores }], guard := none }) (v := ?v16) rfl (by kernel_rfl) (by kernel_rfl) (by kernel_rfl) (fun _ _ _ h => h) (Or.inl ⟨by rfl, ?y16⟩) hHeld ?r16
                case y16 => (intro w hSw; (try dsimp only at hSw); go_simp; try with_reducible rfl)
                try simp only [Act.put, List.setIfInBounds_toArray, List.set_cons_zero, List.set_cons_succ]
                refine wpAnyH_ready (rs := [11]) (by kernel_rfl) (by simp) ?_
                refine AllReadyH.cons (o := { dst := none, op := Op.store 29 (Operand.tmp 5) (Operand.tmp 36), type := 0, pos := "law.go:62", after := #[{ on := 10, ground := Ground.data }, { on := 8, ground := Ground.data }, { on := 6, ground := Ground.chain }, { on := 0, ground := Ground.phase }, { on := 1, ground := Ground.phase }, { on := 2, ground := Ground.phase }, { on := 3, ground := Ground.phase }, { on := 4, ground := Ground.phase }, { on := 5, ground := Ground.phase }, { on := 6, ground := Ground.phase }, { on := 7, ground := Ground.phase }, { on := 8, ground := Ground.phase }, { on := 9, ground := Ground.textOnly Departure.lateStores }, { on := 10, ground := Ground.phase }], guard := none }) rfl (fun K hK => ?_) ?_
                · clear hHeld
                  obtain ⟨w8, e1, hs⟩ := HR.out.store (fun h hb => h.keep hb)
                  go_simp
                  have HD := Lib.hid hs
                  clear hs e1 HR
                  refine hK.out _ _ ?_ (fun hHeld => ?_)
                  · first | exact HB.out.ld | exact (HA.out.b (fun h hb => h.keep hb)).ld | exact HC.out.1.ld | exact (HR.out.al.b (fun h hb => h.keep hb)).ld | exact HD.out.b.ld
                  clear hK K
                  try simp only [Act.put, List.setIfInBounds_toArray, List.set_cons_zero, List.set_cons_succ]
                  refine wpAnyH_take (i := 12) (oi := { dst := some 6, op := Op.assign (Operand.tmp 37), type := 48, pos := "law.go:62", after := #[{ on := 9, ground := Ground.data }, { on := 11, ground := Ground.chain }, { on := 0, ground := Ground.phase }, { on := 1, ground := Ground.phase }, { on := 2, ground := Ground.phase }, { on := 3, ground := Ground.phase }, { on := 4, ground := Ground.phase }, { on := 5, ground := Ground.phase }, { on := 6, ground := Ground.phase }, { on := 7, ground := Ground.phase }, { on := 8, ground := Ground.phase }, { on := 9, ground := Ground.phase }, { on := 10, ground := Ground.phase }, { on := 11, ground := Ground.phase }], guard := none }) (v := ?v17) rfl (by kernel_rfl) (by kernel_rfl) (by kernel_rfl) (fun _ _ _ h => h) (Or.inl ⟨by rfl, ?y17⟩) hHeld ?r17
                  case y17 => (intro w hSw; (try dsimp only at hSw); go_simp; try with_reducible rfl)
                  try simp only [Act.put, List.setIfInBounds_toArray, List.set_cons_zero, List.set_cons_succ]
                  refine wpAnyH_done (by kernel_rfl) ?_ _
                  go_wp2_with fail
                  go_meet
                  exact ⟨g, x3, sa3, c3, rfl, rfl, HD⟩
                exact AllReadyH.nil
              exact AllReadyH.nil
            exact AllReadyH.nil
          exact AllReadyH.nil
        case rest =>
          obtain ⟨ga, xa, sa, ca, rfl, rfl, HD3⟩ := hcut
          replace HB := Lib.hid HD3.out.b
          obtain ⟨l5, d05, d15, d25, d35⟩ := HB.out.ld
          go_wp2_with fail
          refine (CAr.out wc HB.out.v.lies).mono ?_
          rintro e w9 ⟨xb, sb, cb, rfl, hO, hI, -⟩
          obtain ⟨w10, hw10⟩ : ∃ w10, w9.alloc (.cells (Wv_.C xb) 24) = w10 := ⟨_, rfl⟩
          have hz10 := Wv_.storeF_zero w9 xb
          rw [hw10] at hz10
          have b9 : Below w9.heap.size w9 w10 := hw10 ▸ (Below.refl _ _).alloc (Nat.le_refl _) _
          have b10 : Below wc.heap.size wc w10 := hO.bel.trans (b9.mono hO.bel.size)
          replace HB := Lib.hid (show Ak2 W x s y Q PA ga w9.heap.size xa xb sa sb ca cb w10 from ⟨HB.out.keep b10, HD3.out.bx.below b10 HD3.out.bx.lt, HD3.out.rs.keep b10, hw10 ▸ Wv_.Box.new w9 xb, hO.lies.below b9, hI.below b9⟩)
          replace HB := Lib.hid (HB.out.keep (wj := w10.drew) ⟨rfl, rfl, rfl, Nat.le_refl _, fun _ _ => rfl⟩)
          clear hO hI b9 b10 HD3
          go_upto_region 5 with fail
          go_cut [9, 10] (fun p v wx => ∃ (g : Nat) (x3 : Wn) (s3 : Option Addr) (c : Nat), p = .pointer (some ⟨g, 0, none⟩) ∧ v = .slice s3 PM.2.length c ∧ Hid (Dn (Ak2 W x s y Q PA ga w9.heap.size xa xb sa sb ca cb) g PM x3 s3 c wx))
          case first =>
            refine wp_region_held_drew (S := (fun w' => (Wv_.LoadF ⟨W.heap.size, 0, none⟩).run Try.prog w' = .ok (Wv_.v x) w' ∧ w'.cell? ⟨W.heap.size + 1, 0, none⟩ = some (.int .i64 y.st) ∧ w'.cell? ⟨W.heap.size + 1, 1, none⟩ = some (.int .u64 y.m) ∧ w'.cell? ⟨W.heap.size + 1, 2, none⟩ = some (.slice y.sa y.n y.c) ∧ w'.cell? ⟨W.heap.size + 1, 3, none⟩ = some (.int .i64 y.lim))) (by kernel_rfl) ?_ (fun hHeld => ?_)
            · exact HB.out.ld
            refine wpAnyH_take (i := 0) (oi := { dst := some 48, op := Op.load 24 (Operand.tmp 2), type := 24, pos := "law.go:64", after := #[], guard := none }) (v := ?vb1) rfl (by kernel_rfl) (by kernel_rfl) (by kernel_rfl) (fun _ _ _ h => h) (Or.inl ⟨by rfl, ?yb1⟩) hHeld ?rb1
            case yb1 => (intro w hSw; (try dsimp only at hSw); go_simp; try with_reducible rfl)
            try simp only [Act.put, List.setIfInBounds_toArray, List.set_cons_zero, List.set_cons_succ]
            refine wpAnyH_take (i := 2) (oi := { dst := some 50, op := Op.fieldAddr 50 (Operand.tmp 3) 2, type := 0, pos := "law.go:64", after := #[], guard := none }) (v := ?vb2) rfl (by kernel_rfl) (by kernel_rfl) (by kernel_rfl) (fun _ _ _ h => h) (Or.inl ⟨by rfl, ?yb2⟩) hHeld ?rb2
            case yb2 => (intro w hSw; (try dsimp only at hSw); go_simp; try with_reducible rfl)
            try simp only [Act.put, List.setIfInBounds_toArray, List.set_cons_zero, List.set_cons_succ]
            refine wpAnyH_take (i := 3) (oi := { dst := some 51, op := Op.load 48 (Operand.tmp 50), type := 48, pos := "law.go:64", after := #[{ on := 2, ground := Ground.data }], guard := none }) (v := ?vb3) rfl (by kernel_rfl) (by kernel_rfl) (by kernel_rfl) (fun _ _ _ h => h) (Or.inl ⟨by rfl, ?yb3⟩) hHeld ?rb3
            case yb3 => (intro w hSw; (try dsimp only at hSw); go_simp; try with_reducible rfl)
            try simp only [Act.put, List.setIfInBounds_toArray, List.set_cons_zero, List.set_cons_succ]
            refine wpAnyH_take (i := 4) (oi := { dst := some 52, op := Op.fieldAddr 50 (Operand.tmp 3) 3, type := 0, pos := "law.go:64", after := #[], guard := none }) (v := ?vb4) rfl (by kernel_rfl) (by kernel_rfl) (by kernel_rfl) (fun _ _ _ h => h) (Or.inl ⟨by rfl, ?yb4⟩) hHeld ?rb4
            case yb4 => (intro w hSw; (try dsimp only at hSw); go_simp; try with_reducible rfl)
            try simp only [Act.put, List.setIfInBounds_toArray, List.set_cons_zero, List.set_cons_succ]
            refine wpAnyH_take (i := 5) (oi := { dst := some 53, op := Op.load 3 (Operand.tmp 52), type := 3, pos := "law.go:64", after := #[{ on := 4, ground := Ground.data }], guard := none }) (v := ?vb5) rfl (by kernel_rfl) (by kernel_rfl) (by kernel_rfl) (fun _ _ _ h => h) (Or.inl ⟨by rfl, ?yb5⟩) hHeld ?rb5
            case yb5 => (intro w hSw; (try dsimp only at hSw); go_simp; try with_reducible rfl)
            try simp only [Act.put, List.setIfInBounds_toArray, List.set_cons_zero, List.set_cons_succ]
            refine wpAnyH_ready (rs := [1, 10]) (by kernel_rfl) (by simp) ?_
            refine AllReadyH.cons (o := { dst := some 49, op := Op.call { callee := Callee.value (Operand.func 12), args := #[Operand.tmp 48], argTypes := #[24] }, type := 29, pos := "law.go:64", after := #[{ on := 0, ground := Ground.data }], guard := none }) rfl (fun K hK => ?_) ?_
            · clear hHeld
              go_simp
              go_at_call 12
              with_reducible refine (CT.out _).mono ?_
              rintro e wa ⟨rfl, h⟩
              first | replace HB := Lib.hid (HB.out.keep h) | replace HA := Lib.hid (HA.out.keep h)
              clear h
              refine hK.out _ _ ?_ (fun hHeld => ?_)
              · first | exact HB.out.ld | exact (HA.out.b (fun h hb => h.keep hb)).ld | exact HC.out.1.ld | exact (HR.out.al.b (fun h hb => h.keep hb)).ld | exact HD.out.b.ld
              clear hK K
              try simp only [Act.put, List.setIfInBounds_toArray, List.set_cons_zero, List.set_cons_succ]
              refine wpAnyH_ready (rs := [6, 10]) (by kernel_rfl) (by simp) ?_
              refine AllReadyH.cons (o := { dst := some 54, op := Op.call { callee := Callee.value (Operand.func 29), args := #[Operand.tmp 49, Operand.tmp 51, Operand.tmp 53], argTypes := #[29, 48, 3] }, type := 51, pos := "law.go:64", after := #[{ on := 1, ground := Ground.data }, { on := 3, ground := Ground.data }, { on := 5, ground := Ground.data }, { on := 1, ground := Ground.chain }], guard := none }) rfl (fun K hK => ?_) ?_
              · clear hHeld
                go_simp
                go_at_call 29
                first
                  | with_reducible refine (CM.out _ HB.out.a.v.lies HB.out.a.q.sl).mono ?_
                  | with_reducible refine (CM.out _ (HA.out.b (fun h hb => h.keep hb)).a.v.lies (HA.out.b (fun h hb => h.keep hb)).a.q.sl).mono ?_
                rintro e wb ⟨x3, sa3, c3, rfl, hO, hI, hF⟩
                first
                  | (have HC := Lib.hid (And.intro (HB.out.keep hO.bel) (show Rs PM _ _ _ _ from ⟨hO.lies, hI⟩)); clear HB)
                  | (have HR := Lib.hid (Al.call (B := Ak2 W x s y Q PA ga w9.heap.size xa xb sa sb ca cb) (P := PM) HA.out hO hI hF); clear HA)
                clear hO hI hF
                refine hK.out _ _ ?_ (fun hHeld => ?_)
                · first | exact HB.out.ld | exact (HA.out.b (fun h hb => h.keep hb)).ld | exact HC.out.1.ld | exact (HR.out.al.b (fun h hb => h.keep hb)).ld | exact HD.out.b.ld
                clear hK K
                try simp only [Act.put, List.setIfInBounds_toArray, List.set_cons_zero, List.set_cons_succ]
                refine wpAnyH_take (i := 7) (oi := { dst := some 47, op := Op.move (Operand.tmp 54), type := 51, pos := "law.go:64", after := #[{ on := 6, ground := Ground.data }], guard := none }) (v := ?vb6) rfl (by kernel_rfl) (by kernel_rfl) (by kernel_rfl) (fun _ _ _ h => h) (Or.inl ⟨by rfl, ?yb6⟩) hHeld ?rb6
                case yb6 => (intro w hSw; (try dsimp only at hSw); go_simp; try with_reducible rfl)
                try simp only [Act.put, List.setIfInBounds_toArray, List.set_cons_zero, List.set_cons_succ]
                refine wpAnyH_take (i := 8) (oi := { dst := some 55, op := Op.extract (Operand.tmp 47) 0, type := 29, pos := "law.go:64", after := #[{ on := 7, ground := Ground.data }], guard := none }) (v := ?vb7) rfl (by kernel_rfl) (by kernel_rfl) (by kernel_rfl) (fun _ _ _ h => h) (Or.inl ⟨by rfl, ?yb7⟩) hHeld ?rb7
                case yb7 => (intro w hSw; (try dsimp only at hSw); go_simp; try with_reducible rfl)
                try simp only [Act.put, List.setIfInBounds_toArray, List.set_cons_zero, List.set_cons_succ]
                refine wpAnyH_take (i := 9) (oi := { dst := some 56, op := Op.extract (Operand.tmp 47) 1, type := 48, pos := "law.go:64", after := #[{ on := 7, ground := Ground.data }, { on := 11, ground := Ground.gcOnly Departure.lateStores }], guard := none }) (v := ?vb8) rfl (by kernel_rfl) (by kernel_rfl) (by kernel_rfl) (fun _ _ _ h => h) (Or.inl ⟨by rfl, ?yb8⟩) hHeld ?rb8
                case yb8 => (intro w hSw; (try dsimp only at hSw); go_simp; try with_reducible rfl)
                try simp only [Act.put, List.setIfInBounds_toArray, List.set_cons_zero, List.set_cons_succ]
                refine wpAnyH_ready (rs := [10]) (by kernel_rfl) (by simp) ?_
                refine AllReadyH.cons (o := { dst := some 9, op := Op.alloc 29, type := 0, pos := "law.go:64", after := #[], guard := none }) rfl (fun K hK => ?_) ?_
                · clear hHeld
                  first
                    | (obtain ⟨g, w7, e1, e2, hs⟩ := al_new (B := Ak2 W x s y Q PA ga w9.heap.size xa xb sa sb ca cb) HB.out; go_simp; (try simp only [e1, e2]); have HA := Lib.hid hs; clear HB)
                    | (obtain ⟨g, w7, e1, e2, hs⟩ := ar_new (B := Ak2 W x s y Q PA ga w9.heap.size xa xb sa sb ca cb) (P := PM) (fun h hb => h.keep hb) HC.out.1 HC.out.2; go_simp; (try simp only [e1, e2]); have HR := Lib.hid hs; clear HC)
                  clear hs e1 e2
                  refine hK.out _ _ ?_ (fun hHeld => ?_)
                  · first | exact HB.out.ld | exact (HA.out.b (fun h hb => h.keep hb)).ld | exact HC.out.1.ld | exact (HR.out.al.b (fun h hb => h.keep hb)).ld | exact HD.out.b.ld
                  clear hK K
                  try simp only [Act.put, List.setIfInBounds_toArray, List.set_cons_zero, List.set_cons_succ]
                  refine wpAnyH_ready (rs := [11]) (by kernel_rfl) (by simp) ?_
                  refine AllReadyH.cons (o := { dst := none, op := Op.store 29 (Operand.tmp 9) (Operand.tmp 55), type := 0, pos := "law.go:64", after := #[{ on := 10, ground := Ground.data }, { on := 8, ground := Ground.data }, { on := 6, ground := Ground.chain }, { on := 0, ground := Ground.phase }, { on := 1, ground := Ground.phase }, { on := 2, ground := Ground.phase }, { on := 3, ground := Ground.phase }, { on := 4, ground := Ground.phase }, { on := 5, ground := Ground.phase }, { on := 6, ground := Ground.phase }, { on := 7, ground := Ground.phase }, { on := 8, ground := Ground.phase }, { on := 9, ground := Ground.textOnly Departure.lateStores }, { on := 10, ground := Ground.phase }], guard := none }) rfl (fun K hK => ?_) ?_
                  · clear hHeld
                    obtain ⟨w8, e1, hs⟩ := HR.out.store (fun h hb => h.keep hb)
                    go_simp
                    have HD := Lib.hid hs
                    clear hs e1 HR
                    refine hK.out _ _ ?_ (fun hHeld => ?_)
                    · first | exact HB.out.ld | exact (HA.out.b (fun h hb => h.keep hb)).ld | exact HC.out.1.ld | exact (HR.out.al.b (fun h hb => h.keep hb)).ld | exact HD.out.b.ld
                    clear hK K
                    try simp only [Act.put, List.setIfInBounds_toArray, List.set_cons_zero, List.set_cons_succ]
                    refine wpAnyH_take (i := 12) (oi := { dst := some 10, op := Op.assign (Operand.tmp 56), type := 48, pos := "law.go:64", after := #[{ on := 9, ground := Ground.data }, { on := 11, ground := Ground.chain }, { on := 0, ground := Ground.phase }, { on := 1, ground := Ground.phase }, { on := 2, ground := Ground.phase }, { on := 3, ground := Ground.phase }, { on := 4, ground := Ground.phase }, { on := 5, ground := Ground.phase }, { on := 6, ground := Ground.phase }, { on := 7, ground := Ground.phase }, { on := 8, ground := Ground.phase }, { on := 9, ground := Ground.phase }, { on := 10, ground := Ground.phase }, { on := 11, ground := Ground.phase }], guard := none }) (v := ?vb9) rfl (by kernel_rfl) (by kernel_rfl) (by kernel_rfl) (fun _ _ _ h => h) (Or.inl ⟨by rfl, ?yb9⟩) hHeld ?rb9
                    case yb9 => (intro w hSw; (try dsimp only at hSw); go_simp; try with_reducible rfl)
                    try simp only [Act.put, List.setIfInBounds_toArray, List.set_cons_zero, List.set_cons_succ]
                    refine wpAnyH_done (by kernel_rfl) ?_ _
                    go_wp2_with fail
                    go_meet
                    exact ⟨g, x3, sa3, c3, rfl, rfl, HD⟩
                  exact AllReadyH.nil
                exact AllReadyH.nil
              refine AllReadyH.cons (o := { dst := some 9, op := Op.alloc 29, type := 0, pos := "law.go:64", after := #[], guard := none }) rfl (fun K hK => ?_) ?_
              · clear hHeld
                first
                  | (obtain ⟨g, w7, e1, e2, hs⟩ := al_new (B := Ak2 W x s y Q PA ga w9.heap.size xa xb sa sb ca cb) HB.out; go_simp; (try simp only [e1, e2]); have HA := Lib.hid hs; clear HB)
                  | (obtain ⟨g, w7, e1, e2, hs⟩ := ar_new (B := Ak2 W x s y Q PA ga w9.heap.size xa xb sa sb ca cb) (P := PM) (fun h hb => h.keep hb) HC.out.1 HC.out.2; go_simp; (try simp only [e1, e2]); have HR := Lib.hid hs; clear HC)
                clear hs e1 e2
                refine hK.out _ _ ?_ (fun hHeld => ?_)
                · first | exact HB.out.ld | exact (HA.out.b (fun h hb => h.keep hb)).ld | exact HC.out.1.ld | exact (HR.out.al.b (fun h hb => h.keep hb)).ld | exact HD.out.b.ld
                clear hK K
                try simp only [Act.put, List.setIfInBounds_toArray, List.set_cons_zero, List.set_cons_succ]
                refine wpAnyH_ready (rs := [6]) (by kernel_rfl) (by simp) ?_
                refine AllReadyH.cons (o := { dst := some 54, op := Op.call { callee := Callee.value (Operand.func 29), args := #[Operand.tmp 49, Operand.tmp 51, Operand.tmp 53], argTypes := #[29, 48, 3] }, type := 51, pos := "law.go:64", after := #[{ on := 1, ground := Ground.data }, { on := 3, ground := Ground.data }, { on := 5, ground := Ground.data }, { on := 1, ground := Ground.chain }], guard := none }) rfl (fun K hK => ?_) ?_
                · clear hHeld
                  go_simp
                  go_at_call 29
                  first
                    | with_reducible refine (CM.out _ HB.out.a.v.lies HB.out.a.q.sl).mono ?_
                    | with_reducible refine (CM.out _ (HA.out.b (fun h hb => h.keep hb)).a.v.lies (HA.out.b (fun h hb => h.keep hb)).a.q.sl).mono ?_
                  rintro e wb ⟨x3, sa3, c3, rfl, hO, hI, hF⟩
                  first
                    | (have HC := Lib.hid (And.intro (HB.out.keep hO.bel) (show Rs PM _ _ _ _ from ⟨hO.lies, hI⟩)); clear HB)
                    | (have HR := Lib.hid (Al.call (B := Ak2 W x s y Q PA ga w9.heap.size xa xb sa sb ca cb) (P := PM) HA.out hO hI hF); clear HA)
                  clear hO hI hF
                  refine hK.out _ _ ?_ (fun hHeld => ?_)
                  · first | exact HB.out.ld | exact (HA.out.b (fun h hb => h.keep hb)).ld | exact HC.out.1.ld | exact (HR.out.al.b (fun h hb => h.keep hb)).ld | exact HD.out.b.ld
                  clear hK K
                  try simp only [Act.put, List.setIfInBounds_toArray, List.set_cons_zero, List.set_cons_succ]
                  refine wpAnyH_take (i := 7) (oi := { dst := some 47, op := Op.move (Operand.tmp 54), type := 51, pos := "law.go:64", after := #[{ on := 6, ground := Ground.data }], guard := none }) (v := ?vb10) rfl (by kernel_rfl) (by kernel_rfl) (by kernel_rfl) (fun _ _ _ h => h) (Or.inl ⟨by rfl, ?yb10⟩) hHeld ?rb10
                  case yb10 => (intro w hSw; (try dsimp only at hSw); go_simp; try with_reducible rfl)
                  try simp only [Act.put, List.setIfInBounds_toArray, List.set_cons_zero, List.set_cons_succ]
                  refine wpAnyH_take (i := 8) (oi := { dst := some 55, op := Op.extract (Operand.tmp 47) 0, type := 29, pos := "law.go:64", after := #[{ on := 7, ground := Ground.data }], guard := none }) (v := ?vb11) rfl (by kernel_rfl) (by kernel_rfl) (by kernel_rfl) (fun _ _ _ h => h) (Or.inl ⟨by rfl, ?yb11⟩) hHeld ?rb11
                  case yb11 => (intro w hSw; (try dsimp only at hSw); go_simp; try with_reducible rfl)
                  try simp only [Act.put, List.setIfInBounds_toArray, List.set_cons_zero, List.set_cons_succ]
                  refine wpAnyH_take (i := 9) (oi := { dst := some 56, op := Op.extract (Operand.tmp 47) 1, type := 48, pos := "law.go:64", after := #[{ on := 7, ground := Ground.data }, { on := 11, ground := Ground.gcOnly Departure.lateStores }], guard := none }) (v := ?vb12) rfl (by kernel_rfl) (by kernel_rfl) (by kernel_rfl) (fun _ _ _ h => h) (Or.inl ⟨by rfl, ?yb12⟩) hHeld ?rb12
                  case yb12 => (intro w hSw; (try dsimp only at hSw); go_simp; try with_reducible rfl)
                  try simp only [Act.put, List.setIfInBounds_toArray, List.set_cons_zero, List.set_cons_succ]
                  refine wpAnyH_ready (rs := [11]) (by kernel_rfl) (by simp) ?_
                  refine AllReadyH.cons (o := { dst := none, op := Op.store 29 (Operand.tmp 9) (Operand.tmp 55), type := 0, pos := "law.go:64", after := #[{ on := 10, ground := Ground.data }, { on := 8, ground := Ground.data }, { on := 6, ground := Ground.chain }, { on := 0, ground := Ground.phase }, { on := 1, ground := Ground.phase }, { on := 2, ground := Ground.phase }, { on := 3, ground := Ground.phase }, { on := 4, ground := Ground.phase }, { on := 5, ground := Ground.phase }, { on := 6, ground := Ground.phase }, { on := 7, ground := Ground.phase }, { on := 8, ground := Ground.phase }, { on := 9, ground := Ground.textOnly Departure.lateStores }, { on := 10, ground := Ground.phase }], guard := none }) rfl (fun K hK => ?_) ?_
                  · clear hHeld
                    obtain ⟨w8, e1, hs⟩ := HR.out.store (fun h hb => h.keep hb)
                    go_simp
                    have HD := Lib.hid hs
                    clear hs e1 HR
                    refine hK.out _ _ ?_ (fun hHeld => ?_)
                    · first | exact HB.out.ld | exact (HA.out.b (fun h hb => h.keep hb)).ld | exact HC.out.1.ld | exact (HR.out.al.b (fun h hb => h.keep hb)).ld | exact HD.out.b.ld
                    clear hK K
                    try simp only [Act.put, List.setIfInBounds_toArray, List.set_cons_zero, List.set_cons_succ]
                    refine wpAnyH_take (i := 12) (oi := { dst := some 10, op := Op.assign (Operand.tmp 56), type := 48, pos := "law.go:64", after := #[{ on := 9, ground := Ground.data }, { on := 11, ground := Ground.chain }, { on := 0, ground := Ground.phase }, { on := 1, ground := Ground.phase }, { on := 2, ground := Ground.phase }, { on := 3, ground := Ground.phase }, { on := 4, ground := Ground.phase }, { on := 5, ground := Ground.phase }, { on := 6, ground := Ground.phase }, { on := 7, ground := Ground.phase }, { on := 8, ground := Ground.phase }, { on := 9, ground := Ground.phase }, { on := 10, ground := Ground.phase }, { on := 11, ground := Ground.phase }], guard := none }) (v := ?vb13) rfl (by kernel_rfl) (by kernel_rfl) (by kernel_rfl) (fun _ _ _ h => h) (Or.inl ⟨by rfl, ?yb13⟩) hHeld ?rb13
                    case yb13 => (intro w hSw; (try dsimp only at hSw); go_simp; try with_reducible rfl)
                    try simp only [Act.put, List.setIfInBounds_toArray, List.set_cons_zero, List.set_cons_succ]
                    refine wpAnyH_done (by kernel_rfl) ?_ _
                    go_wp2_with fail
                    go_meet
                    exact ⟨g, x3, sa3, c3, rfl, rfl, HD⟩
                  exact AllReadyH.nil
                exact AllReadyH.nil
              exact AllReadyH.nil
            refine AllReadyH.cons (o := { dst := some 9, op := Op.alloc 29, type := 0, pos := "law.go:64", after := #[], guard := none }) rfl (fun K hK => ?_) ?_
            · clear hHeld
              first
                | (obtain ⟨g, w7, e1, e2, hs⟩ := al_new (B := Ak2 W x s y Q PA ga w9.heap.size xa xb sa sb ca cb) HB.out; go_simp; (try simp only [e1, e2]); have HA := Lib.hid hs; clear HB)
                | (obtain ⟨g, w7, e1, e2, hs⟩ := ar_new (B := Ak2 W x s y Q PA ga w9.heap.size xa xb sa sb ca cb) (P := PM) (fun h hb => h.keep hb) HC.out.1 HC.out.2; go_simp; (try simp only [e1, e2]); have HR := Lib.hid hs; clear HC)
              clear hs e1 e2
              refine hK.out _ _ ?_ (fun hHeld => ?_)
              · first | exact HB.out.ld | exact (HA.out.b (fun h hb => h.keep hb)).ld | exact HC.out.1.ld | exact (HR.out.al.b (fun h hb => h.keep hb)).ld | exact HD.out.b.ld
              clear hK K
              try simp only [Act.put, List.setIfInBounds_toArray, List.set_cons_zero, List.set_cons_succ]
              refine wpAnyH_ready (rs := [1]) (by kernel_rfl) (by simp) ?_
              refine AllReadyH.cons (o := { dst := some 49, op := Op.call { callee := Callee.value (Operand.func 12), args := #[Operand.tmp 48], argTypes := #[24] }, type := 29, pos := "law.go:64", after := #[{ on := 0, ground := Ground.data }], guard := none }) rfl (fun K hK => ?_) ?_
              · clear hHeld
                go_simp
                go_at_call 12
                with_reducible refine (CT.out _).mono ?_
                rintro e wa ⟨rfl, h⟩
                first | replace HB := Lib.hid (HB.out.keep h) | replace HA := Lib.hid (HA.out.keep h)
                clear h
                refine hK.out _ _ ?_ (fun hHeld => ?_)
                · first | exact HB.out.ld | exact (HA.out.b (fun h hb => h.keep hb)).ld | exact HC.out.1.ld | exact (HR.out.al.b (fun h hb => h.keep hb)).ld | exact HD.out.b.ld
                clear hK K
                try simp only [Act.put, List.setIfInBounds_toArray, List.set_cons_zero, List.set_cons_succ]
                refine wpAnyH_ready (rs := [6]) (by kernel_rfl) (by simp) ?_
                refine AllReadyH.cons (o := { dst := some 54, op := Op.call { callee := Callee.value (Operand.func 29), args := #[Operand.tmp 49, Operand.tmp 51, Operand.tmp 53], argTypes := #[29, 48, 3] }, type := 51, pos := "law.go:64", after := #[{ on := 1, ground := Ground.data }, { on := 3, ground := Ground.data }, { on := 5, ground := Ground.data }, { on := 1, ground := Ground.chain }], guard := none }) rfl (fun K hK => ?_) ?_
                · clear hHeld
                  go_simp
                  go_at_call 29
                  first
                    | with_reducible refine (CM.out _ HB.out.a.v.lies HB.out.a.q.sl).mono ?_
                    | with_reducible refine (CM.out _ (HA.out.b (fun h hb => h.keep hb)).a.v.lies (HA.out.b (fun h hb => h.keep hb)).a.q.sl).mono ?_
                  rintro e wb ⟨x3, sa3, c3, rfl, hO, hI, hF⟩
                  first
                    | (have HC := Lib.hid (And.intro (HB.out.keep hO.bel) (show Rs PM _ _ _ _ from ⟨hO.lies, hI⟩)); clear HB)
                    | (have HR := Lib.hid (Al.call (B := Ak2 W x s y Q PA ga w9.heap.size xa xb sa sb ca cb) (P := PM) HA.out hO hI hF); clear HA)
                  clear hO hI hF
                  refine hK.out _ _ ?_ (fun hHeld => ?_)
                  · first | exact HB.out.ld | exact (HA.out.b (fun h hb => h.keep hb)).ld | exact HC.out.1.ld | exact (HR.out.al.b (fun h hb => h.keep hb)).ld | exact HD.out.b.ld
                  clear hK K
                  try simp only [Act.put, List.setIfInBounds_toArray, List.set_cons_zero, List.set_cons_succ]
                  refine wpAnyH_take (i := 7) (oi := { dst := some 47, op := Op.move (Operand.tmp 54), type := 51, pos := "law.go:64", after := #[{ on := 6, ground := Ground.data }], guard := none }) (v := ?vb14) rfl (by kernel_rfl) (by kernel_rfl) (by kernel_rfl) (fun _ _ _ h => h) (Or.inl ⟨by rfl, ?yb14⟩) hHeld ?rb14
                  case yb14 => (intro w hSw; (try dsimp only at hSw); go_simp; try with_reducible rfl)
                  try simp only [Act.put, List.setIfInBounds_toArray, List.set_cons_zero, List.set_cons_succ]
                  refine wpAnyH_take (i := 8) (oi := { dst := some 55, op := Op.extract (Operand.tmp 47) 0, type := 29, pos := "law.go:64", after := #[{ on := 7, ground := Ground.data }], guard := none }) (v := ?vb15) rfl (by kernel_rfl) (by kernel_rfl) (by kernel_rfl) (fun _ _ _ h => h) (Or.inl ⟨by rfl, ?yb15⟩) hHeld ?rb15
                  case yb15 => (intro w hSw; (try dsimp only at hSw); go_simp; try with_reducible rfl)
                  try simp only [Act.put, List.setIfInBounds_toArray, List.set_cons_zero, List.set_cons_succ]
                  refine wpAnyH_take (i := 9) (oi := { dst := some 56, op := Op.extract (Operand.tmp 47) 1, type := 48, pos := "law.go:64", after := #[{ on := 7, ground := Ground.data }, { on := 11, ground := Ground.gcOnly Departure.lateStores }], guard := none }) (v := ?vb16) rfl (by kernel_rfl) (by kernel_rfl) (by kernel_rfl) (fun _ _ _ h => h) (Or.inl ⟨by rfl, ?yb16⟩) hHeld ?rb16
                  case yb16 => (intro w hSw; (try dsimp only at hSw); go_simp; try with_reducible rfl)
                  try simp only [Act.put, List.setIfInBounds_toArray, List.set_cons_zero, List.set_cons_succ]
                  refine wpAnyH_ready (rs := [11]) (by kernel_rfl) (by simp) ?_
                  refine AllReadyH.cons (o := { dst := none, op := Op.store 29 (Operand.tmp 9) (Operand.tmp 55), type := 0, pos := "law.go:64", after := #[{ on := 10, ground := Ground.data }, { on := 8, ground := Ground.data }, { on := 6, ground := Ground.chain }, { on := 0, ground := Ground.phase }, { on := 1, ground := Ground.phase }, { on := 2, ground := Ground.phase }, { on := 3, ground := Ground.phase }, { on := 4, ground := Ground.phase }, { on := 5, ground := Ground.phase }, { on := 6, ground := Ground.phase }, { on := 7, ground := Ground.phase }, { on := 8, ground := Ground.phase }, { on := 9, ground := Ground.textOnly Departure.lateStores }, { on := 10, ground := Ground.phase }], guard := none }) rfl (fun K hK => ?_) ?_
                  · clear hHeld
                    obtain ⟨w8, e1, hs⟩ := HR.out.store (fun h hb => h.keep hb)
                    go_simp
                    have HD := Lib.hid hs
                    clear hs e1 HR
                    refine hK.out _ _ ?_ (fun hHeld => ?_)
                    · first | exact HB.out.ld | exact (HA.out.b (fun h hb => h.keep hb)).ld | exact HC.out.1.ld | exact (HR.out.al.b (fun h hb => h.keep hb)).ld | exact HD.out.b.ld
                    clear hK K
                    try simp only [Act.put, List.setIfInBounds_toArray, List.set_cons_zero, List.set_cons_succ]
                    refine wpAnyH_take (i := 12) (oi := { dst := some 10, op := Op.assign (Operand.tmp 56), type := 48, pos := "law.go:64", after := #[{ on := 9, ground := Ground.data }, { on := 11, ground := Ground.chain }, { on := 0, ground := Ground.phase }, { on := 1, ground := Ground.phase }, { on := 2, ground := Ground.phase }, { on := 3, ground := Ground.phase }, { on := 4, ground := Ground.phase }, { on := 5, ground := Ground.phase }, { on := 6, ground := Ground.phase }, { on := 7, ground := Ground.phase }, { on := 8, ground := Ground.phase }, { on := 9, ground := Ground.phase }, { on := 10, ground := Ground.phase }, { on := 11, ground := Ground.phase }], guard := none }) (v := ?vb17) rfl (by kernel_rfl) (by kernel_rfl) (by kernel_rfl) (fun _ _ _ h => h) (Or.inl ⟨by rfl, ?yb17⟩) hHeld ?rb17
                    case yb17 => (intro w hSw; (try dsimp only at hSw); go_simp; try with_reducible rfl)
                    try simp only [Act.put, List.setIfInBounds_toArray, List.set_cons_zero, List.set_cons_succ]
                    refine wpAnyH_done (by kernel_rfl) ?_ _
                    go_wp2_with fail
                    go_meet
                    exact ⟨g, x3, sa3, c3, rfl, rfl, HD⟩
                  exact AllReadyH.nil
                exact AllReadyH.nil
              exact AllReadyH.nil
            exact AllReadyH.nil
          case rest =>
            obtain ⟨gc, xc, sc, cc, rfl, rfl, HD5⟩ := hcut
            have HC := Lib.hid HD5.out.b
            obtain ⟨l7, d07, d17, d27, d37⟩ := HC.out.ld
            go_wp2_with fail
            refine (CMr.out _ HC.out.a.v.lies HC.out.a.q.sl).mono ?_
            rintro e w11 ⟨xd, sd, cd, rfl, hO, hI, -⟩
            obtain ⟨w12, hw12⟩ : ∃ w12, w11.alloc (.cells (Wv_.C xd) 24) = w12 := ⟨_, rfl⟩
            have hz12 := Wv_.storeF_zero w11 xd
            rw [hw12] at hz12
            have b11 : Below w11.heap.size w11 w12 := hw12 ▸ (Below.refl _ _).alloc (Nat.le_refl _) _
            have b12 := hO.bel.trans (b11.mono hO.bel.size)
            have HE := Lib.hid (show Ak3 W x s y Q PA ga w9.heap.size xa xb sa sb ca cb PM gc w11.heap.size xc xd sc sd cc cd w12 from ⟨HC.out.keep b12, HD5.out.bx.below b12 HD5.out.bx.lt, HD5.out.rs.keep b12, hw12 ▸ Wv_.Box.new w11 xd, hO.lies.below b11, hI.below b11⟩)
            obtain ⟨m1, m2, m3, m4⟩ := HE.out.ld
            clear hO hI b11 b12 HD5 HC
            go_wp2_with (first
              | (go_at_call 14; with_reducible refine (CS1.out xa xb w12 HE.out.k.rs.lies HE.out.k.rv.lies).mono ?_; rintro e w13 ⟨rfl, h⟩; replace HE := Lib.hid (HE.out.keep h); obtain ⟨m13, m23, m33, m43⟩ := HE.out.ld; clear h)
              | (go_at_call 31; with_reducible refine (CI1.out sa sb ca cb w13 HE.out.k.rs.ids HE.out.k.rv.ids).mono ?_; rintro e w14 ⟨rfl, h⟩; replace HE := Lib.hid (HE.out.keep h); obtain ⟨m14, m24, m34, m44⟩ := HE.out.ld; clear h)
              | (go_at_call 14; with_reducible refine (CS2.out xc xd w14 HE.out.rs.lies HE.out.rv.lies).mono ?_; rintro e w15 ⟨rfl, h⟩; replace HE := Lib.hid (HE.out.keep h); clear h)
              | (go_at_call 31; with_reducible refine (CI2.out sc sd cc cd w15 HE.out.rs.ids HE.out.rv.ids).mono ?_; rintro e w16 ⟨rfl, h⟩; replace HE := Lib.hid (HE.out.keep h); clear h)
              | (go_at_call 10; refine (CL.out w16).mono ?_; rintro e w17 ⟨rfl, h⟩; replace HE := Lib.hid (HE.out.keep h); clear h))
            go_returns
            exact ⟨rfl, HE.out.k.a.v.bel⟩
      · have hK' : (chk s != 0) = true := by simpa using hK
        generalize chk s = K at *
        clear hK hl hn hQ
        go_enter Try.func5, Try.ntmps5
        go_wp2_with (first
          | (go_at_call 9; refine (CF.out _).mono ?_; rintro e w2 ⟨rfl, hw2⟩; replace HB := Lib.hid (HB.out.keep hw2); obtain ⟨l2, d02, d12, d22, d32⟩ := HB.out.ld; clear hw2)
          | (go_at_call 13; refine (CR.out w2 HB.out.v.lies).mono ?_; rintro e w3 ⟨rfl, hw3⟩; replace HB := Lib.hid (HB.out.keep hw3); clear hw3)
          | (go_at_call 10; refine (CL.out w3).mono ?_; rintro e w4 ⟨rfl, hw4⟩; replace HB := Lib.hid (HB.out.keep hw4); clear hw4))
        go_returns
        exact ⟨rfl, HB.out.v.bel⟩
    · have h100' : (100 : Int) < (y.n : Int) := by omega
      clear hn
      go_enter Try.func5, Try.ntmps5
      go_wp2_with (first
        | (go_at_call 9; refine (CF.out _).mono ?_; rintro e w2 ⟨rfl, hw2⟩; replace HB := Lib.hid (HB.out.keep hw2); obtain ⟨l2, d02, d12, d22, d32⟩ := HB.out.ld; clear hw2)
        | (go_at_call 10; refine (CL.out w2).mono ?_; rintro e w3 ⟨rfl, hw3⟩; replace HB := Lib.hid (HB.out.keep hw3); clear hw3))
      go_returns
      exact ⟨rfl, HB.out.v.bel⟩
  · rw [decide_eq_false h70] at CF
    clear hn
    go_enter Try.func5, Try.ntmps5
    go_wp2_with (first
      | (go_at_call 9; refine (CF.out _).mono ?_; rintro e w2 ⟨rfl, hw2⟩; replace HB := Lib.hid (HB.out.keep hw2); clear hw2)
      | (go_at_call 10; refine (CL.out w2).mono ?_; rintro e w3 ⟨rfl, hw3⟩; replace HB := Lib.hid (HB.out.keep hw3); clear hw3))
    go_returns
    exact ⟨rfl, HB.out.v.bel⟩
end Go.Proofs.Ytldeflpaghbmmaa
