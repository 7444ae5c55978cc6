/-
  THE LAW SpansOne, over the contracts.
-/
import Derived.Test.YtjfhkheedcpimaaSpLaws
namespace Go.Proofs.Ytjfhkheedcpimaa
open Go.RowKit Go.Sp

/-- A block of two cells holds a span. -/
def Two (w : World) (g : Nat) (s : Sp) : Prop := w.cell? ⟨g, 0, none⟩ = some (.int .i64 s.f) ∧ w.cell? ⟨g, 1, none⟩ = some (.int .i64 s.t) ∧ g < w.heap.size
theorem Two.below {w w' : World} {g : Nat} {s : Sp} (h : Two w g s) (hb : Below w.heap.size w w') : Two w' g s :=
  ⟨(hb.cell (p := ⟨g, 0, none⟩) h.2.2).trans h.1, (hb.cell (p := ⟨g, 1, none⟩) h.2.2).trans h.2.1, Nat.lt_of_lt_of_le h.2.2 hb.size⟩
theorem Two.alloc {w : World} {g : Nat} {s : Sp} (h : Two w g s) (o : Obj) : Two (w.alloc o) g s := h.below ((Below.refl _ _).alloc (Nat.le_refl _) o)
theorem Two.new (w : World) (s : Sp) (T : TypeId) {g : Nat} (hg : g = w.heap.size) : Two (w.alloc (.cells #[.int .i64 s.f, .int .i64 s.t] T)) g s := by subst hg; exact ⟨by simp, by simp, by simp⟩

set_option maxRecDepth 100000 in
set_option maxHeartbeats 2000000 in
theorem spansOne_walk1 (D : Does) (a b : Sp) (t : Int) (ht : (Lit.int .i64 t).wf = true) (W : World) :
    Calls Try.prog 3 #[sv a, sv b, .int .i64 t] W fun e w' => e = .returned (.bool true) ∧ Below W.heap.size W w' := by
  have LV := Lib.hid (lives_any D)
  have NA := Lib.hid (refNear_any a)
  have NB := Lib.hid (refNear_any b)
  have HA := Lib.hid (D.length_any a)
  have HT := Lib.hid (D.has_any a t)
  have HX := Lib.hid (D.cross_any a b)
  have RA := Lib.hid (refLength_any a)
  have RT := Lib.hid (refHas_any a t)
  have RX := Lib.hid (refCross_any a b)
  obtain ⟨A, hA⟩ : ∃ A, A = W.heap.size := ⟨_, rfl⟩
  have HAA := Lib.hid hA
  go_enter Try.func3, Try.ntmps3
  unfold sv at NA NB HA HT HX RA RT RX ⊢
  go_wp2_with fail
  rw [← hA]
  have a1 := (Two.new W a 23 hA).alloc (.cells #[.int .i64 b.f, .int .i64 b.t] 23)
  have b1 := Two.new (W.alloc (.cells #[.int .i64 a.f, .int .i64 a.t] 23)) b 23 (g := A + 1) (by simp [hA])
  have B1 : Below A W ((W.alloc (.cells #[.int .i64 a.f, .int .i64 a.t] 23)).alloc (.cells #[.int .i64 b.f, .int .i64 b.t] 23)) := ((Below.refl _ _).alloc (by omega) _).alloc (by simp; omega) _
  generalize (W.alloc (.cells #[.int .i64 a.f, .int .i64 a.t] 23)).alloc (.cells #[.int .i64 b.f, .int .i64 b.t] 23) = w1 at *
  refine (NA.out _).mono ?_
  rintro e w2 ⟨rfl, hb⟩
  have a2 := a1.below hb
  have b2 := b1.below hb
  have B2 := B1.trans (hb.mono (by have := a1.2.2; omega))
  have hA2 : A ≤ w2.heap.size := by have := a2.2.2; omega
  clear a1 b1 B1 hb hA
  have LL : ∀ w w', Below A W w → A ≤ w.heap.size → Below w.heap.size w w' → Below W.heap.size W w' := fun w w' h1 h2 h3 => HAA.out ▸ h1.trans (h3.mono h2)
  have LLL := Lib.hid LL
  clear LL
  by_cases na : near a
  case neg =>
    rw [decide_eq_false na]
    have BB := Lib.hid B2
    have AA := Lib.hid hA2
    clear a2 b2 B2 hA2
    go_wp2_with (go_at_call 9; refine (LV.out _).mono ?_; rintro e w3 ⟨rfl, hb⟩; have B3 := Lib.hid (LLL.out _ _ BB.out AA.out hb); clear hb)
    go_returns
    exact ⟨rfl, B3.out⟩
  rw [decide_eq_true na]
  have ca := a2.1
  have ca' := a2.2.1
  have cb := b2.1
  have cb' := b2.2.1
  have I2 := Lib.hid (⟨a2, b2, B2, hA2⟩ : Two w2 A a ∧ Two w2 (A + 1) b ∧ Below A W w2 ∧ A ≤ w2.heap.size)
  clear a2 b2 B2 hA2
  go_wp2_with fail
  refine (NB.out _).mono ?_
  rintro e w3 ⟨rfl, hb⟩
  have I3 := Lib.hid (⟨I2.out.1.below hb, I2.out.2.1.below hb, I2.out.2.2.1.trans (hb.mono I2.out.2.2.2), Nat.le_trans I2.out.2.2.2 hb.size⟩ : Two w3 A a ∧ Two w3 (A + 1) b ∧ Below A W w3 ∧ A ≤ w3.heap.size)
  clear hb I2 ca ca' cb cb'
  by_cases nb : near b
  case neg =>
    rw [decide_eq_false nb]
    go_wp2_with (go_at_call 9; refine (LV.out _).mono ?_; rintro e w4 ⟨rfl, hb⟩; have B3 := Lib.hid (LLL.out _ _ I3.out.2.2.1 I3.out.2.2.2 hb); clear hb)
    go_returns
    exact ⟨rfl, B3.out⟩
  rw [decide_eq_true nb]
  obtain ⟨⟨ca, ca', -⟩, ⟨cb, cb', -⟩, -⟩ := I3.out
  go_wp2_with fail
  refine (HX.out _ na nb).mono ?_
  rintro e w4 ⟨rfl, hb⟩
  have I4 := Lib.hid (⟨I3.out.1.below hb, I3.out.2.1.below hb, I3.out.2.2.1.trans (hb.mono I3.out.2.2.2), Nat.le_trans I3.out.2.2.2 hb.size⟩ : Two w4 A a ∧ Two w4 (A + 1) b ∧ Below A W w4 ∧ A ≤ w4.heap.size)
  clear hb I3 ca ca' cb cb'
  generalize cross a b = xr at *
  obtain ⟨x, ok⟩ := xr
  have c5 := Two.new w4 x 23 rfl
  have I5 := Lib.hid (⟨I4.out.1.alloc _, I4.out.2.1.alloc _, I4.out.2.2.1.alloc I4.out.2.2.2 _, Nat.le_trans I4.out.2.2.2 ((Below.refl w4.heap.size w4).alloc (Nat.le_refl _) _).size, c5⟩ : Two (w4.alloc (.cells #[.int .i64 x.f, .int .i64 x.t] 23)) A a ∧ Two (w4.alloc (.cells #[.int .i64 x.f, .int .i64 x.t] 23)) (A + 1) b ∧ Below A W (w4.alloc (.cells #[.int .i64 x.f, .int .i64 x.t] 23)) ∧ A ≤ (w4.alloc (.cells #[.int .i64 x.f, .int .i64 x.t] 23)).heap.size ∧ Two (w4.alloc (.cells #[.int .i64 x.f, .int .i64 x.t] 23)) w4.heap.size x)
  obtain ⟨⟨ca, ca', -⟩, ⟨cb, cb', -⟩, -⟩ := I4.out
  obtain ⟨⟨da, da', -⟩, ⟨db, db', -⟩, -⟩ := I5.out
  clear c5
  go_wp2_with fail
  generalize w4.alloc (.cells #[.int .i64 x.f, .int .i64 x.t] 23) = w5 at *
  generalize w4.heap.size = C at *
  refine (RX.out _).mono ?_
  rintro e w6 ⟨rfl, hb⟩
  have I6 := Lib.hid (⟨I5.out.1.below hb, I5.out.2.2.1.trans (hb.mono I5.out.2.2.2.1), Nat.le_trans I5.out.2.2.2.1 hb.size, I5.out.2.2.2.2.below hb⟩ : Two w6 A a ∧ Below A W w6 ∧ A ≤ w6.heap.size ∧ Two w6 C x)
  clear hb I5 I4 ca ca' cb cb' da da' db db'
  have c7 := Two.new w6 x 23 rfl
  have I7 := Lib.hid (⟨I6.out.1.alloc _, I6.out.2.1.alloc I6.out.2.2.1 _, Nat.le_trans I6.out.2.2.1 ((Below.refl w6.heap.size w6).alloc (Nat.le_refl _) _).size, I6.out.2.2.2.alloc _, c7⟩ : Two (w6.alloc (.cells #[.int .i64 x.f, .int .i64 x.t] 23)) A a ∧ Below A W (w6.alloc (.cells #[.int .i64 x.f, .int .i64 x.t] 23)) ∧ A ≤ (w6.alloc (.cells #[.int .i64 x.f, .int .i64 x.t] 23)).heap.size ∧ Two (w6.alloc (.cells #[.int .i64 x.f, .int .i64 x.t] 23)) C x ∧ Two (w6.alloc (.cells #[.int .i64 x.f, .int .i64 x.t] 23)) w6.heap.size x)
  clear c7
  go_wp2_with fail
  generalize w6.alloc (.cells #[.int .i64 x.f, .int .i64 x.t] 23) = w7 at *
  generalize w6.heap.size = E at *
  obtain ⟨⟨p0, p1, p6⟩, p9, -, ⟨p2, p3, p7⟩, ⟨p4, p5, p8⟩⟩ := I7.out
  have p9d := p9.drew
  have HST : Hid (∀ w w' : World, (w.cell? ⟨A, 0, none⟩ = some (.int .i64 a.f) ∧ w.cell? ⟨A, 1, none⟩ = some (.int .i64 a.t) ∧ w.cell? ⟨C, 0, none⟩ = some (.int .i64 x.f) ∧ w.cell? ⟨C, 1, none⟩ = some (.int .i64 x.t) ∧ w.cell? ⟨E, 0, none⟩ = some (.int .i64 x.f) ∧ w.cell? ⟨E, 1, none⟩ = some (.int .i64 x.t) ∧ A < w.heap.size ∧ C < w.heap.size ∧ E < w.heap.size ∧ Below A W w) → Below w.heap.size w w' → (w'.cell? ⟨A, 0, none⟩ = some (.int .i64 a.f) ∧ w'.cell? ⟨A, 1, none⟩ = some (.int .i64 a.t) ∧ w'.cell? ⟨C, 0, none⟩ = some (.int .i64 x.f) ∧ w'.cell? ⟨C, 1, none⟩ = some (.int .i64 x.t) ∧ w'.cell? ⟨E, 0, none⟩ = some (.int .i64 x.f) ∧ w'.cell? ⟨E, 1, none⟩ = some (.int .i64 x.t) ∧ A < w'.heap.size ∧ C < w'.heap.size ∧ E < w'.heap.size ∧ Below A W w')) := fun w w' h hb =>
    ⟨(hb.cell (p := ⟨A, 0, none⟩) h.2.2.2.2.2.2.1).trans h.1, (hb.cell (p := ⟨A, 1, none⟩) h.2.2.2.2.2.2.1).trans h.2.1, (hb.cell (p := ⟨C, 0, none⟩) h.2.2.2.2.2.2.2.1).trans h.2.2.1, (hb.cell (p := ⟨C, 1, none⟩) h.2.2.2.2.2.2.2.1).trans h.2.2.2.1, (hb.cell (p := ⟨E, 0, none⟩) h.2.2.2.2.2.2.2.2.1).trans h.2.2.2.2.1, (hb.cell (p := ⟨E, 1, none⟩) h.2.2.2.2.2.2.2.2.1).trans h.2.2.2.2.2.1, Nat.lt_of_lt_of_le h.2.2.2.2.2.2.1 hb.size, Nat.lt_of_lt_of_le h.2.2.2.2.2.2.2.1 hb.size, Nat.lt_of_lt_of_le h.2.2.2.2.2.2.2.2.1 hb.size, h.2.2.2.2.2.2.2.2.2.trans (hb.mono (Nat.le_of_lt h.2.2.2.2.2.2.1))⟩
  have C1 : Hid (∀ w : World, (w.cell? ⟨A, 0, none⟩ = some (.int .i64 a.f) ∧ w.cell? ⟨A, 1, none⟩ = some (.int .i64 a.t) ∧ w.cell? ⟨C, 0, none⟩ = some (.int .i64 x.f) ∧ w.cell? ⟨C, 1, none⟩ = some (.int .i64 x.t) ∧ w.cell? ⟨E, 0, none⟩ = some (.int .i64 x.f) ∧ w.cell? ⟨E, 1, none⟩ = some (.int .i64 x.t) ∧ A < w.heap.size ∧ C < w.heap.size ∧ E < w.heap.size ∧ Below A W w) → Calls Try.prog 12 #[.agg #[.int .i64 a.f, .int .i64 a.t]] w fun e w' => e = .returned (.int .i64 (len a)) ∧ (w'.cell? ⟨A, 0, none⟩ = some (.int .i64 a.f) ∧ w'.cell? ⟨A, 1, none⟩ = some (.int .i64 a.t) ∧ w'.cell? ⟨C, 0, none⟩ = some (.int .i64 x.f) ∧ w'.cell? ⟨C, 1, none⟩ = some (.int .i64 x.t) ∧ w'.cell? ⟨E, 0, none⟩ = some (.int .i64 x.f) ∧ w'.cell? ⟨E, 1, none⟩ = some (.int .i64 x.t) ∧ A < w'.heap.size ∧ C < w'.heap.size ∧ E < w'.heap.size ∧ Below A W w')) := fun w h => (HA.out w na).mono fun e w' h' => ⟨h'.1, HST.out w w' h h'.2⟩
  have C2 : Hid (∀ w : World, (w.cell? ⟨A, 0, none⟩ = some (.int .i64 a.f) ∧ w.cell? ⟨A, 1, none⟩ = some (.int .i64 a.t) ∧ w.cell? ⟨C, 0, none⟩ = some (.int .i64 x.f) ∧ w.cell? ⟨C, 1, none⟩ = some (.int .i64 x.t) ∧ w.cell? ⟨E, 0, none⟩ = some (.int .i64 x.f) ∧ w.cell? ⟨E, 1, none⟩ = some (.int .i64 x.t) ∧ A < w.heap.size ∧ C < w.heap.size ∧ E < w.heap.size ∧ Below A W w) → Calls Try.prog 13 #[.agg #[.int .i64 a.f, .int .i64 a.t]] w fun e w' => e = .returned (.int .i64 (len a)) ∧ (w'.cell? ⟨A, 0, none⟩ = some (.int .i64 a.f) ∧ w'.cell? ⟨A, 1, none⟩ = some (.int .i64 a.t) ∧ w'.cell? ⟨C, 0, none⟩ = some (.int .i64 x.f) ∧ w'.cell? ⟨C, 1, none⟩ = some (.int .i64 x.t) ∧ w'.cell? ⟨E, 0, none⟩ = some (.int .i64 x.f) ∧ w'.cell? ⟨E, 1, none⟩ = some (.int .i64 x.t) ∧ A < w'.heap.size ∧ C < w'.heap.size ∧ E < w'.heap.size ∧ Below A W w')) := fun w h => (RA.out w na).mono fun e w' h' => ⟨h'.1, HST.out w w' h h'.2⟩
  have C3 : Hid (∀ w : World, (w.cell? ⟨A, 0, none⟩ = some (.int .i64 a.f) ∧ w.cell? ⟨A, 1, none⟩ = some (.int .i64 a.t) ∧ w.cell? ⟨C, 0, none⟩ = some (.int .i64 x.f) ∧ w.cell? ⟨C, 1, none⟩ = some (.int .i64 x.t) ∧ w.cell? ⟨E, 0, none⟩ = some (.int .i64 x.f) ∧ w.cell? ⟨E, 1, none⟩ = some (.int .i64 x.t) ∧ A < w.heap.size ∧ C < w.heap.size ∧ E < w.heap.size ∧ Below A W w) → Calls Try.prog 14 #[.agg #[.int .i64 a.f, .int .i64 a.t], .int .i64 t] w fun e w' => e = .returned (.bool (decide (has a t))) ∧ (w'.cell? ⟨A, 0, none⟩ = some (.int .i64 a.f) ∧ w'.cell? ⟨A, 1, none⟩ = some (.int .i64 a.t) ∧ w'.cell? ⟨C, 0, none⟩ = some (.int .i64 x.f) ∧ w'.cell? ⟨C, 1, none⟩ = some (.int .i64 x.t) ∧ w'.cell? ⟨E, 0, none⟩ = some (.int .i64 x.f) ∧ w'.cell? ⟨E, 1, none⟩ = some (.int .i64 x.t) ∧ A < w'.heap.size ∧ C < w'.heap.size ∧ E < w'.heap.size ∧ Below A W w')) := fun w h => (HT.out w ht).mono fun e w' h' => ⟨h'.1, HST.out w w' h h'.2⟩
  have C4 : Hid (∀ w : World, (w.cell? ⟨A, 0, none⟩ = some (.int .i64 a.f) ∧ w.cell? ⟨A, 1, none⟩ = some (.int .i64 a.t) ∧ w.cell? ⟨C, 0, none⟩ = some (.int .i64 x.f) ∧ w.cell? ⟨C, 1, none⟩ = some (.int .i64 x.t) ∧ w.cell? ⟨E, 0, none⟩ = some (.int .i64 x.f) ∧ w.cell? ⟨E, 1, none⟩ = some (.int .i64 x.t) ∧ A < w.heap.size ∧ C < w.heap.size ∧ E < w.heap.size ∧ Below A W w) → Calls Try.prog 15 #[.agg #[.int .i64 a.f, .int .i64 a.t], .int .i64 t] w fun e w' => e = .returned (.bool (decide (has a t))) ∧ (w'.cell? ⟨A, 0, none⟩ = some (.int .i64 a.f) ∧ w'.cell? ⟨A, 1, none⟩ = some (.int .i64 a.t) ∧ w'.cell? ⟨C, 0, none⟩ = some (.int .i64 x.f) ∧ w'.cell? ⟨C, 1, none⟩ = some (.int .i64 x.t) ∧ w'.cell? ⟨E, 0, none⟩ = some (.int .i64 x.f) ∧ w'.cell? ⟨E, 1, none⟩ = some (.int .i64 x.t) ∧ A < w'.heap.size ∧ C < w'.heap.size ∧ E < w'.heap.size ∧ Below A W w')) := fun w h => (RT.out w).mono fun e w' h' => ⟨h'.1, HST.out w w' h h'.2⟩
  have C5 : Hid (∀ w : World, (w.cell? ⟨A, 0, none⟩ = some (.int .i64 a.f) ∧ w.cell? ⟨A, 1, none⟩ = some (.int .i64 a.t) ∧ w.cell? ⟨C, 0, none⟩ = some (.int .i64 x.f) ∧ w.cell? ⟨C, 1, none⟩ = some (.int .i64 x.t) ∧ w.cell? ⟨E, 0, none⟩ = some (.int .i64 x.f) ∧ w.cell? ⟨E, 1, none⟩ = some (.int .i64 x.t) ∧ A < w.heap.size ∧ C < w.heap.size ∧ E < w.heap.size ∧ Below A W w) → Calls Try.prog 9 #[] w fun e w' => e = .returned (.bool true) ∧ (w'.cell? ⟨A, 0, none⟩ = some (.int .i64 a.f) ∧ w'.cell? ⟨A, 1, none⟩ = some (.int .i64 a.t) ∧ w'.cell? ⟨C, 0, none⟩ = some (.int .i64 x.f) ∧ w'.cell? ⟨C, 1, none⟩ = some (.int .i64 x.t) ∧ w'.cell? ⟨E, 0, none⟩ = some (.int .i64 x.f) ∧ w'.cell? ⟨E, 1, none⟩ = some (.int .i64 x.t) ∧ A < w'.heap.size ∧ C < w'.heap.size ∧ E < w'.heap.size ∧ Below A W w')) := fun w h => (LV.out w).mono fun e w' h' => ⟨h'.1, HST.out w w' h h'.2⟩
  generalize len a = n at *
  generalize decide (has a t) = hh at *
  clear I7 I6 HST HA RA HT RT LV LLL NA NB HX RX
  go_region_held3 (fun w' => (w'.cell? ⟨A, 0, none⟩ = some (.int .i64 a.f) ∧ w'.cell? ⟨A, 1, none⟩ = some (.int .i64 a.t) ∧ w'.cell? ⟨C, 0, none⟩ = some (.int .i64 x.f) ∧ w'.cell? ⟨C, 1, none⟩ = some (.int .i64 x.t) ∧ w'.cell? ⟨E, 0, none⟩ = some (.int .i64 x.f) ∧ w'.cell? ⟨E, 1, none⟩ = some (.int .i64 x.t) ∧ A < w'.heap.size ∧ C < w'.heap.size ∧ E < w'.heap.size ∧ Below A W w')) (go_keep)
    (first
    | (go_at_call 12; refine (C1.out _ ?_).mono ?_; (first | assumption | exact ⟨by assumption, by assumption, by assumption, by assumption, by assumption, by assumption, by assumption, by assumption, by assumption, by assumption⟩); rintro e w1 ⟨rfl, q10, q11, q12, q13, q14, q15, q16, q17, q18, q19⟩)
    | (go_at_call 13; refine (C2.out _ ?_).mono ?_; (first | assumption | exact ⟨by assumption, by assumption, by assumption, by assumption, by assumption, by assumption, by assumption, by assumption, by assumption, by assumption⟩); rintro e w2 ⟨rfl, q20, q21, q22, q23, q24, q25, q26, q27, q28, q29⟩)
    | (go_at_call 14; refine (C3.out _ ?_).mono ?_; (first | assumption | exact ⟨by assumption, by assumption, by assumption, by assumption, by assumption, by assumption, by assumption, by assumption, by assumption, by assumption⟩); rintro e w3 ⟨rfl, q30, q31, q32, q33, q34, q35, q36, q37, q38, q39⟩)
    | (go_at_call 15; refine (C4.out _ ?_).mono ?_; (first | assumption | exact ⟨by assumption, by assumption, by assumption, by assumption, by assumption, by assumption, by assumption, by assumption, by assumption, by assumption⟩); rintro e w4 ⟨rfl, q40, q41, q42, q43, q44, q45, q46, q47, q48, q49⟩)
    | (go_at_call 9; refine (C5.out _ ?_).mono ?_; (first | assumption | exact ⟨by assumption, by assumption, by assumption, by assumption, by assumption, by assumption, by assumption, by assumption, by assumption, by assumption⟩); rintro e w5 ⟨rfl, q50, q51, q52, q53, q54, q55, q56, q57, q58, q59⟩))
  all_goals
    have hf := q59
    rw [HAA.out] at hf
    clear q59
    go_wp2
    go_returns
    exact ⟨rfl, hf⟩
end Go.Proofs.Ytjfhkheedcpimaa
