/-
  THE WALK of the laws' examples.
-/
import Derived.Test.YtldeflpaghbmmaaWnLives
namespace Go.Proofs.Ytldeflpaghbmmaa
open Go.RowKit Go.Wn Go.Sq Go.Wr
attribute [local go_sem ↓ high] Ww_.loadF Ww_.storeF Ww_.v_cells Ww_.v_match
attribute [local go_sem] Ww_.C0 Ww_.C1 Ww_.C2 Ww_.C3 Ww_.loadF_new Ww_.storeF_zero Oper.semAt_some

/-- A state in a cell of its own, its packets behind it. -/
structure Kp (w : World) (b : Nat) (x : Wn) (s : St) (wi : World) : Prop where
  bx : Ww_.Box wi b x
  lies : Lies wi x s
  bel : Below w.heap.size w wi
theorem Kp.keep {w : World} {b : Nat} {x : Wn} {s : St} {wi wj : World} (h : Kp w b x s wi) (hb : Below wi.heap.size wi wj) : Kp w b x s wj := ⟨h.bx.below hb h.bx.lt, h.lies.below hb, h.bel.trans (hb.mono h.bel.size)⟩
/-- A state handed back is laid into a cell. -/
theorem Kp.new {w wi wj : World} {s : St} {x : Wn} (h : Out s wi x wj) (hb : Below w.heap.size w wi) : Kp w wj.heap.size x s (wj.alloc (.cells (Ww_.C x) 29)) :=
  ⟨Ww_.Box.new wj x, h.lies.below ((Below.refl _ _).alloc (Nat.le_refl _) _), (hb.trans (h.bel.mono hb.size)).alloc (Nat.le_trans hb.size h.bel.size) _⟩

theorem fld22 (a b : Int) (c : Bool) (W : World) : (Instr.field 29 (.agg #[.int .i64 a, .int .i64 b, .slice none 0 0, .bool c]) 0).run Try.prog W = .ok (.int .i64 a) W := by kernel_rfl

set_option maxRecDepth 100000 in
set_option maxHeartbeats 8000000 in
theorem lives22_any (w : World) : Calls Try.prog 10 #[] w fun e w' => e = .returned (.bool true) ∧ Below w.heap.size w w' := by
  obtain ⟨w1, hw1⟩ : ∃ w1, w.alloc (.cells #[.int .i64 1, .int .i64 3, .int .i64 0, .bool false, .string ⟨#[]⟩, .int .i64 2, .int .i64 4, .int .i64 0, .bool false, .string ⟨#[]⟩, .int .i64 3, .int .i64 5, .int .i64 0, .bool false, .string ⟨#[]⟩] 76) = w1 := ⟨_, rfl⟩
  have z1 : w1.heap.size = w.heap.size + 1 := by rw [← hw1]; simp
  have S1 : Sn_.Sl w1 (some ⟨w.heap.size, 0, none⟩) lv0.l 3 := by rw [← hw1]; exact Sn_.sl_lit w lv0.l (by decide)
  obtain ⟨x0, hx0⟩ : ∃ x0 : Wn, x0 = ⟨6, 4, some ⟨w.heap.size, 0, none⟩, 3, 3, false⟩ := ⟨_, rfl⟩
  obtain ⟨w2, hw2⟩ : ∃ w2, w1.alloc (.cells (Ww_.C x0) 29) = w2 := ⟨_, rfl⟩
  have b1 : Below w.heap.size w w1 := hw1 ▸ (Below.refl _ _).alloc (Nat.le_refl _) _
  have b2 : Below w1.heap.size w1 w2 := hw2 ▸ (Below.refl _ _).alloc (Nat.le_refl _) _
  have L1 : Lies w1 x0 lv0 := by subst hx0; exact ⟨rfl, rfl, rfl, rfl, S1⟩
  have K2 : Hid (Kp w (w.heap.size + 1) x0 lv0 w2) := ⟨by rw [← z1, ← hw2]; exact Ww_.Box.new w1 x0, L1.below b2, b1.trans (b2.mono b1.size)⟩
  have st2 : (Ww_.StoreF ⟨w1.heap.size, 0, none⟩ (.agg #[.int .i64 6, .int .i64 4, .slice (some ⟨w.heap.size, 0, none⟩) 3 3, .bool false])).run Try.prog (w1.alloc (.cells #[.int .i64 0, .int .i64 0, .slice none 0 0, .bool false] 29)) = .ok () w2 := by
    rw [← hw2, hx0]; exact Ww_.storeF_zero w1 ⟨6, 4, some ⟨w.heap.size, 0, none⟩, 3, 3, false⟩
  rw [z1] at st2
  have l2 := K2.out.bx.loadF
  have CA := Lib.hid (wn_acked_any x0 lv0 3 5 (by decide) w2 K2.out.lies (by decide))
  rw [lv_acked] at CA
  clear S1 L1 b1 b2 hx0 hw2
  go_enter Try.func10, Try.ntmps10
  go_wp2_with fail
  refine CA.out.mono ?_
  rintro e w3 ⟨x1, sa3, c3, rfl, hO3, hI3, hF3⟩
  obtain ⟨w4, hw4⟩ : ∃ w4, w3.alloc (.cells (Ww_.C x1) 29) = w4 := ⟨_, rfl⟩
  have hz4 := Ww_.storeF_zero w3 x1
  rw [hw4] at hz4
  have b34 : Below w3.heap.size w3 w4 := hw4 ▸ (Below.refl _ _).alloc (Nat.le_refl _) _
  have K4 := Lib.hid (show Kp w w3.heap.size x1 lv1 w4 from hw4 ▸ Kp.new hO3 K2.out.bel)
  have M4 := Lib.hid (K2.out.keep (hO3.bel.trans (b34.mono hO3.bel.size)))
  have I4 := Lib.hid (hI3.below b34)
  obtain ⟨w5, hw5⟩ : ∃ w5, w4.alloc (.cells #[.int .i64 4] 3) = w5 := ⟨_, rfl⟩
  have b45 : Below w4.heap.size w4 w5 := hw5 ▸ (Below.refl _ _).alloc (Nat.le_refl _) _
  have Q5 : Is_.Sl w5 (some ⟨w4.heap.size, 0, none⟩) [4] 1 := hw5 ▸ Is_.sl_lit w4 [4] (by decide)
  have K5 := Lib.hid (K4.out.keep b45)
  have M5 := Lib.hid (M4.out.keep b45)
  have I5 := Lib.hid (I4.out.below b45)
  have l4 := K4.out.bx.loadF
  have l5 := K5.out.bx.loadF
  have CM := Lib.hid (wn_missed_any x1 lv1 _ [4] 1 1 w5 K5.out.lies (by decide) Q5 (by decide) (by decide))
  rw [lv_missed] at CM
  clear hO3 hI3 hF3 b34 b45 Q5 CA K2 l2 st2 hw1
  go_wp2_with fail
  refine CM.out.mono ?_
  rintro e w6 ⟨x2, sa6, c6, rfl, hO6, hI6, hF6⟩
  obtain ⟨w7, hw7⟩ : ∃ w7, w6.alloc (.cells (Ww_.C x2) 29) = w7 := ⟨_, rfl⟩
  have hz7 := Ww_.storeF_zero w6 x2
  rw [hw7] at hz7
  have b67 : Below w6.heap.size w6 w7 := hw7 ▸ (Below.refl _ _).alloc (Nat.le_refl _) _
  have b57 := hO6.bel.trans (b67.mono hO6.bel.size)
  have N7 := Lib.hid (show Kp w w6.heap.size x2 lv2 w7 from hw7 ▸ Kp.new hO6 K5.out.bel)
  have K7 := Lib.hid (K5.out.keep b57)
  have M7 := Lib.hid (M5.out.keep b57)
  have I7 := Lib.hid (I5.out.below b57)
  have J7 := Lib.hid (hI6.below b67)
  have CN := Lib.hid (fun n W => wn_new_any n W)
  have CZ := Lib.hid (fun W => wn_resize_any ⟨0, 0, none, 0, 0, false⟩ ⟨0, 0, [], false⟩ 65 W ⟨rfl, rfl, rfl, rfl, Sn_.Sl.none _⟩)
  rw [lv_resize] at CZ
  have CN0 := Lib.hid (CN.out 0)
  rw [show md 0 = 0 from rfl] at CN0
  clear hO6 hI6 hF6 b67 b57 CM hw4 hz4 hw5 l4 l5
  go_wp2_with fail
  refine (CN0.out w7).mono ?_
  rintro e w8 ⟨rfl, hb8⟩
  have N8 := Lib.hid (N7.out.keep hb8)
  have K8 := Lib.hid (K7.out.keep hb8)
  have M8 := Lib.hid (M7.out.keep hb8)
  have I8 := Lib.hid (I7.out.below hb8)
  have J8 := Lib.hid (J7.out.below hb8)
  clear hb8
  go_wp2_with fail
  refine (CZ.out w8).mono ?_
  rintro e w9 ⟨x3, rfl, hO9⟩
  obtain ⟨w10, hw10⟩ : ∃ w10, w9.alloc (.cells (Ww_.C x3) 29) = w10 := ⟨_, rfl⟩
  have hz10 := Ww_.storeF_zero w9 x3
  rw [hw10] at hz10
  have b910 : Below w9.heap.size w9 w10 := hw10 ▸ (Below.refl _ _).alloc (Nat.le_refl _) _
  have b810 := hO9.bel.trans (b910.mono hO9.bel.size)
  have N10 := Lib.hid (N8.out.keep b810)
  have K10 := Lib.hid (K8.out.keep b810)
  have M10 := Lib.hid (M8.out.keep b810)
  have I10 := Lib.hid (I8.out.below b810)
  have J10 := Lib.hid (J8.out.below b810)
  obtain ⟨b3, o3, hsa3, hlt3, -⟩ := I10.out.lies 0 (by decide)
  obtain ⟨b6, o6, hsa6, hlt6, -⟩ := J10.out.lies 0 (by decide)
  subst hsa3 hsa6
  have hd0 : Hid (∀ W, Is_.Sl W (some ⟨b3, o3, none⟩) [1, 3] c3 → W.cell? ⟨b3, o3, none⟩ = some (.int .i64 1) ∧ W.cell? ⟨b3, o3 + 1, none⟩ = some (.int .i64 3)) := by
    intro W hW
    obtain ⟨b, o, e, -, h⟩ := hW.lies 0 (by decide)
    obtain ⟨b', o', e', -, h'⟩ := hW.lies 1 (by decide)
    cases e
    cases e'
    exact ⟨h, h'⟩
  have hd1 : Hid (∀ W, Is_.Sl W (some ⟨b6, o6, none⟩) [2] c6 → W.cell? ⟨b6, o6, none⟩ = some (.int .i64 2)) := by
    intro W hW
    obtain ⟨b, o, e, -, h⟩ := hW.lies 0 (by decide)
    cases e
    exact h
  have hc3 : 2 ≤ c3 := I10.out.le
  have hc6 : 1 ≤ c6 := J10.out.le
  have l10 := M10.out.bx.loadF
  have CK := Lib.hid (wn_check_any x0 lv0 w10 M10.out.lies (by decide))
  rw [lv_chk] at CK
  have CS := Lib.hid (fun W h => wn_start_any x1 lv1 W h)
  rw [lv_bgn] at CS
  have CR := Lib.hid (fun W h => wn_room_any x2 lv2 W h (by decide))
  rw [lv_room] at CR
  have CN1 : Hid (∀ W, Calls Try.prog 15 #[.int .i64 (-1)] W fun e w' => e = .returned (.agg #[.int .i64 4095, .int .i64 0, .slice none 0 0, .bool false]) ∧ Below W.heap.size W w') := fun W => by
    have h := wn_new_any (-1) W
    rw [lv_md] at h
    exact h
  have hfl := fun W => fld22 4095 0 false W
  have hrq : x2.rq = true := N10.out.lies.rq
  have hxn : x2.n = 0 := N10.out.lies.n
  clear hO9 b910 b810 CZ CN CN0 hw7 hz7
  go_wp2_with (first
    | (go_at_call 11; refine CK.out.mono ?_; rintro e w11 ⟨rfl, hb11⟩; have N11 := Lib.hid (N10.out.keep hb11); have K11 := Lib.hid (K10.out.keep hb11); have I11 := Lib.hid (I10.out.below hb11); have J11 := Lib.hid (J10.out.below hb11); clear hb11)
    | (go_at_call 15; refine (CN1.out w11).mono ?_; rintro e w12 ⟨rfl, hb12⟩; have N12 := Lib.hid (N11.out.keep hb12); have K12 := Lib.hid (K11.out.keep hb12); have I12 := hd0.out _ (I11.out.below hb12); have J12 := Lib.hid (J11.out.below hb12); have l12 := K12.out.bx.loadF; clear hb12)
    | (go_at_call 20; refine (CS.out w12 K12.out.lies).mono ?_; rintro e w13 ⟨rfl, hb13⟩; have N13 := Lib.hid (N12.out.keep hb13); have J13 := hd1.out _ (J12.out.below hb13); have e13 := N13.out.bx.all; have l13 := N13.out.bx.loadF; clear hb13)
    | (go_at_call 22; refine (CR.out w13 N13.out.lies).mono ?_; rintro e w14 ⟨rfl, hb14⟩; have B14 := Lib.hid (N13.out.bel.trans (hb14.mono N13.out.bel.size)); clear hb14))
  go_returns
  exact ⟨rfl, B14.out⟩
end Go.Proofs.Ytldeflpaghbmmaa
