/-
  WALKS of the reference of layer 11: Block.
-/
import Derived.Test.YtjnafojgabkjmaaDoorCtRef3
namespace Go.Proofs.YtjnafojgabkjmaaDoor
open Go.RowKit Go.Hd Go.Wr Go.Ct
attribute [local go_sem ↓ high] Fr_.loadF Fr_.storeF Fr_.v_cells Fr_.v_match
attribute [local go_sem] Fr_.C0 Fr_.C1 Fr_.C2 Fr_.C3 Fr_.C4 Fr_.C5 Fr_.C6 Fr_.C7 Fr_.C8 Fr_.C9 Fr_.C10 Fr_.C11 Fr_.C12 Fr_.C13 Fr_.C14 Fr_.C15 Fr_.C16 Fr_.C17 Fr_.storeF_zero

/-- How the test on kind and policy goes. -/
theorem asks_cases (f : Fr) : ((f.kd == 15) = true ∧ asks f) ∨ ((f.kd == 15) = false ∧ (f.kd == 18) = true ∧ (f.po == 2) = true ∧ asks f) ∨ ((f.kd == 15) = false ∧ (f.kd == 18) = true ∧ (f.po == 2) = false ∧ ¬ asks f) ∨ ((f.kd == 15) = false ∧ (f.kd == 18) = false ∧ ¬ asks f) := by
  by_cases h0 : f.kd = 15
  · exact .inl ⟨by rw [h0]; rfl, .inl h0⟩
  · have a0 : (f.kd == 15) = false := by rw [beq_eq_false_iff_ne]; exact h0
    by_cases h1 : f.kd = 18
    · have a1 : (f.kd == 18) = true := by rw [h1]; rfl
      by_cases h2 : f.po = 2
      · exact .inr (.inl ⟨a0, a1, by rw [h2]; rfl, .inr ⟨h1, h2⟩⟩)
      · exact .inr (.inr (.inl ⟨a0, a1, by rw [beq_eq_false_iff_ne]; exact h2, fun h => h.elim h0 (fun h => h2 h.2)⟩))
    · exact .inr (.inr (.inr ⟨a0, by rw [beq_eq_false_iff_ne]; exact h1, fun h => h.elim h0 (fun h => h1 h.1)⟩))

/-- A frame that came in, and a result's cell with some frame. -/
structure Hst (w : World) (f : Fr) (r : Nat) (wi : World) : Prop where
  box : Fr_.Box wi w.heap.size f
  res : ∃ y, Fr_.Box wi r y
  bel : Below w.heap.size w wi
  re : w.heap.size < r
theorem Hst.keep {w wi w' : World} {f : Fr} {r : Nat} (h : Hst w f r wi) (hb : Below wi.heap.size wi w') : Hst w f r w' :=
  ⟨h.box.below hb h.box.lt, h.res.elim fun y hy => ⟨y, hy.below hb hy.lt⟩, h.bel.trans (hb.mono h.bel.size), h.re⟩
theorem Hst.store {w wi : World} {f : Fr} {r : Nat} (h : Hst w f r wi) (x : Fr) : (Fr_.StoreF ⟨r, 0, none⟩ (Fr_.v x)).run Tryd.prog wi = .ok () (wi.setRow r (Fr_.C x)) := h.res.elim fun _ hy => hy.storeF x
theorem Hst.setR {w wi : World} {f : Fr} {r : Nat} (h : Hst w f r wi) (x : Fr) : Fr_.Box (wi.setRow r (Fr_.C x)) r x := h.res.elim fun _ hy => hy.setRow x
theorem Hst.set {w wi : World} {f : Fr} {r : Nat} (h : Hst w f r wi) (x : Fr) : Hst w f r (wi.setRow r (Fr_.C x)) :=
  ⟨(Fr_.setRow_other (Nat.ne_of_lt h.re) _).trans h.box, ⟨x, h.setR x⟩, below_setRow h.bel (Nat.le_of_lt h.re), h.re⟩

set_option maxRecDepth 100000 in
set_option maxHeartbeats 4000000 in
theorem refBlock_yes (f : Fr) (c s : Int) (m : Nat) (hm : m < 18446744073709551616) (w : World) (hu : FrU f) (hok : okB f c s) :
    Calls Tryd.prog 27 #[Fr_.v f, .int .i64 c, .int .i64 s, .int .u64 (m : Int)] w fun e w' => e = .returned (.tuple #[Fr_.v (mkF 16 0 f.fa f.ta (bw (bl c s m))), .bool true]) ∧ Below w.heap.size w w' := by
  obtain ⟨w1, hw1⟩ : ∃ w1, w.alloc (.cells (Fr_.C f) 27) = w1 := ⟨_, rfl⟩
  obtain ⟨w2, hw2⟩ : ∃ w2, w1.alloc (.cells #[.int .i64 0, .bool false, .bool false, .bool false, .bool false, .bool false, .bool false, .int .i64 0, .int .i64 0, .int .u64 0, .int .u64 0, .int .u64 0, .int .i64 0, .int .i64 0, .int .i64 0, .int .i64 0, .int .i64 0, .string ⟨#[]⟩] 27) = w2 := ⟨_, rfl⟩
  have st := Lib.hid (show Fst w f w1.heap.size w2 from hw2 ▸ Fst.new f hw1)
  have CA : Hid (∀ w1, Calls Tryd.prog 50 #[Fr_.v f] w1 fun e w' => e = .returned (.bool true) ∧ Below w1.heap.size w1 w') := fun w1 => (decide_eq_true hok.1) ▸ refAnswerable_any f w1 hu
  have CI : Hid (∀ w1, Calls Tryd.prog 48 #[.int .i64 c, .int .i64 s] w1 fun e w' => e = .returned (.bool true) ∧ w1 = w') := fun w1 => (decide_eq_true hok.2.2) ▸ within_any c s w1
  have hwin := hok.2.2
  have HK : Hid (∀ w' w'' : World, ((∀ j : Nat, w'.cell? ⟨w.heap.size, j, none⟩ = (Fr_.C f)[j]?) ∧ Hst w f w1.heap.size w') → Below w'.heap.size w' w'' → ((∀ j : Nat, w''.cell? ⟨w.heap.size, j, none⟩ = (Fr_.C f)[j]?) ∧ Hst w f w1.heap.size w'')) := fun w' w'' h hb => ⟨(h.2.keep hb).box.all, h.2.keep hb⟩
  have O1 : Hid (∀ w' : World, ((∀ j : Nat, w'.cell? ⟨w.heap.size, j, none⟩ = (Fr_.C f)[j]?) ∧ Hst w f w1.heap.size w') → Calls Tryd.prog 49 #[.int .i64 c, .int .i64 1] w' fun e w'' => e = .returned (.string (bw (le c.toNat 1))) ∧ ((∀ j : Nat, w''.cell? ⟨w.heap.size, j, none⟩ = (Fr_.C f)[j]?) ∧ Hst w f w1.heap.size w'')) := fun w' h => (octets_int c 1 w' ⟨by decide, by decide⟩ (by have := hwin.1; omega)).mono fun _ _ q => ⟨q.1, HK.out _ _ h q.2⟩
  have O2 : Hid (∀ w' : World, ((∀ j : Nat, w'.cell? ⟨w.heap.size, j, none⟩ = (Fr_.C f)[j]?) ∧ Hst w f w1.heap.size w') → Calls Tryd.prog 49 #[.int .i64 s, .int .i64 2] w' fun e w'' => e = .returned (.string (bw (le s.toNat 2))) ∧ ((∀ j : Nat, w''.cell? ⟨w.heap.size, j, none⟩ = (Fr_.C f)[j]?) ∧ Hst w f w1.heap.size w'')) := fun w' h => (octets_int s 2 w' ⟨by decide, by decide⟩ (by have := hwin.2; omega)).mono fun _ _ q => ⟨q.1, HK.out _ _ h q.2⟩
  have O3 : Hid (∀ w' : World, ((∀ j : Nat, w'.cell? ⟨w.heap.size, j, none⟩ = (Fr_.C f)[j]?) ∧ Hst w f w1.heap.size w') → Calls Tryd.prog 53 #[.int .u64 (m : Int)] w' fun e w'' => e = .returned (.string (bw (le m 8))) ∧ ((∀ j : Nat, w''.cell? ⟨w.heap.size, j, none⟩ = (Fr_.C f)[j]?) ∧ Hst w f w1.heap.size w'')) := fun w' h => (refMap_any m w' hm).mono fun _ _ q => ⟨q.1, HK.out _ _ h q.2⟩
  have ha1 : ∀ W, (Op.stringOp .add (bw (le c.toNat 1)) (bw (le s.toNat 2))).run Tryd.prog W = .ok (.string (bw (ql c s))) W := fun W => bw_add _ _ (by rw [le_len, le_len]; decide) W
  have ha2 : ∀ W, (Op.stringOp .add (bw (ql c s)) (bw (le m 8))).run Tryd.prog W = .ok (.string (bw (bl c s m))) W := fun W => bw_add _ _ (by rw [ql_len, le_len]; decide) W
  have hf := mk_fold 16 0 f.fa f.ta (bw (bl c s m))
  have e2 := st.out.box.all
  have l2 := st.out.box.loadF
  generalize bw (le c.toNat 1) = s1 at *
  generalize bw (le s.toNat 2) = s2 at *
  generalize bw (ql c s) = s3 at *
  generalize bw (le m 8) = s4 at *
  generalize bw (bl c s m) = s5 at *
  have HC := asks_cases f
  rcases HC with ⟨a0, -⟩ | ⟨a0, a1, a2, -⟩ | ⟨-, -, -, h⟩ | ⟨-, -, h⟩
  case inr.inr.inl => exact absurd hok.2.1 h
  case inr.inr.inr => exact absurd hok.2.1 h
  all_goals
    clear hok hu hwin
    go_enter Tryd.func27, Tryd.ntmps27
    go_wp2_with (first
      | (go_at_call 50; refine (CA.out _).mono ?_; rintro e w3 ⟨rfl, hb⟩; have st3 := Lib.hid (st.out.keep hb); clear hb e2 l2)
      | (go_at_call 48; refine (CI.out _).mono ?_; rintro e w' ⟨rfl, rfl⟩))
    have q0 := st3.out.box.drew.all
    have q1 : Hst w f w1.heap.size w3.drew := ⟨st3.out.box.drew, ⟨_, st3.out.res.drew⟩, st3.out.bel.drew, st3.out.re⟩
    clear st st3
    go_region_held3 (fun w' => (∀ j : Nat, w'.cell? ⟨w.heap.size, j, none⟩ = (Fr_.C f)[j]?) ∧ Hst w f w1.heap.size w') (first | exact ⟨by assumption, by assumption⟩ | go_keep)
      (first
      | (go_at_call 49; with_reducible refine (O1.out _ ⟨q0, q1⟩).mono ?_; rintro e w4 ⟨rfl, r0, r1⟩)
      | (go_at_call 49; with_reducible refine (O2.out _ ⟨r0, r1⟩).mono ?_; rintro e w5 ⟨rfl, t0, t1⟩)
      | (go_at_call 53; refine (O3.out _ ⟨t0, t1⟩).mono ?_; rintro e w6 ⟨rfl, u0, u1⟩; have sf := u1.store (mkF 16 0 f.fa f.ta s5); have v1 := u1.set (mkF 16 0 f.fa f.ta s5); have v0 := v1.box.all))
    go_wp2
    exact ret_two Tryd.results27 rfl rfl (u1.setR _) rfl ⟨rfl, v1.bel⟩

set_option maxRecDepth 100000 in
set_option maxHeartbeats 4000000 in
theorem refBlock_no (f : Fr) (c s : Int) (m : Int) (w : World) (hu : FrU f) (hok : ¬ okB f c s) :
    Calls Tryd.prog 27 #[Fr_.v f, .int .i64 c, .int .i64 s, .int .u64 m] w fun e w' => e = .returned (.tuple #[Fr_.v Fr_.zf, .bool false]) ∧ Below w.heap.size w w' := by
  obtain ⟨w1, hw1⟩ : ∃ w1, w.alloc (.cells (Fr_.C f) 27) = w1 := ⟨_, rfl⟩
  obtain ⟨w2, hw2⟩ : ∃ w2, w1.alloc (.cells #[.int .i64 0, .bool false, .bool false, .bool false, .bool false, .bool false, .bool false, .int .i64 0, .int .i64 0, .int .u64 0, .int .u64 0, .int .u64 0, .int .i64 0, .int .i64 0, .int .i64 0, .int .i64 0, .int .i64 0, .string ⟨#[]⟩] 27) = w2 := ⟨_, rfl⟩
  have st := Lib.hid (show Fst w f w1.heap.size w2 from hw2 ▸ Fst.new f hw1)
  have CA := Lib.hid (fun w1 => refAnswerable_any f w1 hu)
  have CI := Lib.hid (fun w1 => within_any c s w1)
  have e2 := st.out.box.all
  have l2 := st.out.box.loadF
  clear hu
  have HC := asks_cases f
  by_cases ha : ans f
  · rw [decide_eq_true ha] at CA
    rcases HC with ⟨a0, h⟩ | ⟨a0, a1, a2, h⟩ | ⟨a0, a1, a2, h⟩ | ⟨a0, a1, h⟩
    case' inl => rw [decide_eq_false (show ¬ win c s from fun hw => hok ⟨ha, h, hw⟩)] at CI
    case' inr.inl => rw [decide_eq_false (show ¬ win c s from fun hw => hok ⟨ha, h, hw⟩)] at CI
    all_goals
      clear hok ha h
      go_enter Tryd.func27, Tryd.ntmps27
      go_wp2_with (first
        | (go_at_call 50; refine (CA.out _).mono ?_; rintro e w3 ⟨rfl, hb⟩; have st3 := Lib.hid (st.out.keep hb); clear hb e2 l2; have sf := st3.out.zero)
        | (go_at_call 48; refine (CI.out _).mono ?_; rintro e w' ⟨rfl, rfl⟩))
      exact ret_two Tryd.results27 rfl rfl (st3.out.res.setRow _) rfl ⟨rfl, st3.out.fin _⟩
  · rw [decide_eq_false ha] at CA
    clear CI
    rcases HC with ⟨a0, h⟩ | ⟨a0, a1, a2, h⟩ | ⟨a0, a1, a2, h⟩ | ⟨a0, a1, h⟩
    all_goals
      clear hok ha h
      go_enter Tryd.func27, Tryd.ntmps27
      go_wp2_with (first
        | (go_at_call 50; refine (CA.out _).mono ?_; rintro e w3 ⟨rfl, hb⟩; have st3 := Lib.hid (st.out.keep hb); clear hb e2 l2; have sf := st3.out.zero))
      exact ret_two Tryd.results27 rfl rfl (st3.out.res.setRow _) rfl ⟨rfl, st3.out.fin _⟩
theorem refBlock_any (f : Fr) (c s : Int) (m : Nat) (hm : m < 18446744073709551616) (w : World) (hu : FrU f) :
    Calls Tryd.prog 27 #[Fr_.v f, .int .i64 c, .int .i64 s, .int .u64 (m : Int)] w fun e w' => e = .returned (.tuple #[Fr_.v (blkF f c s m), .bool (decide (okB f c s))]) ∧ Below w.heap.size w w' := by
  by_cases h : okB f c s
  · rw [decide_eq_true h, show blkF f c s m = mkF 16 0 f.fa f.ta (bw (bl c s m)) from if_pos h]
    exact refBlock_yes f c s m hm w hu h
  · rw [decide_eq_false h, show blkF f c s m = Fr_.zf from if_neg h]
    exact refBlock_no f c s m w hu h
end Go.Proofs.YtjnafojgabkjmaaDoor
