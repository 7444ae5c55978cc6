/-
  WALKS of the landed package control (1e08cd0): answer, CTS, Ack.
-/
import Derived.Test.YtjnafojgabkjmaaDoorCtProg
namespace Go.Proofs.YtjnafojgabkjmaaDoor
open Go.RowKit Go.Hd Go.Wr Go.Ct
attribute [local go_sem ↓ high] Fr_.loadF Fr_.storeF Fr_.v_cells Fr_.v_match
attribute [local go_sem] Fr_.C0 Fr_.C1 Fr_.C2 Fr_.C3 Fr_.C4 Fr_.C5 Fr_.C6 Fr_.C7 Fr_.C8 Fr_.C9 Fr_.C10 Fr_.C11 Fr_.C12 Fr_.C13 Fr_.C14 Fr_.C15 Fr_.C16 Fr_.C17 Fr_.storeF_zero

theorem len_ans {k d ta fa : Int} {bo : ByteArray} (h : k = 13 ∨ k = 14) : len (mkF k d ta fa bo) = 10 := by
  rcases h with rfl | rfl
  · rw [len_ln0, if_neg (show ¬ ((mkF 13 d ta fa bo).kd = 18 ∧ ¬ (mkF 13 d ta fa bo).ky = 0) from fun h => absurd (show (13 : Int) = 18 from h.1) (by decide))]; show ln0 13 + 0 = 10; decide
  · rw [len_ln0, if_neg (show ¬ ((mkF 14 d ta fa bo).kd = 18 ∧ ¬ (mkF 14 d ta fa bo).ky = 0) from fun h => absurd (show (14 : Int) = 18 from h.1) (by decide))]; show ln0 14 + 0 = 10; decide
theorem slo_seven : Go.Ph.slo 0 14 = 7 ∧ Go.Ph.sle 0 14 = 0 := by decide +kernel

set_option maxRecDepth 100000 in
set_option maxHeartbeats 2000000 in
theorem answer_any (k to rest : Int) (w : World) (ht : HdTab w) (hp : PhBits w) (hk : k = 13 ∨ k = 14) (hr : (Lit.int .i64 rest).wf = true) :
    Calls Tryd.prog 31 #[.int .i64 k, .int .u64 to, .int .i64 rest] w fun e w' => e = .returned (Fr_.v (mkF k (rsd rest 7) to 0 ⟨#[]⟩)) ∧ Below w.heap.size w w' := by
  obtain ⟨w1, hw1⟩ : ∃ w1, w.alloc (.cells #[.int .i64 0, .bool false, .bool false, .bool false, .bool false, .bool false, .bool false, .int .i64 0, .int .i64 0, .int .u64 0, .int .u64 0, .int .u64 0, .int .i64 0, .int .i64 0, .int .i64 0, .int .i64 0, .int .i64 0, .string ⟨#[]⟩] 27) = w1 := ⟨_, rfl⟩
  have st1 := Lib.hid (show Gst w w.heap.size w1 from hw1 ▸ Gst.new w)
  have hf := mk_fold k 0 to 0 ⟨#[]⟩
  obtain ⟨w2, hw2⟩ : ∃ w2, w1.alloc (.cells (Fr_.C (mkF k 0 to 0 ⟨#[]⟩)) 27) = w2 := ⟨_, rfl⟩
  have S2 := Lib.hid (show Stf w1 w1.heap.size (mkF k 0 to 0 ⟨#[]⟩) w2 from hw2 ▸ Stf.new w1 _)
  have st2 := Lib.hid (show Gst w w.heap.size w2 from st1.out.keep S2.out.bel)
  have CL : Hid (∀ w1, Below w.heap.size w w1 → Calls Tryd.prog 57 #[Fr_.v (mkF k 0 to 0 ⟨#[]⟩)] w1 fun e w' => e = .returned (.int .i64 10) ∧ Below w1.heap.size w1 w') := fun w1 hb => by
    have h := progLength_any (mkF k 0 to 0 ⟨#[]⟩) w1 (HdTab.below ht hb (Nat.le_refl _))
    rw [len_ans hk] at h
    exact h
  have CS : Hid (∀ w1, Below w.heap.size w w1 → Calls Tryd.prog 56 #[.int .i64 0, .int .i64 14] w1 fun e w' => e = .returned (.tuple #[.int .i64 7, .int .i64 0]) ∧ w1 = w') := fun w1 hb => by
    have h := slots_any 0 14 w1 (PhBits.below hp hb (Nat.le_refl _))
    rw [slo_seven.1, slo_seven.2] at h
    exact h
  have CR := Lib.hid (fun w => respond_any rest 7 w hr (by decide))
  have l2 := S2.out.box.loadF
  clear ht hp hk hr st1
  go_enter Tryd.func31, Tryd.ntmps31
  go_wp2_with (first
    | (go_at_call 57; refine (CL.out _ st2.out.bel).mono ?_; rintro e w3 ⟨rfl, hb⟩; have S3 := Lib.hid (Stf.keep _ _ S2.out hb); have st3 := Lib.hid (st2.out.keep hb); clear hb l2; have e3 := S3.out.box.all; have f3 := S3.out.box.frozen)
    | (go_at_call 56; refine (CS.out _ st3.out.bel).mono ?_; rintro e w4 ⟨rfl, rfl⟩)
    | (go_at_call 21; refine (CR.out _).mono ?_; rintro e w5 ⟨rfl, rfl⟩; have B4 := Lib.hid (show Fr_.Box _ w1.heap.size (mkF k (rsd rest 7) to 0 ⟨#[]⟩) from S3.out.box.set8 (rsd rest 7)); have G4 := Lib.hid (Fr_.Box.other st3.out.res (a := ⟨w1.heap.size, 8, none⟩) (Nat.ne_of_lt (hw1 ▸ by simp)) (.int .i64 (rsd rest 7))); have l4 := B4.out.loadF; have sf := G4.out.storeF (mkF k (rsd rest 7) to 0 ⟨#[]⟩)))
  exact ret_frame Tryd.results31 rfl (G4.out.setRow _) rfl ⟨rfl, below_setRow (st3.out.bel.setCell (p := ⟨w1.heap.size, 8, none⟩) (hw1 ▸ by simp) _) (Nat.le_refl _)⟩

/-- A frame that came in, and a result's cell with the zero frame. -/
structure Fst (w : World) (f : Fr) (r : Nat) (wi : World) : Prop where
  box : Fr_.Box wi w.heap.size f
  res : Fr_.Box wi r Fr_.zf
  bel : Below w.heap.size w wi
  re : w.heap.size < r
theorem Fst.keep {w wi w' : World} {f : Fr} {r : Nat} (h : Fst w f r wi) (hb : Below wi.heap.size wi w') : Fst w f r w' := ⟨h.box.below hb h.box.lt, h.res.below hb h.res.lt, h.bel.trans (hb.mono h.bel.size), h.re⟩
theorem Fst.new {w w1 : World} (f : Fr) (h : w.alloc (.cells (Fr_.C f) 27) = w1) : Fst w f w1.heap.size (w1.alloc (.cells (Fr_.C Fr_.zf) 27)) := by
  subst h
  exact ⟨(Fr_.Box.newC w f).allocC _, Fr_.Box.newC _ Fr_.zf, ((Below.refl _ _).alloc (Nat.le_refl _) _).alloc (by simp) _, by simp⟩
theorem Fst.fin {w wi : World} {f : Fr} {r : Nat} (h : Fst w f r wi) (y : Fr) : Below w.heap.size w (wi.setRow r (Fr_.C y)) := below_setRow h.bel (Nat.le_of_lt h.re)
theorem Fst.zero {w wi : World} {f : Fr} {r : Nat} (h : Fst w f r wi) : (Fr_.StoreF ⟨r, 0, none⟩ (.agg #[.int .i64 0, .bool false, .bool false, .bool false, .bool false, .bool false, .bool false, .int .i64 0, .int .i64 0, .int .u64 0, .int .u64 0, .int .u64 0, .int .i64 0, .int .i64 0, .int .i64 0, .int .i64 0, .int .i64 0, .string ⟨#[]⟩])).run Tryd.prog wi = .ok () (wi.setRow r (Fr_.C Fr_.zf)) := h.res.storeF Fr_.zf

set_option maxRecDepth 100000 in
set_option maxHeartbeats 2000000 in
theorem cts_any (f : Fr) (w : World) (ht : HdTab w) (hp : PhBits w) (hu : FrU f) (hd : (Lit.int .i64 f.du).wf = true) :
    Calls Tryd.prog 11 #[Fr_.v f] w fun e w' => e = .returned (.tuple #[Fr_.v (ctsF f), .bool (decide (okC f))]) ∧ Below w.heap.size w w' := by
  obtain ⟨w1, hw1⟩ : ∃ w1, w.alloc (.cells (Fr_.C f) 27) = w1 := ⟨_, rfl⟩
  obtain ⟨w2, hw2⟩ : ∃ w2, w1.alloc (.cells #[.int .i64 0, .bool false, .bool false, .bool false, .bool false, .bool false, .bool false, .int .i64 0, .int .i64 0, .int .u64 0, .int .u64 0, .int .u64 0, .int .i64 0, .int .i64 0, .int .i64 0, .int .i64 0, .int .i64 0, .string ⟨#[]⟩] 27) = w2 := ⟨_, rfl⟩
  have st := Lib.hid (show Fst w f w1.heap.size w2 from hw2 ▸ Fst.new f hw1)
  have CA : Hid (∀ w1, Below w.heap.size w w1 → Calls Tryd.prog 30 #[Fr_.v f] w1 fun e w' => e = .returned (.bool (decide (ans f))) ∧ Below w1.heap.size w1 w') := fun w1 hb => answerable_any f w1 (HdTab.below ht hb (Nat.le_refl _)) hu
  have CW : Hid (∀ w1, Below w.heap.size w w1 → Calls Tryd.prog 31 #[.int .i64 13, .int .u64 f.fa, .int .i64 f.du] w1 fun e w' => e = .returned (Fr_.v (mkF 13 (rsd f.du 7) f.fa 0 ⟨#[]⟩)) ∧ Below w1.heap.size w1 w') := fun w1 hb => answer_any 13 f.fa f.du w1 (HdTab.below ht hb (Nat.le_refl _)) (PhBits.below hp hb (Nat.le_refl _)) (.inl rfl) hd
  have e2 := st.out.box.all
  have l2 := st.out.box.loadF
  clear ht hp hu hd
  by_cases hk : f.kd = 12
  · have hn : (f.kd != 12) = false := by rw [hk]; rfl
    by_cases ha : ans f
    · rw [decide_eq_true ha] at CA
      rw [decide_eq_true (show okC f from ⟨ha, hk⟩), show ctsF f = mkF 13 (rsd f.du 7) f.fa 0 ⟨#[]⟩ from if_pos ⟨ha, hk⟩]
      clear ha hk
      go_enter Tryd.func11, Tryd.ntmps11
      go_wp2_with (first
        | (go_at_call 30; refine (CA.out _ st.out.bel).mono ?_; rintro e w3 ⟨rfl, hb⟩; have st3 := Lib.hid (st.out.keep hb); clear hb e2 l2; have e3 := st3.out.box.all)
        | (go_at_call 31; refine (CW.out _ st3.out.bel).mono ?_; rintro e w4 ⟨rfl, hb⟩; have st4 := Lib.hid (st3.out.keep hb); clear hb e3; have sf := st4.out.res.storeF (mkF 13 (rsd f.du 7) f.fa 0 ⟨#[]⟩)))
      exact ret_two Tryd.results11 rfl rfl (st4.out.res.setRow _) rfl ⟨rfl, st4.out.fin _⟩
    · rw [decide_eq_false ha] at CA
      rw [decide_eq_false (show ¬ okC f from fun h => ha h.1), show ctsF f = Fr_.zf from if_neg (fun h => ha h.1)]
      clear ha hk
      go_enter Tryd.func11, Tryd.ntmps11
      go_wp2_with (first
        | (go_at_call 30; refine (CA.out _ st.out.bel).mono ?_; rintro e w3 ⟨rfl, hb⟩; have st3 := Lib.hid (st.out.keep hb); clear hb e2 l2; have sf := st3.out.zero))
      exact ret_two Tryd.results11 rfl rfl (st3.out.res.setRow _) rfl ⟨rfl, st3.out.fin _⟩
  · have hn : (f.kd != 12) = true := by rw [bne_iff_ne]; exact hk
    rw [decide_eq_false (show ¬ okC f from fun h => hk h.2), show ctsF f = Fr_.zf from if_neg (fun h => hk h.2)]
    have sf := st.out.zero
    clear hk
    go_enter Tryd.func11, Tryd.ntmps11
    go_wp2
    exact ret_two Tryd.results11 rfl rfl (st.out.res.setRow _) rfl ⟨rfl, st.out.fin _⟩
end Go.Proofs.YtjnafojgabkjmaaDoor
