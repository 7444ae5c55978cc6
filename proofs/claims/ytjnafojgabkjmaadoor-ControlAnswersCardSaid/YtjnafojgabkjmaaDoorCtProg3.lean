/-
  WALKS of the landed package control (1e08cd0): Ack, writeStart, withBody, Request, Block.
-/
import Derived.Test.YtjnafojgabkjmaaDoorCtProg2
namespace Go.Proofs.YtjnafojgabkjmaaDoor
open Go.RowKit Go.Hd Go.Wr Go.Ct
attribute [local go_sem ↓ high] Fr_.loadF Fr_.storeF Fr_.v_cells Fr_.v_match
attribute [local go_sem] Fr_.C0 Fr_.C1 Fr_.C2 Fr_.C3 Fr_.C4 Fr_.C5 Fr_.C6 Fr_.C7 Fr_.C8 Fr_.C9 Fr_.C10 Fr_.C11 Fr_.C12 Fr_.C13 Fr_.C14 Fr_.C15 Fr_.C16 Fr_.C17 Fr_.storeF_zero

set_option maxRecDepth 100000 in
set_option maxHeartbeats 2000000 in
theorem ack_any (f : Fr) (w : World) (ht : HdTab w) (hp : PhBits w) (hu : FrU f) (hd : (Lit.int .i64 f.du).wf = true) :
    Calls Tryd.prog 25 #[Fr_.v f] w fun e w' => e = .returned (.tuple #[Fr_.v (ackF f), .bool (decide (okA f))]) ∧ Below w.heap.size w w' := by
  obtain ⟨w1, hw1⟩ : ∃ w1, w.alloc (.cells (Fr_.C f) 27) = w1 := ⟨_, rfl⟩
  obtain ⟨w2, hw2⟩ : ∃ w2, w1.alloc (.cells #[.int .i64 0, .bool false, .bool false, .bool false, .bool false, .bool false, .bool false, .int .i64 0, .int .i64 0, .int .u64 0, .int .u64 0, .int .u64 0, .int .i64 0, .int .i64 0, .int .i64 0, .int .i64 0, .int .i64 0, .string ⟨#[]⟩] 27) = w2 := ⟨_, rfl⟩
  have st := Lib.hid (show Fst w f w1.heap.size w2 from hw2 ▸ Fst.new f hw1)
  obtain ⟨r, hr⟩ : ∃ r, rsp f.kd = r := ⟨_, rfl⟩
  have CR : Hid (∀ w1, Below w.heap.size w w1 → Calls Tryd.prog 51 #[.int .i64 f.kd] w1 fun e w' => e = .returned (.int .i64 r) ∧ Below w1.heap.size w1 w') := fun w1 hb => hr ▸ response_any f.kd w1 (HdTab.below ht hb (Nat.le_refl _))
  have CA : Hid (∀ w1, Below w.heap.size w w1 → Calls Tryd.prog 30 #[Fr_.v f] w1 fun e w' => e = .returned (.bool (decide (ans f))) ∧ Below w1.heap.size w1 w') := fun w1 hb => answerable_any f w1 (HdTab.below ht hb (Nat.le_refl _)) hu
  have CW : Hid (∀ z, (Lit.int .i64 z).wf = true → ∀ w1, Below w.heap.size w w1 → Calls Tryd.prog 31 #[.int .i64 14, .int .u64 f.fa, .int .i64 z] w1 fun e w' => e = .returned (Fr_.v (mkF 14 (rsd z 7) f.fa 0 ⟨#[]⟩)) ∧ Below w1.heap.size w1 w') := fun z hz w1 hb => answer_any 14 f.fa z w1 (HdTab.below ht hb (Nat.le_refl _)) (PhBits.below hp hb (Nat.le_refl _)) (.inr rfl) hz
  have e2 := st.out.box.all
  clear ht hp hu
  by_cases hk : r = 14
  · have hn : (r != 14) = false := by rw [hk]; rfl
    by_cases ha : ans f
    · rw [decide_eq_true ha] at CA
      rw [decide_eq_true (show okA f from ⟨ha, hr.trans hk⟩), show ackF f = mkF 14 (if f.mo = true then rsd f.du 7 else 0) f.fa 0 ⟨#[]⟩ from if_pos ⟨ha, hr.trans hk⟩]
      clear ha hk hr
      by_cases hm : f.mo = true
      · rw [if_pos hm]
        have CV := Lib.hid (CW.out f.du hd)
        clear CW hd
        go_enter Tryd.func25, Tryd.ntmps25
        go_wp2_with (first
          | (go_at_call 51; refine (CR.out _ st.out.bel).mono ?_; rintro e w2' ⟨rfl, hb⟩; have st2 := Lib.hid (st.out.keep hb); clear hb e2; have l2 := st2.out.box.loadF)
          | (go_at_call 30; refine (CA.out _ st2.out.bel).mono ?_; rintro e w3 ⟨rfl, hb⟩; have st3 := Lib.hid (st2.out.keep hb); clear hb l2; have e3 := st3.out.box.all)
          | (go_at_call 31; refine (CV.out _ st3.out.bel).mono ?_; rintro e w4 ⟨rfl, hb⟩; have st4 := Lib.hid (st3.out.keep hb); clear hb e3; have sf := st4.out.res.storeF (mkF 14 (rsd f.du 7) f.fa 0 ⟨#[]⟩)))
        exact ret_two Tryd.results25 rfl rfl (st4.out.res.setRow _) rfl ⟨rfl, st4.out.fin _⟩
      · rw [if_neg hm]
        have hm' : f.mo = false := by simpa using hm
        have CV := Lib.hid (CW.out 0 (by decide))
        rw [show rsd 0 7 = 0 by decide] at CV
        clear CW hd hm
        go_enter Tryd.func25, Tryd.ntmps25
        go_wp2_with (first
          | (go_at_call 51; refine (CR.out _ st.out.bel).mono ?_; rintro e w2' ⟨rfl, hb⟩; have st2 := Lib.hid (st.out.keep hb); clear hb e2; have l2 := st2.out.box.loadF)
          | (go_at_call 30; refine (CA.out _ st2.out.bel).mono ?_; rintro e w3 ⟨rfl, hb⟩; have st3 := Lib.hid (st2.out.keep hb); clear hb l2; have e3 := st3.out.box.all)
          | (go_at_call 31; refine (CV.out _ st3.out.bel).mono ?_; rintro e w4 ⟨rfl, hb⟩; have st4 := Lib.hid (st3.out.keep hb); clear hb e3; have sf := st4.out.res.storeF (mkF 14 0 f.fa 0 ⟨#[]⟩)))
        exact ret_two Tryd.results25 rfl rfl (st4.out.res.setRow _) rfl ⟨rfl, st4.out.fin _⟩
    · rw [decide_eq_false ha] at CA
      rw [decide_eq_false (show ¬ okA f from fun h => ha h.1), show ackF f = Fr_.zf from if_neg (fun h => ha h.1)]
      clear ha hk hr hd CW
      go_enter Tryd.func25, Tryd.ntmps25
      go_wp2_with (first
        | (go_at_call 51; refine (CR.out _ st.out.bel).mono ?_; rintro e w2' ⟨rfl, hb⟩; have st2 := Lib.hid (st.out.keep hb); clear hb e2; have l2 := st2.out.box.loadF)
        | (go_at_call 30; refine (CA.out _ st2.out.bel).mono ?_; rintro e w3 ⟨rfl, hb⟩; have st3 := Lib.hid (st2.out.keep hb); clear hb l2; have sf := st3.out.zero))
      exact ret_two Tryd.results25 rfl rfl (st3.out.res.setRow _) rfl ⟨rfl, st3.out.fin _⟩
  · have hn : (r != 14) = true := by rw [bne_iff_ne]; exact hk
    rw [decide_eq_false (show ¬ okA f from fun h => hk (hr.symm.trans h.2)), show ackF f = Fr_.zf from if_neg (fun h => hk (hr.symm.trans h.2))]
    clear hk hr hd CW
    go_enter Tryd.func25, Tryd.ntmps25
    go_wp2_with (first
      | (go_at_call 51; refine (CR.out _ st.out.bel).mono ?_; rintro e w2' ⟨rfl, hb⟩; have st2 := Lib.hid (st.out.keep hb); clear hb e2; have sf := st2.out.zero))
    exact ret_two Tryd.results25 rfl rfl (st2.out.res.setRow _) rfl ⟨rfl, st2.out.fin _⟩

theorem put_int (b : Nat) (L : List UInt8) (n : Int) (k : Nat) (w : World) (h : Wr w b L) (hk : 1 ≤ k ∧ k ≤ 6) (hn : 0 ≤ n ∧ n < (pow k : Nat)) (hL : L.length ≤ 1000000) :
    Calls Tryd.prog 43 #[.pointer (some ⟨b, 0, none⟩), .int .i64 n, .int .i64 (k : Int)] w fun e w' => e = .returned (.tuple #[]) ∧ Wr w' b (L ++ le n.toNat k) ∧ But b w w' := by
  have c := put_ok b L n.toNat k w h hk.1 hk.2 (by omega) (by omega)
  rw [Int.toNat_of_nonneg hn.1] at c
  exact c

set_option maxRecDepth 100000 in
set_option maxHeartbeats 2000000 in
theorem writeStart_any (b : Nat) (c s : Int) (w : World) (h : Wr w b []) (hw : win c s) :
    Calls Tryd.prog 40 #[.pointer (some ⟨b, 0, none⟩), .int .i64 c, .int .i64 s] w fun e w' => e = .returned (.tuple #[]) ∧ Wr w' b (ql c s) ∧ But b w w' := by
  have C1 : Hid (∀ w, Wr w b [] → Calls Tryd.prog 43 #[.pointer (some ⟨b, 0, none⟩), .int .i64 c, .int .i64 1] w fun e w' => e = .returned (.tuple #[]) ∧ Wr w' b (le c.toNat 1) ∧ But b w w') := fun w h => put_int b [] c 1 w h ⟨by decide, by decide⟩ (by have := hw.1; rw [show pow 1 = 256 by decide]; omega) (by decide)
  have C2 : Hid (∀ w, Wr w b (le c.toNat 1) → Calls Tryd.prog 43 #[.pointer (some ⟨b, 0, none⟩), .int .i64 s, .int .i64 2] w fun e w' => e = .returned (.tuple #[]) ∧ Wr w' b (ql c s) ∧ But b w w') := fun w h => put_int b _ s 2 w h ⟨by decide, by decide⟩ (by have := hw.2; rw [show pow 2 = 65536 by decide]; omega) (by rw [le_len]; decide)
  have H := Lib.hid h
  clear h hw
  go_enter Tryd.func40, Tryd.ntmps40
  go_wp2_with (first
    | (go_at_call 43; with_reducible refine (C1.out _ H.out).mono ?_; rintro e w1 ⟨rfl, h1, b1⟩; have H1 := Lib.hid h1; have B1 := Lib.hid b1; clear h1 b1)
    | (go_at_call 43; with_reducible refine (C2.out _ H1.out).mono ?_; rintro e w2 ⟨rfl, h1, b1⟩; have H2 := Lib.hid h1; have B2 := Lib.hid (B1.out.trans b1); clear h1 b1))
  go_returns
  exact ⟨rfl, H2.out, B2.out⟩

theorem Gst.but {wb wi w' : World} {r b : Nat} (h : Gst wb r wi) (hb : But b wi w') (hne : r ≠ b) (hle : wb.heap.size ≤ b) : Gst wb r w' :=
  ⟨(hb.block r h.res.lt hne).trans h.res, h.bel.trans (hb.below h.bel.size hle), h.re⟩
theorem Fst.but {w wi w' : World} {f : Fr} {r b : Nat} (h : Fst w f r wi) (hb : But b wi w') (hne : r ≠ b) (hlt : w.heap.size < b) : Fst w f r w' :=
  ⟨(hb.block _ h.box.lt (Nat.ne_of_lt hlt)).trans h.box, (hb.block r h.res.lt hne).trans h.res, h.bel.trans (hb.below h.bel.size (Nat.le_of_lt hlt)), h.re⟩

set_option maxRecDepth 100000 in
set_option maxHeartbeats 2000000 in
theorem withBody_any (k ta fa : Int) (b : Nat) (L : List UInt8) (w : World) (h : Wr w b L) (hL : L.length ≤ 1000000) :
    Calls Tryd.prog 41 #[.int .i64 k, .int .u64 ta, .int .u64 fa, .pointer (some ⟨b, 0, none⟩)] w fun e w' => e = .returned (Fr_.v (mkF k 0 ta fa (bw L))) ∧ Below w.heap.size w w' := by
  obtain ⟨w1, hw1⟩ : ∃ w1, w.alloc (.cells #[.int .i64 0, .bool false, .bool false, .bool false, .bool false, .bool false, .bool false, .int .i64 0, .int .i64 0, .int .u64 0, .int .u64 0, .int .u64 0, .int .i64 0, .int .i64 0, .int .i64 0, .int .i64 0, .int .i64 0, .string ⟨#[]⟩] 27) = w1 := ⟨_, rfl⟩
  have st := Lib.hid (show Gst w w.heap.size w1 from hw1 ▸ Gst.new w)
  have H := Lib.hid (h.below st.out.bel)
  have CD : Hid (∀ w, Wr w b L → Calls Tryd.prog 62 #[.pointer (some ⟨b, 0, none⟩)] w fun e w' => e = .returned (.tuple #[.string (bw L), .int .i64 0]) ∧ Below w.heap.size w w') := fun w h => done_ok b L w h (by omega)
  have hf := mk_fold k 0 ta fa (bw L)
  clear h hL
  go_enter Tryd.func41, Tryd.ntmps41
  go_wp2_with (go_at_call 62; refine (CD.out _ H.out).mono ?_; rintro e w2 ⟨rfl, hb⟩; have st2 := Lib.hid (st.out.keep hb); clear hb; have sf := st2.out.res.storeF (mkF k 0 ta fa (bw L)))
  exact ret_frame Tryd.results41 rfl (st2.out.res.setRow _) rfl ⟨rfl, st2.out.fin _⟩

/-- A new Writer. -/
theorem wr_new (w : World) : Wr (w.alloc (.cells #[.int .i64 0, .pointer none, .string ⟨#[]⟩] 59)) w.heap.size [] := ⟨none, ⟨#[]⟩, [], Blk.new _ _ _ _ rfl, .nil, rfl⟩

set_option maxRecDepth 100000 in
set_option maxHeartbeats 2000000 in
theorem request_any (ta fa c s : Int) (w : World) :
    Calls Tryd.prog 13 #[.int .u64 ta, .int .u64 fa, .int .i64 c, .int .i64 s] w fun e w' => e = .returned (Fr_.v (reqF ta fa c s)) ∧ Below w.heap.size w w' := by
  obtain ⟨w1, hw1⟩ : ∃ w1, w.alloc (.cells #[.int .i64 0, .bool false, .bool false, .bool false, .bool false, .bool false, .bool false, .int .i64 0, .int .i64 0, .int .u64 0, .int .u64 0, .int .u64 0, .int .i64 0, .int .i64 0, .int .i64 0, .int .i64 0, .int .i64 0, .string ⟨#[]⟩] 27) = w1 := ⟨_, rfl⟩
  have st := Lib.hid (show Gst w w.heap.size w1 from hw1 ▸ Gst.new w)
  have CI := Lib.hid (inRange_any c s)
  by_cases hw : win c s
  · rw [decide_eq_true hw] at CI
    rw [show reqF ta fa c s = mkF 15 0 ta fa (bw (ql c s)) from if_pos hw]
    obtain ⟨w2, hw2⟩ : ∃ w2, w1.alloc (.cells #[.int .i64 0, .pointer none, .string ⟨#[]⟩] 59) = w2 := ⟨_, rfl⟩
    have st2 := Lib.hid (show Gst w w.heap.size w2 from hw2 ▸ st.out.keep ((Below.refl _ _).alloc (Nat.le_refl _) _))
    have H2 := Lib.hid (show Wr w2 w1.heap.size [] from hw2 ▸ wr_new w1)
    have HN : Hid (w.heap.size < w1.heap.size) := by rw [← hw1]; unfold Hid; simp
    have CW : Hid (∀ w, Wr w w1.heap.size [] → Calls Tryd.prog 40 #[.pointer (some ⟨w1.heap.size, 0, none⟩), .int .i64 c, .int .i64 s] w fun e w' => e = .returned (.tuple #[]) ∧ Wr w' w1.heap.size (ql c s) ∧ But w1.heap.size w w') := fun w h => writeStart_any _ c s w h hw
    have CB : Hid (∀ w, Wr w w1.heap.size (ql c s) → Calls Tryd.prog 41 #[.int .i64 15, .int .u64 ta, .int .u64 fa, .pointer (some ⟨w1.heap.size, 0, none⟩)] w fun e w' => e = .returned (Fr_.v (mkF 15 0 ta fa (bw (ql c s)))) ∧ Below w.heap.size w w') := fun w h => withBody_any 15 ta fa _ _ w h (by rw [ql_len]; decide)
    clear hw
    go_enter Tryd.func13, Tryd.ntmps13
    go_wp2_with (first
      | (go_at_call 39; refine (CI.out _).mono ?_; rintro e w' ⟨rfl, rfl⟩)
      | (go_at_call 40; refine (CW.out _ H2.out).mono ?_; rintro e w3 ⟨rfl, h3, b3⟩; have H3 := Lib.hid h3; have st3 := Lib.hid (st2.out.but b3 (Nat.ne_of_lt HN.out) (Nat.le_of_lt HN.out)); clear h3 b3)
      | (go_at_call 41; refine (CB.out _ H3.out).mono ?_; rintro e w4 ⟨rfl, hb⟩; have st4 := Lib.hid (st3.out.keep hb); clear hb; have sf := st4.out.res.storeF (mkF 15 0 ta fa (bw (ql c s)))))
    exact ret_frame Tryd.results13 rfl (st4.out.res.setRow _) rfl ⟨rfl, st4.out.fin _⟩
  · rw [decide_eq_false hw] at CI
    rw [show reqF ta fa c s = Fr_.zf from if_neg hw]
    have sf : (Fr_.StoreF ⟨w.heap.size, 0, none⟩ (.agg #[.int .i64 0, .bool false, .bool false, .bool false, .bool false, .bool false, .bool false, .int .i64 0, .int .i64 0, .int .u64 0, .int .u64 0, .int .u64 0, .int .i64 0, .int .i64 0, .int .i64 0, .int .i64 0, .int .i64 0, .string ⟨#[]⟩])).run Tryd.prog w1 = .ok () (w1.setRow w.heap.size (Fr_.C Fr_.zf)) := st.out.res.storeF Fr_.zf
    clear hw
    go_enter Tryd.func13, Tryd.ntmps13
    go_wp2_with (first
      | (go_at_call 39; refine (CI.out _).mono ?_; rintro e w' ⟨rfl, rfl⟩))
    exact ret_frame Tryd.results13 rfl (st.out.res.setRow _) rfl ⟨rfl, st.out.fin _⟩
end Go.Proofs.YtjnafojgabkjmaaDoor
