/-
  WALKS of the reference of layer 11: Ack, Request, read, ReadRequest.
-/
import Derived.Test.YtjnafojgabkjmaaDoorCtRef
import Derived.Test.YtjnafojgabkjmaaDoorCtProg5
import Derived.Test.YtjnafojgabkjmaaDoorWrRefW
import Derived.Test.YtjnafojgabkjmaaDoorWrRefR
namespace Go.Proofs.YtjnafojgabkjmaaDoor
open Go.RowKit Go.Hd Go.Wr Go.Ct
attribute [local go_sem ↓ high] Fr_.loadF Fr_.storeF Fr_.v_cells Fr_.v_match
attribute [local go_sem] Fr_.C0 Fr_.C1 Fr_.C2 Fr_.C3 Fr_.C4 Fr_.C5 Fr_.C6 Fr_.C7 Fr_.C8 Fr_.C9 Fr_.C10 Fr_.C11 Fr_.C12 Fr_.C13 Fr_.C14 Fr_.C15 Fr_.C16 Fr_.C17 Fr_.storeF_zero

set_option maxRecDepth 100000 in
set_option maxHeartbeats 2000000 in
theorem refAck_any (f : Fr) (w : World) (hu : FrU f) (hd : (Lit.int .i64 f.du).wf = true) :
    Calls Tryd.prog 26 #[Fr_.v f] w fun e w' => e = .returned (.tuple #[Fr_.v (ackF f), .bool (decide (okA f))]) ∧ Below w.heap.size w w' := by
  obtain ⟨w1, hw1⟩ : ∃ w1, w.alloc (.cells (Fr_.C f) 27) = w1 := ⟨_, rfl⟩
  obtain ⟨w2, hw2⟩ : ∃ w2, w1.alloc (.cells #[.int .i64 0, .bool false, .bool false, .bool false, .bool false, .bool false, .bool false, .int .i64 0, .int .i64 0, .int .u64 0, .int .u64 0, .int .u64 0, .int .i64 0, .int .i64 0, .int .i64 0, .int .i64 0, .int .i64 0, .string ⟨#[]⟩] 27) = w2 := ⟨_, rfl⟩
  have st := Lib.hid (show Fst w f w1.heap.size w2 from hw2 ▸ Fst.new f hw1)
  have CA := Lib.hid (fun w1 => refAnswerable_any f w1 hu)
  have CR := Lib.hid (fun w => refRespond_any f.du 7 w hd (by decide))
  obtain ⟨r, hr⟩ : ∃ r, rsp f.kd = r := ⟨_, rfl⟩
  have CS : Hid (∀ w1, Calls Tryd.prog 52 #[.int .i64 f.kd] w1 fun e w' => e = .returned (.int .i64 r) ∧ w1 = w') := fun w1 => hr ▸ refResponse_any f.kd w1
  have l2 := st.out.box.loadF
  clear hu hd
  by_cases ha : ans f
  · rw [decide_eq_true ha] at CA
    by_cases hk : r = 14
    · have hn : (r != 14) = false := by rw [hk]; rfl
      rw [decide_eq_true (show okA f from ⟨ha, hr.trans hk⟩), show ackF f = mkF 14 (if f.mo = true then rsd f.du 7 else 0) f.fa 0 ⟨#[]⟩ from if_pos ⟨ha, hr.trans hk⟩]
      have hf := mk_fold 14 0 f.fa 0 ⟨#[]⟩
      clear ha hk hr
      by_cases hm : f.mo = true
      · rw [if_pos hm]
        go_enter Tryd.func26, Tryd.ntmps26
        go_wp2_with (first
          | (go_at_call 50; refine (CA.out _).mono ?_; rintro e w3 ⟨rfl, hb⟩; have st3 := Lib.hid (st.out.keep hb); clear hb l2; have e3 := st3.out.box.all
             obtain ⟨w4, hw4⟩ : ∃ w4, w3.alloc (.cells (Fr_.C (mkF 14 0 f.fa 0 ⟨#[]⟩)) 27) = w4 := ⟨_, rfl⟩
             have st4 := Lib.hid (show Fst w f w1.heap.size w4 from hw4 ▸ st3.out.keep ((Below.refl _ _).alloc (Nat.le_refl _) _))
             have B4 := Lib.hid (show Fr_.Box w4 w3.heap.size (mkF 14 0 f.fa 0 ⟨#[]⟩) from hw4 ▸ Fr_.Box.newC w3 _)
             have HN : Hid (w1.heap.size < w3.heap.size) := st3.out.res.lt
             have e4 := st4.out.box.all
             have d4 := B4.out.all
             have f4 := B4.out.frozen)
          | (go_at_call 52; refine (CS.out _).mono ?_; rintro e w' ⟨rfl, rfl⟩)
          | (go_at_call 22; refine (CR.out _).mono ?_; rintro e w5 ⟨rfl, rfl⟩; have B5 := Lib.hid (show Fr_.Box _ w3.heap.size (mkF 14 (rsd f.du 7) f.fa 0 ⟨#[]⟩) from B4.out.set8 (rsd f.du 7)); have G5 := Lib.hid (Fr_.Box.other st4.out.res (a := ⟨w3.heap.size, 8, none⟩) (Nat.ne_of_lt HN.out) (.int .i64 (rsd f.du 7))); have l5 := B5.out.loadF; have sf := G5.out.storeF (mkF 14 (rsd f.du 7) f.fa 0 ⟨#[]⟩)))
        exact ret_two Tryd.results26 rfl rfl (G5.out.setRow _) rfl ⟨rfl, below_setRow (st4.out.bel.setCell (p := ⟨w3.heap.size, 8, none⟩) (Nat.le_of_lt (Nat.lt_trans st4.out.re HN.out)) _) (Nat.le_of_lt st4.out.re)⟩
      · rw [if_neg hm]
        have hm' : f.mo = false := by simpa using hm
        clear hm
        go_enter Tryd.func26, Tryd.ntmps26
        go_wp2_with (first
          | (go_at_call 50; refine (CA.out _).mono ?_; rintro e w3 ⟨rfl, hb⟩; have st3 := Lib.hid (st.out.keep hb); clear hb l2; have e3 := st3.out.box.all
             obtain ⟨w4, hw4⟩ : ∃ w4, w3.alloc (.cells (Fr_.C (mkF 14 0 f.fa 0 ⟨#[]⟩)) 27) = w4 := ⟨_, rfl⟩
             have st4 := Lib.hid (show Fst w f w1.heap.size w4 from hw4 ▸ st3.out.keep ((Below.refl _ _).alloc (Nat.le_refl _) _))
             have B4 := Lib.hid (show Fr_.Box w4 w3.heap.size (mkF 14 0 f.fa 0 ⟨#[]⟩) from hw4 ▸ Fr_.Box.newC w3 _)
             have e4 := st4.out.box.all
             have l4 := B4.out.loadF
             have sf := st4.out.res.storeF (mkF 14 0 f.fa 0 ⟨#[]⟩))
          | (go_at_call 52; refine (CS.out _).mono ?_; rintro e w' ⟨rfl, rfl⟩))
        exact ret_two Tryd.results26 rfl rfl (st4.out.res.setRow _) rfl ⟨rfl, st4.out.fin _⟩
    · have hn : (r != 14) = true := by rw [bne_iff_ne]; exact hk
      rw [decide_eq_false (show ¬ okA f from fun h => hk (hr.symm.trans h.2)), show ackF f = Fr_.zf from if_neg (fun h => hk (hr.symm.trans h.2))]
      clear ha hk hr
      go_enter Tryd.func26, Tryd.ntmps26
      go_wp2_with (first
        | (go_at_call 50; refine (CA.out _).mono ?_; rintro e w3 ⟨rfl, hb⟩; have st3 := Lib.hid (st.out.keep hb); clear hb l2; have e3 := st3.out.box.all; have sf := st3.out.zero)
        | (go_at_call 52; refine (CS.out _).mono ?_; rintro e w' ⟨rfl, rfl⟩))
      exact ret_two Tryd.results26 rfl rfl (st3.out.res.setRow _) rfl ⟨rfl, st3.out.fin _⟩
  · rw [decide_eq_false ha] at CA
    rw [decide_eq_false (show ¬ okA f from fun h => ha h.1), show ackF f = Fr_.zf from if_neg (fun h => ha h.1)]
    clear ha hr
    go_enter Tryd.func26, Tryd.ntmps26
    go_wp2_with (first
      | (go_at_call 50; refine (CA.out _).mono ?_; rintro e w3 ⟨rfl, hb⟩; have st3 := Lib.hid (st.out.keep hb); clear hb l2; have sf := st3.out.zero))
    exact ret_two Tryd.results26 rfl rfl (st3.out.res.setRow _) rfl ⟨rfl, st3.out.fin _⟩

/-! ### Octets -/
theorem bw_add (s t : List UInt8) (h : s.length + t.length ≤ 1000000) (W : World) : (Op.stringOp .add (bw s) (bw t)).run Tryd.prog W = .ok (.string (bw (s ++ t))) W := by
  have := run_string_add_sum (P := Tryd.prog) W (bw s) (bw t) (by rw [bw_size, bw_size]; omega)
  rw [this]
  congr 2
theorem octets_int (z : Int) (k : Nat) (w : World) (h1 : 1 ≤ k ∧ k ≤ 6) (hz : 0 ≤ z ∧ z < 281474976710656) :
    Calls Tryd.prog 49 #[.int .i64 z, .int .i64 (k : Int)] w fun e w' => e = .returned (.string (bw (le z.toNat k))) ∧ Below w.heap.size w w' := by
  have c := octets_any z.toNat k w h1.1 h1.2 (by omega)
  rw [Int.toNat_of_nonneg hz.1] at c
  exact c

set_option maxRecDepth 100000 in
set_option maxHeartbeats 2000000 in
theorem refRequest_any (ta fa c s : Int) (w : World) :
    Calls Tryd.prog 20 #[.int .u64 ta, .int .u64 fa, .int .i64 c, .int .i64 s] w fun e w' => e = .returned (Fr_.v (reqF ta fa c s)) ∧ Below w.heap.size w w' := by
  obtain ⟨w1, hw1⟩ : ∃ w1, w.alloc (.cells #[.int .i64 0, .bool false, .bool false, .bool false, .bool false, .bool false, .bool false, .int .i64 0, .int .i64 0, .int .u64 0, .int .u64 0, .int .u64 0, .int .i64 0, .int .i64 0, .int .i64 0, .int .i64 0, .int .i64 0, .string ⟨#[]⟩] 27) = w1 := ⟨_, rfl⟩
  have st := Lib.hid (show Gst w w.heap.size w1 from hw1 ▸ Gst.new w)
  have CI := Lib.hid (within_any c s)
  by_cases hw : win c s
  · rw [decide_eq_true hw] at CI
    rw [show reqF ta fa c s = mkF 15 0 ta fa (bw (ql c s)) from if_pos hw]
    have O1 : Hid (∀ w, Calls Tryd.prog 49 #[.int .i64 c, .int .i64 1] w fun e w' => e = .returned (.string (bw (le c.toNat 1))) ∧ Below w.heap.size w w') := fun w => octets_int c 1 w ⟨by decide, by decide⟩ (by have := hw.1; omega)
    have O2 : Hid (∀ w, Calls Tryd.prog 49 #[.int .i64 s, .int .i64 2] w fun e w' => e = .returned (.string (bw (le s.toNat 2))) ∧ Below w.heap.size w w') := fun w => octets_int s 2 w ⟨by decide, by decide⟩ (by have := hw.2; omega)
    have ha : ∀ W, (Op.stringOp .add (bw (le c.toNat 1)) (bw (le s.toNat 2))).run Tryd.prog W = .ok (.string (bw (ql c s))) W := fun W => bw_add _ _ (by rw [le_len, le_len]; decide) W
    have hf := mk_fold 15 0 ta fa (bw (ql c s))
    clear hw
    go_enter Tryd.func20, Tryd.ntmps20
    go_wp2_with (first
      | (go_at_call 48; refine (CI.out _).mono ?_; rintro e w' ⟨rfl, rfl⟩)
      | (go_at_call 49; with_reducible refine (O1.out _).mono ?_; rintro e w3 ⟨rfl, hb⟩; have st3 := Lib.hid (st.out.keep hb); clear hb)
      | (go_at_call 49; with_reducible refine (O2.out _).mono ?_; rintro e w4 ⟨rfl, hb⟩; have st4 := Lib.hid (st3.out.keep hb); clear hb; have sf := st4.out.res.storeF (mkF 15 0 ta fa (bw (ql c s)))))
    exact ret_frame Tryd.results20 rfl (st4.out.res.setRow _) rfl ⟨rfl, st4.out.fin _⟩
  · rw [decide_eq_false hw] at CI
    rw [show reqF ta fa c s = Fr_.zf from if_neg hw]
    have sf : (Fr_.StoreF ⟨w.heap.size, 0, none⟩ (.agg #[.int .i64 0, .bool false, .bool false, .bool false, .bool false, .bool false, .bool false, .int .i64 0, .int .i64 0, .int .u64 0, .int .u64 0, .int .u64 0, .int .i64 0, .int .i64 0, .int .i64 0, .int .i64 0, .int .i64 0, .string ⟨#[]⟩])).run Tryd.prog w1 = .ok () (w1.setRow w.heap.size (Fr_.C Fr_.zf)) := st.out.res.storeF Fr_.zf
    clear hw
    go_enter Tryd.func20, Tryd.ntmps20
    go_wp2_with (first
      | (go_at_call 48; refine (CI.out _).mono ?_; rintro e w' ⟨rfl, rfl⟩))
    exact ret_frame Tryd.results20 rfl (st.out.res.setRow _) rfl ⟨rfl, st.out.fin _⟩

/-! ### Reading -/
set_option maxRecDepth 100000 in
set_option maxHeartbeats 2000000 in
theorem get_one (s : ByteArray) (k : Nat) (w : World) (hk : 1 ≤ k ∧ k ≤ 6) (hs : k ≤ s.size) :
    Calls Tryd.prog 73 #[.agg #[.string s, .int .i64 0], .int .i64 (k : Int)] w fun e w' => e = .returned (.tuple #[.agg #[.string (s.extract k s.size), .int .i64 0], .int .i64 (val (s.data.toList.take k) : Int)]) ∧ Below w.heap.size w w' := by
  have hz : (s.extract 0 k).size ≤ 6 := by simp; omega
  have h := refGet_via s (s.extract k s.size) (s.extract 0 k) 0 0 (k : Int) w hz (.inr ⟨rfl, by omega, by omega⟩) (fun W => refTake_ok s k W hs)
  have e : (s.extract 0 k).data.toList = s.data.toList.take k := by simp
  rw [e] at h
  exact h
set_option maxRecDepth 100000 in
set_option maxHeartbeats 2000000 in
theorem refRead11_any (f : Fr) (k : Int) (n : Nat) (hn : 3 ≤ n ∧ n ≤ 100) (w : World) :
    Calls Tryd.prog 54 #[Fr_.v f, .int .i64 k, .int .i64 (n : Int)] w fun e w' => e = .returned (.tuple #[.int .i64 (rdC f k n), .int .i64 (rdS f k n), .int .i64 (rdE f k n)]) ∧ Below w.heap.size w w' := by
  obtain ⟨w1, hw1⟩ : ∃ w1, w.alloc (.cells (Fr_.C f) 27) = w1 := ⟨_, rfl⟩
  have S1 := Lib.hid (show Stf w w.heap.size f w1 from hw1 ▸ Stf.new w f)
  have e1 := S1.out.box.all
  by_cases hk : f.kd = k
  · have hkn : (f.kd != k) = false := by rw [hk]; simp
    by_cases h1 : f.bo.size < n
    · have hE : rdE f k n = 1 := by unfold rdE; rw [if_neg (not_not_intro hk), if_pos h1]
      have h1' : (f.bo.size : Int) < (n : Int) := by omega
      rw [(rd_bad (by rw [hE]; decide)).1, (rd_bad (by rw [hE]; decide)).2, hE]
      clear hk hE h1 hn
      go_enter Tryd.func54, Tryd.ntmps54
      go_wp2
      go_returns
      exact ⟨rfl, S1.out.bel⟩
    · have h1' : ¬ (f.bo.size : Int) < (n : Int) := by omega
      by_cases h2 : n < f.bo.size
      · have hE : rdE f k n = 2 := by unfold rdE; rw [if_neg (not_not_intro hk), if_neg h1, if_pos h2]
        have h2' : (n : Int) < (f.bo.size : Int) := by omega
        rw [(rd_bad (by rw [hE]; decide)).1, (rd_bad (by rw [hE]; decide)).2, hE]
        clear hk hE h1 h2 hn
        go_enter Tryd.func54, Tryd.ntmps54
        go_wp2
        go_returns
        exact ⟨rfl, S1.out.bel⟩
      · have h2' : ¬ (n : Int) < (f.bo.size : Int) := by omega
        have hz : f.bo.data.toList.length = f.bo.size := Array.length_toList
        have G1 : Hid (∀ w, Calls Tryd.prog 73 #[.agg #[.string f.bo, .int .i64 0], .int .i64 1] w fun e w' => e = .returned (.tuple #[.agg #[.string (f.bo.extract 1 f.bo.size), .int .i64 0], .int .i64 (val (f.bo.data.toList.take 1) : Int)]) ∧ Below w.heap.size w w') := fun w => get_one f.bo 1 w ⟨by decide, by decide⟩ (by omega)
        have hx : (f.bo.extract 1 f.bo.size).data.toList = f.bo.data.toList.drop 1 := by simp; rw [List.take_of_length_le (by rw [List.length_tail]; omega)]
        have G2 : Hid (∀ w, Calls Tryd.prog 73 #[.agg #[.string (f.bo.extract 1 f.bo.size), .int .i64 0], .int .i64 2] w fun e w' => e = .returned (.tuple #[.agg #[.string ((f.bo.extract 1 f.bo.size).extract 2 (f.bo.extract 1 f.bo.size).size), .int .i64 0], .int .i64 (val ((f.bo.data.toList.drop 1).take 2) : Int)]) ∧ Below w.heap.size w w') := fun w => by
          have h := get_one (f.bo.extract 1 f.bo.size) 2 w ⟨by decide, by decide⟩ (by simp; omega)
          rw [hx] at h
          exact h
        have CI := Lib.hid (within_any (val (f.bo.data.toList.take 1) : Int) (val ((f.bo.data.toList.drop 1).take 2) : Int))
        have HE : rdE f k n = if win (val (f.bo.data.toList.take 1)) (val ((f.bo.data.toList.drop 1).take 2)) then 0 else 4 := by unfold rdE; rw [if_neg (not_not_intro hk), if_neg h1, if_neg h2]
        have HC : rdE f k n = 0 → rdC f k n = (val (f.bo.data.toList.take 1) : Nat) ∧ rdS f k n = (val ((f.bo.data.toList.drop 1).take 2) : Nat) := fun h => by unfold rdC rdS; rw [if_pos h, if_pos h]; exact ⟨rfl, rfl⟩
        generalize val (f.bo.data.toList.take 1) = x1 at *
        generalize val ((f.bo.data.toList.drop 1).take 2) = x2 at *
        obtain ⟨t1, ht1⟩ : ∃ t, f.bo.extract 1 f.bo.size = t := ⟨_, rfl⟩
        rw [ht1] at G1 G2
        obtain ⟨t2, ht2⟩ : ∃ t, t1.extract 2 t1.size = t := ⟨_, rfl⟩
        rw [ht2] at G2
        by_cases hw : win (x1 : Int) (x2 : Int)
        · rw [if_pos hw] at HE
          rw [(HC HE).1, (HC HE).2, HE]
          rw [decide_eq_true hw] at CI
          clear hw HE HC hk h1 h2 hn hz hx ht1 ht2
          go_enter Tryd.func54, Tryd.ntmps54
          go_wp2_with (first
            | (go_at_call 73; with_reducible refine (G1.out _).mono ?_; rintro e w2 ⟨rfl, hb⟩; have B2 := Lib.hid (S1.out.bel.trans (hb.mono S1.out.bel.size)); clear hb)
            | (go_at_call 73; with_reducible refine (G2.out _).mono ?_; rintro e w3 ⟨rfl, hb⟩; have B3 := Lib.hid ((B2.out.alloc B2.out.size _).trans (hb.mono (B2.out.alloc B2.out.size _).size)); clear hb)
            | (go_at_call 48; refine (CI.out _).mono ?_; rintro e w' ⟨rfl, rfl⟩))
          go_returns
          exact ⟨rfl, B3.out.alloc B3.out.size _⟩
        · rw [if_neg hw] at HE
          rw [(rd_bad (by rw [HE]; decide)).1, (rd_bad (by rw [HE]; decide)).2, HE]
          rw [decide_eq_false hw] at CI
          clear hw HE HC hk h1 h2 hn hz hx ht1 ht2
          go_enter Tryd.func54, Tryd.ntmps54
          go_wp2_with (first
            | (go_at_call 73; with_reducible refine (G1.out _).mono ?_; rintro e w2 ⟨rfl, hb⟩; have B2 := Lib.hid (S1.out.bel.trans (hb.mono S1.out.bel.size)); clear hb)
            | (go_at_call 73; with_reducible refine (G2.out _).mono ?_; rintro e w3 ⟨rfl, hb⟩; have B3 := Lib.hid ((B2.out.alloc B2.out.size _).trans (hb.mono (B2.out.alloc B2.out.size _).size)); clear hb)
            | (go_at_call 48; refine (CI.out _).mono ?_; rintro e w' ⟨rfl, rfl⟩))
          go_returns
          exact ⟨rfl, B3.out.alloc B3.out.size _⟩
  · have hkn : (f.kd != k) = true := by rw [bne_iff_ne]; exact hk
    have hE : rdE f k n = 3 := by unfold rdE; rw [if_pos hk]
    rw [(rd_bad (by rw [hE]; decide)).1, (rd_bad (by rw [hE]; decide)).2, hE]
    clear hk hE hn
    go_enter Tryd.func54, Tryd.ntmps54
    go_wp2
    go_returns
    exact ⟨rfl, S1.out.bel⟩

set_option maxRecDepth 100000 in
set_option maxHeartbeats 2000000 in
theorem refReadRequest_any (f : Fr) (w : World) :
    Calls Tryd.prog 28 #[Fr_.v f] w fun e w' => e = .returned (.tuple #[.int .i64 (rdC f 15 3), .int .i64 (rdS f 15 3), .int .i64 (rdE f 15 3)]) ∧ Below w.heap.size w w' := by
  have S1 := Lib.hid (Stf.new w f)
  have l1 := S1.out.box.loadF
  have C : Hid (∀ w, Calls Tryd.prog 54 #[Fr_.v f, .int .i64 15, .int .i64 3] w fun e w' => e = .returned (.tuple #[.int .i64 (rdC f 15 3), .int .i64 (rdS f 15 3), .int .i64 (rdE f 15 3)]) ∧ Below w.heap.size w w') := fun w => refRead11_any f 15 3 ⟨by decide, by decide⟩ w
  go_enter Tryd.func28, Tryd.ntmps28
  go_wp2_with (go_at_call 54; refine (C.out _).mono ?_; rintro e w2 ⟨rfl, hb⟩; have B2 := Lib.hid (S1.out.bel.trans (hb.mono S1.out.bel.size)); clear hb)
  go_returns
  exact ⟨rfl, B2.out⟩
end Go.Proofs.YtjnafojgabkjmaaDoor
