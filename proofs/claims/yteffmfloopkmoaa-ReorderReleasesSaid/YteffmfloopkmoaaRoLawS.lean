/-
  THE WALK of ReorderSteps.
-/
import Derived.Test.YteffmfloopkmoaaRoLives
import Derived.Test.YteffmfloopkmoaaRoRefF
import Derived.Test.YteffmfloopkmoaaRoRefG
namespace Go.Proofs.Yteffmfloopkmoaa
open Go.RowKit Go.Ro Go.Sq Go.Wr
attribute [local go_sem ↓ high] Rw_.loadF Rw_.storeF Rw_.v_cells Rw_.v_match
attribute [local go_sem] Rw_.C0 Rw_.C1 Rw_.C2 Rw_.loadF_new Rw_.storeF_zero Oper.semAt_some

/-- What a call handed back, kept in a variable. -/
structure Kp (B : Nat) (x : Rw) (p : Bf) (sa : Option Addr) (l : List ByteArray) (c : Nat) (wi : World) : Prop where
  bx : Rw_.Box wi B x
  ls : Lies wi x p
  sl : Ss_.Sl wi sa l c
theorem Kp.below {B : Nat} {x : Rw} {p : Bf} {sa : Option Addr} {l : List ByteArray} {c : Nat} {wi wj : World} (h : Kp B x p sa l c wi) (hb : Below wi.heap.size wi wj) : Kp B x p sa l c wj := ⟨h.bx.below hb h.bx.lt, h.ls.below hb, h.sl.below hb⟩
/-- What came in. -/
structure Rst (W : World) (x : Rw) (b : Bf) (o : Oq) (wi : World) : Prop where
  bx : Rw_.Box wi W.heap.size x
  ob : Oq_.Box wi (W.heap.size + 1) o
  bel : Below W.heap.size W wi
  ls : Lies wi x b
theorem Rst.below {W : World} {x : Rw} {b : Bf} {o : Oq} {wi wj : World} (h : Rst W x b o wi) (hb : Below wi.heap.size wi wj) : Rst W x b o wj := ⟨h.bx.below hb h.bx.lt, h.ob.below hb h.ob.lt, h.bel.trans (hb.mono h.bel.size), h.ls.below hb⟩

theorem rel_len (b : Bf) (s : Int) : (rel b s).2.length ≤ b.hs.length := by
  show ((b.hs.take _).map (·.d)).length ≤ _
  rw [List.length_map, List.length_take]; omega
theorem put_len {b : Bf} (hb : Ok b) (q : Int) (d : ByteArray) : (put b q d).2.2.length ≤ 1000 := by
  have h0 := hb.len
  unfold put
  split
  · exact Nat.zero_le _
  · split
    · have := rel_len (ins b q d) b.st
      rw [ins_len] at this
      show (rel (ins b q d) b.st).2.length ≤ 1000
      omega
    · have := rel_len (ins b q d) (add q (1 - b.sz))
      rw [ins_len] at this
      show (rel (ins b q d) (add q (1 - b.sz))).2.length ≤ 1000
      omega
theorem move_len {b : Bf} (hb : Ok b) (s : Int) : (Ro.move b s).2.length ≤ 1000 := by
  have h0 := hb.len
  unfold Ro.move
  split
  · have := rel_len b s; omega
  · exact Nat.zero_le _
theorem flush_len {b : Bf} (hb : Ok b) : (flush b).2.length ≤ 1000 := by
  have h0 := hb.len
  have := rel_len b (fst b)
  unfold flush; omega

set_option maxRecDepth 100000 in
set_option maxHeartbeats 8000000 in
theorem reorderSteps_walk1 (x : Rw) (b : Bf) (o : Oq) (W : World) (hL : Lies W x b) :
    Calls Try.prog 5 #[Rw_.v x, Oq_.v o] W fun e w' => e = .returned (.bool true) ∧ Below W.heap.size W w' := by
  obtain ⟨w0, hw0⟩ : ∃ w0, W.alloc (.cells (Rw_.C x) 25) = w0 := ⟨_, rfl⟩
  obtain ⟨w1, hw1⟩ : ∃ w1, w0.alloc (.cells #[.int .i64 o.k, .int .i64 o.q, .string o.d] 31) = w1 := ⟨_, rfl⟩
  have z0 : w0.heap.size = W.heap.size + 1 := by rw [← hw0]; simp
  have R1 : Hid (Rst W x b o w1) := by
    have b0 : Below W.heap.size W w0 := hw0 ▸ (Below.refl _ _).alloc (Nat.le_refl _) _
    have b1 : Below w0.heap.size w0 w1 := hw1 ▸ (Below.refl _ _).alloc (Nat.le_refl _) _
    have X0 : Rw_.Box w0 W.heap.size x := hw0 ▸ Rw_.Box.new W x
    have bb := b0.trans (b1.mono (by omega))
    exact ⟨X0.below b1 X0.lt, by rw [← hw1, ← z0]; exact Oq_.Box.new w0 o rfl, bb, hL.below bb⟩
  have l1 := R1.out.bx.loadF
  have e1 := R1.out.ob.cells
  have hn := not20
  have CM := Lib.hid (r_small_any x b w1 R1.out.ls)
  have CL := Lib.hid lives20_any
  have K1 : Hid (small b = true → ∀ W, Lies W x b → Calls Try.prog 16 #[Rw_.v x] W fun e w' => e = .returned (.int .i64 (chk b)) ∧ Below W.heap.size W w') := fun h W hl => r_check_any x b W hl (by have := (small_iff.1 h).1; omega)
  have hov : Oq_.v o = .agg #[.int .i64 o.k, .int .i64 o.q, .string o.d] := rfl
  rw [hov]
  clear hov
  cases hm : small b
  · rw [hm] at CM
    clear hL
    go_enter Try.func5, Try.ntmps5
    go_wp2_with (first
      | (go_at_call 12; refine CM.out.mono ?_; rintro e w2 ⟨rfl, h2⟩; have B2 := Lib.hid (R1.out.bel.trans (h2.mono R1.out.bel.size)); clear h2)
      | (go_at_call 8; refine (CL.out _).mono ?_; rintro e w3 ⟨rfl, h3⟩; have B3 := Lib.hid (B2.out.trans (h3.mono B2.out.size)); clear h3))
    go_returns
    exact ⟨rfl, B3.out⟩
  rw [hm] at CM
  have K1 := Lib.hid (K1.out hm)
  clear hm
  by_cases hc : chk b = 0
  case neg =>
    have hc' : (chk b != 0) = true := by rw [bne_iff_ne]; exact hc
    clear hL hc
    generalize chk b = K at *
    go_enter Try.func5, Try.ntmps5
    go_wp2_with (first
      | (go_at_call 12; refine CM.out.mono ?_; rintro e w2 ⟨rfl, h2⟩; have R2 := Lib.hid (R1.out.below h2); have l2 := R2.out.bx.loadF; clear h2)
      | (go_at_call 16; refine (K1.out w2 R2.out.ls).mono ?_; rintro e w3 ⟨rfl, h3⟩; have R3 := Lib.hid (R2.out.below h3); clear h3)
      | (go_at_call 8; refine (CL.out _).mono ?_; rintro e w4 ⟨rfl, h4⟩; have B4 := Lib.hid (R3.out.bel.trans (h4.mono R3.out.bel.size)); clear h4))
    go_returns
    exact ⟨rfl, B4.out⟩
  have hok := (chk_ok b).1 hc
  rw [hc] at K1
  clear hc
  by_cases h3 : 3000 < o.d.size
  case pos =>
    have h3' : (3000 : Int) < (o.d.size : Int) := by omega
    clear hL hok
    go_enter Try.func5, Try.ntmps5
    go_wp2_with (first
      | (go_at_call 12; refine CM.out.mono ?_; rintro e w2 ⟨rfl, h2⟩; have R2 := Lib.hid (R1.out.below h2); have l2 := R2.out.bx.loadF; clear h2)
      | (go_at_call 16; refine (K1.out w2 R2.out.ls).mono ?_; rintro e w3 ⟨rfl, h3⟩; have R3 := Lib.hid (R2.out.below h3); have e3 := R3.out.ob.cells; clear h3)
      | (go_at_call 8; refine (CL.out _).mono ?_; rintro e w4 ⟨rfl, h4⟩; have B4 := Lib.hid (R3.out.bel.trans (h4.mono R3.out.bel.size)); clear h4))
    go_returns
    exact ⟨rfl, B4.out⟩
  have h3' : ¬ (3000 : Int) < (o.d.size : Int) := by omega
  have hd5 : o.d.size ≤ 5000 := by omega
  have PP := Lib.hid (fun w (h : Lies w x b) => ro_put_any x b o.q o.d w h hok hd5)
  have PR := Lib.hid (fun w (h : Lies w x b) => r_put_any x b o.q o.d w h hok hd5)
  have MP := Lib.hid (fun w (h : Lies w x b) => ro_move_any x b o.q w h hok)
  have MR := Lib.hid (fun w (h : Lies w x b) => r_move_any x b o.q w h hok)
  have FP := Lib.hid (fun w (h : Lies w x b) => ro_flush_any x b w h hok)
  have FR := Lib.hid (fun w (h : Lies w x b) => r_flush_any x b w h hok)
  have HLP := put_len hok o.q o.d
  have HLM := move_len hok o.q
  have HLF := flush_len hok
  have HOP := (put_ok hok o.q o.d).len
  have HOM := (move_ok hok o.q).len
  have HOF := (flush_ok hok).len
  unfold PutPost at PP
  unfold RPutPost at PR
  unfold RelPost at MP FP
  unfold RPost at MR FR
  obtain ⟨P1, N1, L1, hP⟩ : ∃ P1 N1 L1, put b o.q o.d = (P1, N1, L1) := ⟨_, _, _, rfl⟩
  obtain ⟨P2, L2, hM⟩ : ∃ P2 L2, Ro.move b o.q = (P2, L2) := ⟨_, _, rfl⟩
  obtain ⟨P3, L3, hF⟩ : ∃ P3 L3, flush b = (P3, L3) := ⟨_, _, rfl⟩
  rw [hP] at PP PR HLP HOP
  rw [hM] at MP MR HLM HOM
  rw [hF] at FP FR HLF HOF
  dsimp only at PP PR MP MR FP FR HLP HLM HLF HOP HOM HOF
  have S1 := Lib.hid (fun y y' w h h' => r_same_any y y' P1 w h h' (Nat.le_trans HOP (by decide)))
  have S2 := Lib.hid (fun y y' w h h' => r_same_any y y' P2 w h h' (Nat.le_trans HOM (by decide)))
  have S3 := Lib.hid (fun y y' w h h' => r_same_any y y' P3 w h h' (Nat.le_trans HOF (by decide)))
  have D1 := Lib.hid (fun sa sb c c' w h h' => r_sameData_any L1 sa sb c c' w h h' HLP)
  have D2 := Lib.hid (fun sa sb c c' w h h' => r_sameData_any L2 sa sb c c' w h h' HLM)
  have D3 := Lib.hid (fun sa sb c c' w h h' => r_sameData_any L3 sa sb c c' w h h' HLF)
  clear hL hok h3 hd5 hP hM hF HLP HLM HLF HOP HOM HOF
  go_enter Try.func5, Try.ntmps5
  go_wp2_with (first
    | (go_at_call 12; refine CM.out.mono ?_; rintro e w2 ⟨rfl, h2⟩; have R2 := Lib.hid (R1.out.below h2); have l2 := R2.out.bx.loadF; clear h2)
    | (go_at_call 16; refine (K1.out w2 R2.out.ls).mono ?_; rintro e w3 ⟨rfl, h3⟩; have R3 := Lib.hid (R2.out.below h3); have e3 := R3.out.ob.cells; have l3 := R3.out.bx.loadF; clear h3)
    | fail)
  refine (PP.out w3 R3.out.ls).mono ?_
  rintro e wa4 ⟨x4, sa4, c4, rfl, hl, hs, hb, -, -⟩
  obtain ⟨w4, hw⟩ : ∃ w4, wa4.alloc (.cells (Rw_.C x4) 25) = w4 := ⟨_, rfl⟩
  have hz4 := Rw_.storeF_zero wa4 x4
  rw [hw] at hz4
  have bB : Below wa4.heap.size wa4 w4 := hw ▸ (Below.refl _ _).alloc (Nat.le_refl _) _
  have hbB := hb.trans (bB.mono hb.size)
  have Q4_4 := Lib.hid (show Kp wa4.heap.size x4 P1 sa4 L1 c4 w4 from ⟨hw ▸ Rw_.Box.new wa4 x4, hl.below bB, hs.below bB⟩)
  have R4 := Lib.hid (R3.out.below hbB)
  have l4 := R4.out.bx.loadF
  have e4 := R4.out.ob.cells
  clear hl hs hb bB hw hbB l3 e3 PP
  go_wp2_with fail
  refine (PR.out w4 R4.out.ls).mono ?_
  rintro e wa5 ⟨x5, sa5, c5, rfl, hl, hs, hb⟩
  obtain ⟨w5, hw⟩ : ∃ w5, wa5.alloc (.cells (Rw_.C x5) 25) = w5 := ⟨_, rfl⟩
  have hz5 := Rw_.storeF_zero wa5 x5
  rw [hw] at hz5
  have bB : Below wa5.heap.size wa5 w5 := hw ▸ (Below.refl _ _).alloc (Nat.le_refl _) _
  have hbB := hb.trans (bB.mono hb.size)
  have Q5_5 := Lib.hid (show Kp wa5.heap.size x5 P1 sa5 L1 c5 w5 from ⟨hw ▸ Rw_.Box.new wa5 x5, hl.below bB, hs.below bB⟩)
  have Q4_5 := Lib.hid (Q4_4.out.below hbB)
  have R5 := Lib.hid (R4.out.below hbB)
  have l5 := R5.out.bx.loadF
  have e5 := R5.out.ob.cells
  clear hl hs hb bB hw hbB l4 e4 PR
  clear Q4_4
  go_wp2_with fail
  refine (MP.out w5 R5.out.ls).mono ?_
  rintro e wa6 ⟨x6, sa6, c6, rfl, hl, hs, hb, -, -⟩
  obtain ⟨w6, hw⟩ : ∃ w6, wa6.alloc (.cells (Rw_.C x6) 25) = w6 := ⟨_, rfl⟩
  have hz6 := Rw_.storeF_zero wa6 x6
  rw [hw] at hz6
  have bB : Below wa6.heap.size wa6 w6 := hw ▸ (Below.refl _ _).alloc (Nat.le_refl _) _
  have hbB := hb.trans (bB.mono hb.size)
  have Q6_6 := Lib.hid (show Kp wa6.heap.size x6 P2 sa6 L2 c6 w6 from ⟨hw ▸ Rw_.Box.new wa6 x6, hl.below bB, hs.below bB⟩)
  have Q4_6 := Lib.hid (Q4_5.out.below hbB)
  have Q5_6 := Lib.hid (Q5_5.out.below hbB)
  have R6 := Lib.hid (R5.out.below hbB)
  have l6 := R6.out.bx.loadF
  have e6 := R6.out.ob.cells
  clear hl hs hb bB hw hbB l5 e5 MP
  clear Q4_5
  clear Q5_5
  go_wp2_with fail
  refine (MR.out w6 R6.out.ls).mono ?_
  rintro e wa7 ⟨x7, sa7, c7, rfl, hl, hs, hb⟩
  obtain ⟨w7, hw⟩ : ∃ w7, wa7.alloc (.cells (Rw_.C x7) 25) = w7 := ⟨_, rfl⟩
  have hz7 := Rw_.storeF_zero wa7 x7
  rw [hw] at hz7
  have bB : Below wa7.heap.size wa7 w7 := hw ▸ (Below.refl _ _).alloc (Nat.le_refl _) _
  have hbB := hb.trans (bB.mono hb.size)
  have Q7_7 := Lib.hid (show Kp wa7.heap.size x7 P2 sa7 L2 c7 w7 from ⟨hw ▸ Rw_.Box.new wa7 x7, hl.below bB, hs.below bB⟩)
  have Q4_7 := Lib.hid (Q4_6.out.below hbB)
  have Q5_7 := Lib.hid (Q5_6.out.below hbB)
  have Q6_7 := Lib.hid (Q6_6.out.below hbB)
  have R7 := Lib.hid (R6.out.below hbB)
  have l7 := R7.out.bx.loadF
  have e7 := R7.out.ob.cells
  clear hl hs hb bB hw hbB l6 e6 MR
  clear Q4_6
  clear Q5_6
  clear Q6_6
  go_wp2_with fail
  refine (FP.out w7 R7.out.ls).mono ?_
  rintro e wa8 ⟨x8, sa8, c8, rfl, hl, hs, hb, -, -⟩
  obtain ⟨w8, hw⟩ : ∃ w8, wa8.alloc (.cells (Rw_.C x8) 25) = w8 := ⟨_, rfl⟩
  have hz8 := Rw_.storeF_zero wa8 x8
  rw [hw] at hz8
  have bB : Below wa8.heap.size wa8 w8 := hw ▸ (Below.refl _ _).alloc (Nat.le_refl _) _
  have hbB := hb.trans (bB.mono hb.size)
  have Q8_8 := Lib.hid (show Kp wa8.heap.size x8 P3 sa8 L3 c8 w8 from ⟨hw ▸ Rw_.Box.new wa8 x8, hl.below bB, hs.below bB⟩)
  have Q4_8 := Lib.hid (Q4_7.out.below hbB)
  have Q5_8 := Lib.hid (Q5_7.out.below hbB)
  have Q6_8 := Lib.hid (Q6_7.out.below hbB)
  have Q7_8 := Lib.hid (Q7_7.out.below hbB)
  have R8 := Lib.hid (R7.out.below hbB)
  have l8 := R8.out.bx.loadF
  have e8 := R8.out.ob.cells
  clear hl hs hb bB hw hbB l7 e7 FP
  clear Q4_7
  clear Q5_7
  clear Q6_7
  clear Q7_7
  go_wp2_with fail
  refine (FR.out w8 R8.out.ls).mono ?_
  rintro e wa9 ⟨x9, sa9, c9, rfl, hl, hs, hb⟩
  obtain ⟨w9, hw⟩ : ∃ w9, wa9.alloc (.cells (Rw_.C x9) 25) = w9 := ⟨_, rfl⟩
  have hz9 := Rw_.storeF_zero wa9 x9
  rw [hw] at hz9
  have bB : Below wa9.heap.size wa9 w9 := hw ▸ (Below.refl _ _).alloc (Nat.le_refl _) _
  have hbB := hb.trans (bB.mono hb.size)
  have Q9_9 := Lib.hid (show Kp wa9.heap.size x9 P3 sa9 L3 c9 w9 from ⟨hw ▸ Rw_.Box.new wa9 x9, hl.below bB, hs.below bB⟩)
  have Q4_9 := Lib.hid (Q4_8.out.below hbB)
  have Q5_9 := Lib.hid (Q5_8.out.below hbB)
  have Q6_9 := Lib.hid (Q6_8.out.below hbB)
  have Q7_9 := Lib.hid (Q7_8.out.below hbB)
  have Q8_9 := Lib.hid (Q8_8.out.below hbB)
  have R9 := Lib.hid (R8.out.below hbB)
  have l9 := R9.out.bx.loadF
  have e9 := R9.out.ob.cells
  clear hl hs hb bB hw hbB l8 e8 FR
  clear Q4_8
  clear Q5_8
  clear Q6_8
  clear Q7_8
  clear Q8_8
  have m4 := Q4_9.out.bx.loadF
  have m5 := Q5_9.out.bx.loadF
  go_wp2_with (first
    | (go_at_call 14; with_reducible refine (S1.out x4 x5 w9 Q4_9.out.ls Q5_9.out.ls).mono ?_; rintro e u1 ⟨rfl, h⟩; have Q4 := Lib.hid (Q4_9.out.below h); have Q5 := Lib.hid (Q5_9.out.below h); have Q6 := Lib.hid (Q6_9.out.below h); have Q7 := Lib.hid (Q7_9.out.below h); have Q8 := Lib.hid (Q8_9.out.below h); have Q9 := Lib.hid (Q9_9.out.below h); have U1 := Lib.hid (R9.out.bel.trans (h.mono R9.out.bel.size)); clear h)
    | (go_at_call 23; with_reducible refine (D1.out sa4 sa5 c4 c5 u1 Q4.out.sl Q5.out.sl).mono ?_; rintro e u2 ⟨rfl, h⟩; have Q6b := Lib.hid (Q6.out.below h); have Q7b := Lib.hid (Q7.out.below h); have Q8b := Lib.hid (Q8.out.below h); have Q9b := Lib.hid (Q9.out.below h); have U2 := Lib.hid (U1.out.trans (h.mono U1.out.size)); have m6 := Q6b.out.bx.loadF; have m7 := Q7b.out.bx.loadF; clear h)
    | (go_at_call 14; with_reducible refine (S2.out x6 x7 u2 Q6b.out.ls Q7b.out.ls).mono ?_; rintro e u3 ⟨rfl, h⟩; have Q6c := Lib.hid (Q6b.out.below h); have Q7c := Lib.hid (Q7b.out.below h); have Q8c := Lib.hid (Q8b.out.below h); have Q9c := Lib.hid (Q9b.out.below h); have U3 := Lib.hid (U2.out.trans (h.mono U2.out.size)); clear h)
    | (go_at_call 23; with_reducible refine (D2.out sa6 sa7 c6 c7 u3 Q6c.out.sl Q7c.out.sl).mono ?_; rintro e u4 ⟨rfl, h⟩; have Q8d := Lib.hid (Q8c.out.below h); have Q9d := Lib.hid (Q9c.out.below h); have U4 := Lib.hid (U3.out.trans (h.mono U3.out.size)); have m8 := Q8d.out.bx.loadF; have m9 := Q9d.out.bx.loadF; clear h)
    | (go_at_call 14; with_reducible refine (S3.out x8 x9 u4 Q8d.out.ls Q9d.out.ls).mono ?_; rintro e u5 ⟨rfl, h⟩; have Q8e := Lib.hid (Q8d.out.below h); have Q9e := Lib.hid (Q9d.out.below h); have U5 := Lib.hid (U4.out.trans (h.mono U4.out.size)); clear h)
    | (go_at_call 23; with_reducible refine (D3.out sa8 sa9 c8 c9 u5 Q8e.out.sl Q9e.out.sl).mono ?_; rintro e u6 ⟨rfl, h⟩; have U6 := Lib.hid (U5.out.trans (h.mono U5.out.size)); clear h)
    | (go_at_call 8; refine (CL.out u6).mono ?_; rintro e u7 ⟨rfl, h⟩; have U7 := Lib.hid (U6.out.trans (h.mono U6.out.size)); clear h))
  go_returns
  exact ⟨rfl, U7.out⟩

theorem reorderSteps_walk0 {W : World} (x : Rw) (b : Bf) (hL : Lies W x b) (o : Oq) (_ : (Lit.int .i64 o.k).wf = true ∧ (Lit.int .i64 o.q).wf = true) :
    Calls Try.prog 5 #[Rw_.v x, Oq_.v o] W fun e w' => e = .returned (.bool true) ∧ Below W.heap.size W w' := reorderSteps_walk1 x b o W hL
end Go.Proofs.Yteffmfloopkmoaa
