/-
  THE LAW TrainFinds, walked.
-/
import Derived.Test.YtoobajcpfonllaaDoorTnLives2
namespace Go.Proofs.YtoobajcpfonllaaDoor
open Go.RowKit Go.Tn Go.Wr Go.Ck

theorem fnd_sums {e p n a : Nat} (ha : a ≤ 10000) (h1 : e + 4 ≤ p) (h2 : p + n ≤ a) :
    IntKind.i64.wrap ((e : Int) + 4) = e + 4 ∧ IntKind.i64.wrap ((p : Int) + n) = p + n ∧ IntKind.i64.wrap ((p : Int) - 4) = (p : Int) - 4 ∧ wrap64 ((p : Int) + n) = p + n ∧ ((p - 4 : Nat) : Int) = (p : Int) - 4 :=
  ⟨IntWalk.i64_in _ (by omega), IntWalk.i64_in _ (by omega), IntWalk.i64_in _ (by omega), IntWalk.wrap64_in _ (by omega), by omega⟩
theorem fnd_decs {e p n a : Nat} (h1 : e + 4 ≤ p) (h2 : p + n ≤ a) (h3 : 1 ≤ n) (h4 : p % 4 = 0) :
    decide ((p : Int) < (e : Int) + 4) = false ∧ ((p : Int) % 4 != 0) = false ∧ decide ((n : Int) < 1) = false ∧ decide ((a : Int) < (p : Int) + n) = false ∧ (p : Int).tmod 4 = 0 :=
  ⟨decide_eq_false (by omega), by rw [bne_eq_false_iff_eq]; omega, decide_eq_false (by omega), decide_eq_false (by omega), by rw [Int.tmod_eq_emod_of_nonneg (by omega)]; omega⟩

set_option maxRecDepth 100000 in
set_option maxHeartbeats 4000000 in
theorem trainFinds_walk0 (s : ByteArray) (_ : s.size ≤ 140737488351232) (W : World) (hL : LaidFacts W) :
    Calls Tryd.prog 6 #[.string s] W fun e w' => e = .returned (.bool true) ∧ Below W.heap.size W w' := by
  have AW := Lib.hid lives17_any
  have HT := Lib.hid hL
  by_cases h1 : (10000 : Int) < (s.size : Int)
  · go_enter Tryd.func6, Tryd.ntmps6
    go_wp2_with (go_at_call 9; refine (AW.out _ HT.out).mono ?_; rintro e w1 ⟨rfl, hb1⟩)
    go_returns
    exact ⟨rfl, hb1⟩
  have hs : s.size ≤ 10000 := by omega
  have C1 := Lib.hid (tnDecode_any s W (by omega) hL)
  have hlen := dec_len s.data.toList
  have hl : s.data.toList.length = s.size := Array.length_toList
  have HF := Lib.hid fun k h => @dec_at s.data.toList k h
  have HE := Lib.hid fun k h => @en_succ (dec s.data.toList) k h
  unfold DecPost at C1
  have HE0 : Hid (en (dec s.data.toList) 0 = 0) := rfl
  have HSZ := Lib.hid hs
  have HUL := Lib.hid hl
  generalize dec s.data.toList = L at *
  have CD := Lib.hid fun n w h => r17Del_any n w h
  clear hL hs hl
  go_enter Tryd.func6, Tryd.ntmps6
  go_wp2_with (go_at_call 13; refine C1.out.mono ?_; rintro e w1 ⟨v1, n1, rfl, hs, h⟩; have S1 := Lib.hid hs; have B1 := Lib.hid h; clear h hs)
  go_loopw [4, 5] (fun z i wr => ∃ k : Nat, k ≤ L.length ∧ i = .int .i64 k ∧ z = .int .i64 (en L k : Nat) ∧ Below w1.heap.size w1 wr) (fun _ i _ => L.length - (intOf i).toNat)
  case atStart => exact ⟨0, Nat.zero_le _, rfl, by rw [HE0.out]; rfl, Below.refl _ _⟩
  case round =>
    rename World => wr
    obtain ⟨k, hk, rfl, rfl, hb⟩ := hrel
    have HB := Lib.hid hb
    by_cases hlt : k < L.length
    · obtain ⟨b, off, rfl, hbl, c0, c1⟩ := S1.out.lies k hlt
      obtain ⟨p, hp, f1, f2, f3, f4, f5, f6⟩ := HF.out k hlt
      have HN := Lib.hid (HE.out k hlt)
      have HLT := Lib.hid hlt
      rw [hp] at c0
      rw [HUL.out] at f4
      generalize L[k] = x at *
      generalize en L k = e0 at *
      obtain ⟨T, hT⟩ : ∃ T, T = x.s := ⟨_, rfl⟩
      rw [← hT] at c1 f3 f4 f5 f6 HN
      rw [hp, Int.toNat_natCast] at HN
      obtain ⟨q1, q2, q3, q4, q5⟩ := fnd_sums HSZ.out f1 f4
      obtain ⟨d1, d2, d3, d4, d5⟩ := fnd_decs f1 f4 f3 f2
      have hx1 : s.extract p (p + T.size) = T := ba_ext17 (by rw [ext_list17, Nat.add_sub_cancel_left]; exact f5)
      have hsl := slice17 s p (p + T.size) (Nat.le_add_right _ _) f4
      rw [hx1, show ((p + T.size : Nat) : Int) = (p : Int) + T.size from rfl] at hsl
      have hx2 : s.extract (p - 4) p = ⟨(del T.size).toArray⟩ := ba_ext17 (by rw [ext_list17, show p - (p - 4) = 4 by omega, f6])
      have hsl2 := slice17 s (p - 4) p (Nat.sub_le _ _) (Nat.le_trans (Nat.le_add_right _ _) f4)
      rw [hx2, q5] at hsl2
      have hts : T.size < 65536 := Nat.lt_of_le_of_lt (Nat.le_trans (Nat.le_trans (Nat.le_add_left _ _) f4) HSZ.out) (by decide)
      have CD' := Lib.hid fun w => CD.out T.size w hts
      generalize (⟨(del T.size).toArray⟩ : ByteArray) = D at *
      have e1 : (T.toList == T.toList) = true := by simp
      have e2 : (D.toList == D.toList) = true := by simp
      have i0 : (0 : Int) ≤ (k : Int) := by omega
      have i1 : (k : Int) < (L.length : Int) := by omega
      have hc0 : ∀ (q : Of (fun w' => Below w1.heap.size w1 w')), q.w.cell? ⟨b, off + k * 2, none⟩ = some (.int .i64 (p : Int)) := fun q => (q.ok.cell (by exact hbl)).trans c0
      have hc1 : ∀ (q : Of (fun w' => Below w1.heap.size w1 w')), q.w.cell? ⟨b, off + k * 2 + 1, none⟩ = some (.string T) := fun q => (q.ok.cell (by exact hbl)).trans c1
      have g1 : wr.cell? ⟨b, off + k * 2 + 1, none⟩ = some (.string T) := (hb.cell (by exact hbl)).trans c1
      have _ne : Nonempty (Of (fun w' => Below w1.heap.size w1 w')) := ⟨⟨_, HB.out⟩⟩
      have HQ4 := Lib.hid q4
      clear hb hbl c0 c1 f1 f2 f3 f4 f5 f6 hT hp hx1 hx2 hts q4 q5 HF HE
      go_wp2
      refine wp_region_of (fun w' => Below w1.heap.size w1 w') (by kernel_rfl) (Region.lexB_of_fast (by kernel_rfl)) HB.out.drew ?_
      simp only [List.append_eq, List.cons_append, List.nil_append]
      repeat (go_big_quiet_step (first | (go_at_call 18; exact Calls.of_below (fun _ _ h hb => h.trans (hb.mono h.size)) (CD'.out _))))
      refine wpQuiet_nil ?_
      rintro _ ⟨q, rfl⟩
      have HB2 := Lib.hid q.ok
      have g0 := hc0 q
      generalize q.w = w2 at *
      clear hc0 hc1 q1 q2 q3 d1 d2 d3 d4 d5 hsl hsl2
      go_wp2
      go_roundw
      case rel => exact ⟨k + 1, HLT.out, by go_num, by rw [HN.out]; exact congrArg (Value.int .i64) HQ4.out, HB2.out⟩
      case measure => have := HLT.out; simp [intOf]; omega
    · obtain rfl : k = L.length := by omega
      have h64 : decide ((L.length : Int) ≤ 64) = true := decide_eq_true (by omega)
      have h64' : (L.length : Int) ≤ 64 := by omega
      have HBW : Hid (Below W.heap.size W wr) := B1.out.trans (HB.out.mono B1.out.size)
      clear hb
      go_wp2_with (go_at_call 9; refine (AW.out _ (HT.out.bel HBW.out)).mono ?_; rintro e w4 ⟨rfl, h⟩; have B4 := Lib.hid (HBW.out.trans (h.mono HBW.out.size)); clear h)
      go_returns
      exact ⟨rfl, B4.out⟩
end Go.Proofs.YtoobajcpfonllaaDoor
