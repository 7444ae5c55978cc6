/-
  THE WALK of the law WireStops: true, for every string, error and sequence of calls.
-/
import Derived.Test.YtekdfcbkpljllaaWrStates
import Derived.Test.YtekdfcbkpljllaaWrLives
import Derived.Test.YtekdfcbkpljllaaWrOps
namespace Go.Proofs.Ytekdfcbkpljllaa
open Go.RowKit Go.Wr

/-- A Reader with an error returns zero values from then on, and the error stays. -/
theorem tk_bad {e : Int} (he : e ≠ 0) (L : List UInt8) (n : Int) : tk e L n = (e, L, []) := by unfold tk; rw [if_pos he]
theorem gt_bad {e : Int} (he : e ≠ 0) (L : List UInt8) (n : Int) : gt e L n = (e, L, 0) := by unfold gt; rw [if_pos he]

set_option maxRecDepth 100000 in
set_option maxHeartbeats 8000000 in
theorem stops_walk (s : ByteArray) (e : Int) (ops : List Opr) (sa : Option Addr) (c : Nat) (w : World) (h : OpsAt w sa ops) :
    Calls Try.prog 6 #[.string s, .int .i64 e, .slice sa ops.length c] w fun e w' => e = .returned (.bool true) ∧ Below w.heap.size w w' := by
  have HL : Hid (∀ w, Calls Try.prog 9 #[] w fun e w' => e = .returned (.bool true) ∧ Below w.heap.size w w') := lives_any
  have HO := Lib.hid h
  clear h
  have HFW : Hid (∀ W, OpsAt W sa ops → Calls Try.prog 8 #[.slice sa ops.length c] W fun e w' => e = .returned (.bool (fewB ops)) ∧ W = w') := fun W h => few_any ops sa c W h
  by_cases hgo : fewB ops = true ∧ s.size ≤ 1000 ∧ e ≠ 0
  · obtain ⟨hfew, hs, he⟩ := hgo
    have hs' : ¬ (1000 : Int) < s.size := by omega
    have he' : (e == 0) = false := beq_eq_false_iff_ne.2 he
    have HE := Lib.hid he
    have hlen := fewB_len hfew
    rw [hfew] at HFW
    clear hfew hs he
    go_enter Try.func6, Try.ntmps6
    go_wp2_with (first | (go_at_call 8; refine (HFW.out _ HO.out).mono ?_; rintro e w' ⟨rfl, rfl⟩) | fail)
    refine (new_any s _).mono ?_
    rintro x w1 ⟨rfl, hw⟩
    have hR1 : Rd w1 w.heap.size 0 s := by rw [← hw]; exact Blk.new _ _ _ _ rfl
    have hB1 : Below w.heap.size w w1 := by rw [← hw]; exact (Below.refl _ _).alloc (Nat.le_refl _) _
    have HR1 := Lib.hid hR1
    have HB1 := Lib.hid hB1
    clear hw hR1 hB1
    go_wp2_with fail
    refine (fail_ok _ s e _ HR1.out).mono ?_
    rintro x w2 ⟨rfl, hw⟩
    have HR2 := Lib.hid (show Rd w2 w.heap.size e s by rw [← hw]; exact HR1.out.setE _)
    have HB2 := Lib.hid (show Below w.heap.size w w2 by rw [← hw]; exact HB1.out.setCell (Nat.le_refl _) _)
    clear hw HR1 HB1
    have HZ : Hid (Wr (w2.alloc (.cells #[.int .i64 0, .pointer none, .string ⟨#[]⟩] 30)) w2.heap.size []) := Wr.zero w2 _ rfl
    go_wp2_with fail
    refine (put_neg w2.heap.size (-1) 1 _ HZ.out.c0 (HZ.out.f 0) (by decide) (by decide) (by decide)).mono ?_
    rintro x w3 ⟨rfl, hw⟩
    have hsz : w.heap.size < w2.heap.size := Blk.lt HR2.out
    have HR3 : Hid (Rd w3 w.heap.size e s) := by rw [← hw]; exact (Blk.alloc HR2.out _).setOther (by simp; omega) _
    have HC3 : Hid (w3.cell? ⟨w2.heap.size, 0, none⟩ = some (.int .i64 4)) := by rw [← hw]; exact World.cell?_setCell_same _ _ _ HZ.out.c0
    have HB3 : Hid (Below w.heap.size w w3) := by rw [← hw]; exact (HB2.out.alloc (Nat.le_of_lt hsz) _).setCell (Nat.le_of_lt hsz) _
    have HG3 : Hid (w2.heap.size < w3.heap.size) := World.block_lt_of_cell? _ _ HC3.out
    have HSZ := Lib.hid hsz
    clear hw HZ HR2 HB2 hsz
    generalize w2.heap.size = g at *
    go_wp2
    go_loopw [9] (fun i wr => ∃ m : Nat, m ≤ ops.length ∧ i = .int .i64 m ∧ Rd wr w.heap.size e s ∧ wr.cell? ⟨g, 0, none⟩ = some (.int .i64 4) ∧ Below w.heap.size w wr ∧ g < wr.heap.size) (fun i _ => ops.length - (intOf i).toNat)
    case atStart => exact ⟨0, Nat.zero_le _, rfl, HR3.out, HC3.out, HB3.out, HG3.out⟩
    case round =>
      clear HR3 HC3 HB3 HG3
      obtain ⟨m, hm, rfl, hr, hc, hb, hgl⟩ := hrel
      have HR := Lib.hid hr
      have HC := Lib.hid hc
      have HB := Lib.hid hb
      have HG := Lib.hid hgl
      clear hr hc hb hgl
      by_cases hlt : m < ops.length
      · obtain ⟨b, off, rfl, hbl, c0, c1, c2, c3, c4⟩ := HO.out m hlt
        have HBB := Lib.hid hbl
        clear c0 hbl
        have d1 := (HB.out.cell (p := ⟨b, off + m * 5 + 1, none⟩) HBB.out).trans c1
        have d2 := (HB.out.cell (p := ⟨b, off + m * 5 + 2, none⟩) HBB.out).trans c2
        have d3 := (HB.out.cell (p := ⟨b, off + m * 5 + 3, none⟩) HBB.out).trans c3
        have d4 := (HB.out.cell (p := ⟨b, off + m * 5 + 4, none⟩) HBB.out).trans c4
        clear c1 c2 c3 c4
        generalize ops[m] = o at *
        obtain ⟨ok, on, oz, ot, oe⟩ := o
        dsimp only at d1 d2 d3 d4
        go_wp2
        go_region_with (go_at_call 10; go_loud (refine (put_bad g 4 _ _ _ ?hw rfl).mono ?_; (case hw => exact HC.out); rintro r w' ⟨rfl, rfl⟩))
        all_goals
          have HE' : Hid ((e == 0) = false) := he'
          go_wp2_with (first | (go_at_call 11; refine (text_bad g 4 _ _ ?hw rfl).mono ?_; (case hw => exact HC.out); rintro r w' ⟨rfl, rfl⟩) | (go_at_call 25; refine (fail_bad w.heap.size e _ _ ?hw HE'.out).mono ?_; (case hw => exact HR.out.c0); rintro r w' ⟨rfl, rfl⟩) | (go_at_call 12; refine (done_bad g 4 _ ?hw rfl).mono ?_; (case hw => exact HC.out); rintro r w4 ⟨rfl, hb4⟩; have HC4 := Lib.hid ((hb4.cell (p := ⟨g, 0, none⟩) HG.out).trans HC.out); have HR4 := Lib.hid (show Rd w4 w.heap.size e s from Blk.of_block (w := wr) HR.out (hb4.block _ (Blk.lt HR.out))); have HB4 := Lib.hid (HB.out.trans ((Below.refl _ _).drew.trans (hb4.mono HB.out.size))); have HG4 : Hid (g < w4.heap.size) := Nat.lt_of_lt_of_le HG.out hb4.size; have d1' := (hb4.cell (p := ⟨b, off + m * 5 + 1, none⟩) (Nat.lt_of_lt_of_le HBB.out HB.out.size)).trans d1; have d2' := (hb4.cell (p := ⟨b, off + m * 5 + 2, none⟩) (Nat.lt_of_lt_of_le HBB.out HB.out.size)).trans d2; clear hb4) | (go_at_call 14; refine (num_bad w.heap.size e _ _ HR4.out.c0 HE'.out).mono ?_; rintro r w' ⟨rfl, rfl⟩) | (go_at_call 15; refine (take_bad w.heap.size e _ _ HR4.out.c0 HE'.out).mono ?_; rintro r w' ⟨rfl, rfl⟩) | (go_at_call 26; refine (rest_bad w.heap.size e _ HR4.out.c0 HE'.out).mono ?_; rintro r w' ⟨rfl, rfl⟩) | (go_at_call 16; refine (left_bad w.heap.size e _ HR4.out.c0 HE'.out).mono ?_; rintro r w' ⟨rfl, rfl⟩) | (go_at_call 17; refine (err_any w.heap.size e _ HR4.out.c0).mono ?_; rintro r w' ⟨rfl, rfl⟩) | (go_at_call 18; refine (end_bad w.heap.size e _ HR4.out.c0 HE'.out).mono ?_; rintro r w' ⟨rfl, rfl⟩))
          go_roundw
          case rel => exact ⟨m + 1, by omega, by go_num, HR4.out, HC4.out, HB4.out, HG4.out⟩
          case measure => simp [intOf]; omega
      · obtain rfl : m = ops.length := by omega
        go_wp2_with (go_at_call 9; refine (HL.out _).mono ?_; rintro e w1 ⟨rfl, hb1⟩)
        go_returns
        exact ⟨rfl, HB.out.trans (hb1.mono HB.out.size)⟩
  · go_enter Try.func6, Try.ntmps6
    rcases (by
      by_cases h1 : fewB ops = true
      · by_cases h2 : s.size ≤ 1000
        · by_cases h3 : e ≠ 0
          · exact absurd ⟨h1, h2, h3⟩ hgo
          · exact .inr (.inr ⟨h1, by omega, by simpa using h3⟩)
        · exact .inr (.inl ⟨h1, by omega⟩)
      · exact .inl (by simpa using h1) : fewB ops = false ∨ (fewB ops = true ∧ (1000 : Int) < s.size) ∨ (fewB ops = true ∧ ¬ (1000 : Int) < s.size ∧ (e == 0) = true)) with hf | ⟨hf, hs⟩ | ⟨hf, hs, he⟩
    all_goals
      rw [hf] at HFW
      clear hgo hf
      go_wp2_with (first | (go_at_call 8; refine (HFW.out _ HO.out).mono ?_; rintro e w' ⟨rfl, rfl⟩) | (go_at_call 9; refine (HL.out _).mono ?_; rintro e w1 ⟨rfl, hb1⟩))
      go_returns
      exact ⟨rfl, hb1⟩

theorem wireStops_walk0 (s : ByteArray) (_ : s.size ≤ 140737488351232) (e : Int) (_ : (Lit.int .i64 e).wf = true) (sa : Option Addr) (ops : List Opr) (c : Nat) (W : World) (h : OpsAt W sa ops) :
    Calls Try.prog 6 #[.string s, .int .i64 e, .slice sa ops.length c] W fun e W' => e = .returned (.bool true) ∧ Below W.heap.size W W' := stops_walk s e ops sa c W h
end Go.Proofs.Ytekdfcbkpljllaa
