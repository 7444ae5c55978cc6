/-
  WALKS of package train: first, Decode (whose search is a label and gotos back to it).
-/
import Derived.Test.YtacbhbejchjbiaaDoorTnEnc
import Derived.Test.YtacbhbejchjbiaaDoorRdTot
import Derived.WalkMore
import Derived.ScopeJumps
import Derived.Deep.Slices
namespace Go
/-- A scope in which the run jumps back to one label, as 'wp_scope_jumps'; what is shown of every pass from the label serves for the first one too. -/
theorem wp_scope_jumps1 {P : Program} {a : Act} {w : World} {Q : Exit → Act → World → Prop} {c rest : Code} (l : Nat) (J : Act → World → Prop) (μ : Act → World → Nat) (hf : findLabel c l = some (.seq .skip rest))
    (pass : ∀ a w, J a w → rest.wp P (Exit.jump l (fun a' w' => J a' w' ∧ μ a' w' < μ a w) Q) a w)
    (first : (∀ a w, J a w → rest.wp P (Exit.jump l J Q) a w) → c.wp P (Exit.jump l J Q) a w) : (Code.scope c).wp P Q a w :=
  wp_scope_jumps l J μ hf (first fun a w hj => wp_mono (pass a w hj) fun e a' w' h => by
    cases e with
    | goto l' => exact ⟨h.1, h.2.1⟩
    | _ => exact h) fun a w hj => wp_seq (wp_skip (pass a w hj))
end Go
namespace Go.Proofs.YtacbhbejchjbiaaDoor
open Go.RowKit Go.Tn Go.Wr Go.Ck

theorem fN_bad {u : List UInt8} (h : ¬ (1 ≤ val (u.take 2) ∧ val (u.take 2) ≤ 2300 ∧ u.take 4 = del (val (u.take 2)) ∧ 4 + val (u.take 2) ≤ u.length)) : fN u = 0 := if_neg h
theorem rN_ok17 {k : Nat} {u : List UInt8} (h : k ≤ u.length) : rN k (0, u) = ((val (u.take k) : Int), (0, u.drop k)) := by unfold rN; simp [h]

/-- What first answers. -/
def fO (u : List UInt8) : ByteArray := ⟨((u.drop 4).take (fN u)).toArray⟩
theorem fO_none {u : List UInt8} (h : fN u = 0) : fO u = ⟨#[]⟩ := by unfold fO; rw [h, List.take_zero]
theorem fO_size (u : List UInt8) : (fO u).size = fN u := by
  show ((u.drop 4).take (fN u)).toArray.size = _
  rw [List.size_toArray, List.length_take, List.length_drop]
  by_cases h : fN u = 0
  · omega
  · have := (fN_pos h).2.2.2.2; omega

set_option maxRecDepth 100000 in
set_option maxHeartbeats 4000000 in
theorem tnFirst_any (s : ByteArray) (w : World) (h4 : 4 ≤ s.size) (hs : s.size ≤ 140737488351232) (ht : TnTab w) :
    Calls Tryd.prog 17 #[.string s] w fun e w' => e = .returned (.string (fO s.data.toList)) ∧ Below w.heap.size w w' := by
  have HT := Lib.hid ht
  have CNw := Lib.hid (new_any s w)
  have RN := Lib.hid (rs_new w s)
  have hl : s.data.toList.length = s.size := Array.length_toList
  have hx : (s.extract 0 2).data.toList = s.data.toList.take 2 := by simp
  have hxs : (s.extract 0 2).size ≤ 140737488351232 := by simp; omega
  have hsl : ∀ W, (Instr.slice 9 (.string s) none (some (.int .i64 2)) none).run Tryd.prog W = .ok (.string (s.extract 0 2)) W := fun W => sliceTo s 2 (by omega) W
  obtain ⟨u, hu⟩ : ∃ u, u = s.data.toList := ⟨_, rfl⟩
  rw [← hu] at hl hx RN
  rw [← hu]
  have CS : Hid (∀ wi, Below w.heap.size w wi → Calls Tryd.prog 41 #[.string (s.extract 0 2)] wi fun e w' => e = .returned (.int .u8 (crc8 (u.take 2) : Int)) ∧ wi = w') := fun wi hb => by
    have := sum8_any (s.extract 0 2) wi hxs (HT.out.bel hb).t8
    rw [hx] at this; exact this
  generalize s.extract 0 2 = s2 at *
  have W0 : Hid (Rs (w.alloc (.cells #[.int .i64 0, .string s] 82)) w.heap.size (0, u) ∧ Below w.heap.size w (w.alloc (.cells #[.int .i64 0, .string s] 82))) := ⟨RN.out, (Below.refl _ _).alloc (Nat.le_refl _) _⟩
  have step : ∀ (k : Nat) (u : List UInt8) (wi : World), 1 ≤ k ∧ k ≤ 6 → k ≤ u.length → Rs wi w.heap.size (0, u) ∧ Below w.heap.size w wi → Calls Tryd.prog 40 #[.pointer (some ⟨w.heap.size, 0, none⟩), .int .i64 (k : Int)] wi fun e w' => e = .returned (.int .i64 (val (u.take k) : Int)) ∧ Rs w' w.heap.size (0, u.drop k) ∧ Below w.heap.size w w' := by
    intro k u wi hk hku h
    have c := num_tot k _ (0, u) wi h.1 hk
    rw [rN_ok17 hku] at c
    exact c.mono fun _ _ q => ⟨q.1, q.2.1, h.2.trans (q.2.2.below h.2.size (Nat.le_refl _))⟩
  have C1 : Hid (∀ wi, Rs wi w.heap.size (0, u) ∧ Below w.heap.size w wi → Calls Tryd.prog 40 #[.pointer (some ⟨w.heap.size, 0, none⟩), .int .i64 2] wi fun e w' => e = .returned (.int .i64 (val (u.take 2) : Int)) ∧ Rs w' w.heap.size (0, u.drop 2) ∧ Below w.heap.size w w') := fun wi h => step 2 u wi (by decide) (by omega) h
  have C2 : Hid (∀ wi, Rs wi w.heap.size (0, u.drop 2) ∧ Below w.heap.size w wi → Calls Tryd.prog 40 #[.pointer (some ⟨w.heap.size, 0, none⟩), .int .i64 1] wi fun e w' => e = .returned (.int .i64 (val ((u.drop 2).take 1) : Int)) ∧ Rs w' w.heap.size (0, u.drop 3) ∧ Below w.heap.size w w') := fun wi h => by
    have := step 1 (u.drop 2) wi (by decide) (by rw [List.length_drop]; omega) h
    rwa [List.drop_drop] at this
  have C3 : Hid (∀ wi, Rs wi w.heap.size (0, u.drop 3) ∧ Below w.heap.size w wi → Calls Tryd.prog 40 #[.pointer (some ⟨w.heap.size, 0, none⟩), .int .i64 1] wi fun e w' => e = .returned (.int .i64 (val ((u.drop 3).take 1) : Int)) ∧ Rs w' w.heap.size (0, u.drop 4) ∧ Below w.heap.size w w') := fun wi h => by
    have := step 1 (u.drop 3) wi (by decide) (by rw [List.length_drop]; omega) h
    rwa [List.drop_drop] at this
  have CT : Hid (∀ wi, 4 + val (u.take 2) ≤ u.length → Rs wi w.heap.size (0, u.drop 4) ∧ Below w.heap.size w wi → Calls Tryd.prog 42 #[.pointer (some ⟨w.heap.size, 0, none⟩), .int .i64 (val (u.take 2) : Int)] wi fun e w' => e = .returned (.string (bz ((u.drop 4).take (val (u.take 2))))) ∧ Below w.heap.size w w') := fun wi hk h => by
    have c := take_ok _ (bz (u.drop 4)) (val (u.take 2)) wi h.1 (by rw [bz_size, List.length_drop]; omega)
    rw [bz_take] at c
    refine c.mono ?_
    rintro e w' ⟨rfl, rfl⟩
    exact ⟨rfl, h.2.setCell (Nat.le_refl _) _⟩
  have CT2 : Hid (∀ wi, ¬ 4 + val (u.take 2) ≤ u.length → Rs wi w.heap.size (0, u.drop 4) ∧ Below w.heap.size w wi → Calls Tryd.prog 42 #[.pointer (some ⟨w.heap.size, 0, none⟩), .int .i64 (val (u.take 2) : Int)] wi fun e w' => e = .returned (.string ⟨#[]⟩) ∧ Below w.heap.size w w') := fun wi hk h => by
    have c := take_short _ (bz (u.drop 4)) (val (u.take 2) : Int) wi h.1 (by rw [bz_size, List.length_drop]; omega)
    refine c.mono ?_
    rintro e w' ⟨rfl, rfl⟩
    exact ⟨rfl, h.2.setCell (Nat.le_refl _) _⟩
  have CP := Lib.hid fun w => tnPos_any (val (u.take 2) : Int) w
  have HD := Lib.hid (del_iff (u := u) (by omega))
  have HPI := Lib.hid (pos_iff (n := (val (u.take 2) : Int)))
  have HB := Lib.hid (@fN_bad u)
  have HB2 := Lib.hid (@fO_none u)
  have HF : Hid (1 ≤ val (u.take 2) ∧ val (u.take 2) ≤ 2300 ∧ u.take 4 = del (val (u.take 2)) ∧ 4 + val (u.take 2) ≤ u.length → fO u = bz ((u.drop 4).take (val (u.take 2)))) := fun h => by unfold fO bz; rw [show fN u = val (u.take 2) from if_pos h]
  clear step hx hxs hu hl ht
  obtain ⟨n, hn⟩ : ∃ n, n = val (u.take 2) := ⟨_, rfl⟩
  obtain ⟨c, hc⟩ : ∃ c, c = val ((u.drop 2).take 1) := ⟨_, rfl⟩
  obtain ⟨m, hm⟩ : ∃ m, m = val ((u.drop 3).take 1) := ⟨_, rfl⟩
  obtain ⟨r, hr⟩ : ∃ r, r = crc8 (u.take 2) := ⟨_, rfl⟩
  have hr8 : r < 256 := by rw [hr]; exact crc8_lt _
  rw [← hn] at C1 CT CT2 CP HD HPI HB HF
  rw [← hc] at C2 HD
  rw [← hm] at C3 HD
  rw [← hr] at CS HD
  obtain ⟨zn, hzn⟩ : ∃ z : Int, z = (n : Int) := ⟨_, rfl⟩
  obtain ⟨zc, hzc⟩ : ∃ z : Int, z = (c : Int) := ⟨_, rfl⟩
  obtain ⟨zm, hzm⟩ : ∃ z : Int, z = (m : Int) := ⟨_, rfl⟩
  obtain ⟨zr, hzr⟩ : ∃ z : Int, z = (r : Int) := ⟨_, rfl⟩
  have HZ : Hid (zn = n ∧ zc = c ∧ zm = m ∧ zr = r ∧ r < 256) := ⟨hzn, hzc, hzm, hzr, hr8⟩
  rw [← hzn] at C1 CT CT2 CP HPI
  rw [← hzc] at C2
  rw [← hzm] at C3
  rw [← hzr] at CS
  have hzr0 : 0 ≤ zr ∧ zr < 256 := by omega
  clear hn hc hm hr hr8 hzn hzc hzm hzr
  cases hp : pos zn
  · have HE : Hid (fO u = ⟨#[]⟩) := HB2.out (HB.out fun h => by
      have := HZ.out
      rw [HPI.out.2 ⟨by omega, by omega⟩] at hp; cases hp)
    rw [hp] at CP
    clear hp h4 hs
    go_enter Tryd.func17, Tryd.ntmps17
    go_wp2_with (first
      | (go_at_call 20; refine CNw.out.mono ?_; rintro e w' ⟨rfl, rfl⟩)
      | (go_at_call 40; with_reducible refine (C3.out _ W2.out).mono ?_; rintro e w3 ⟨rfl, h⟩; have W3 := Lib.hid h; clear h)
      | (go_at_call 40; with_reducible refine (C2.out _ W1.out).mono ?_; rintro e w2 ⟨rfl, h⟩; have W2 := Lib.hid h; clear h)
      | (go_at_call 40; with_reducible refine (C1.out _ W0.out).mono ?_; rintro e w1 ⟨rfl, h⟩; have W1 := Lib.hid h; clear h)
      | (go_at_call 38; refine (CP.out _).mono ?_; rintro e w' ⟨rfl, rfl⟩)
      | (go_at_call 41; refine (CS.out _ W3.out.2).mono ?_; rintro e w' ⟨rfl, rfl⟩))
    go_returns
    exact ⟨by rw [HE.out] <;> rfl, W3.out.2⟩
  rw [hp] at CP
  by_cases hcr : zc = zr
  · have hcr' : (zc != zr) = false := by rw [bne_eq_false_iff_eq]; exact hcr
    by_cases hm : zm = 78
    · have hm' : (zm != 78) = false := by rw [bne_eq_false_iff_eq]; exact hm
      have HDel : Hid (u.take 4 = del n) := HD.out.2 ⟨by have := HZ.out; omega, by have := HZ.out; omega⟩
      have HPn : Hid (1 ≤ n ∧ n ≤ 2300) := by have := HPI.out.1 hp; have := HZ.out; exact ⟨by omega, by omega⟩
      by_cases hk : 4 + n ≤ u.length
      · have HE := Lib.hid (HF.out ⟨HPn.out.1, HPn.out.2, HDel.out, hk⟩)
        have CT' := Lib.hid fun wi => CT.out wi hk
        clear hp h4 hs hcr hm hk CT CT2 HB HB2 HD HF HDel
        go_enter Tryd.func17, Tryd.ntmps17
        go_wp2_with (first
          | (go_at_call 20; refine CNw.out.mono ?_; rintro e w' ⟨rfl, rfl⟩)
          | (go_at_call 40; with_reducible refine (C3.out _ W2.out).mono ?_; rintro e w3 ⟨rfl, h⟩; have W3 := Lib.hid h; clear h)
          | (go_at_call 40; with_reducible refine (C2.out _ W1.out).mono ?_; rintro e w2 ⟨rfl, h⟩; have W2 := Lib.hid h; clear h)
          | (go_at_call 40; with_reducible refine (C1.out _ W0.out).mono ?_; rintro e w1 ⟨rfl, h⟩; have W1 := Lib.hid h; clear h)
          | (go_at_call 38; refine (CP.out _).mono ?_; rintro e w' ⟨rfl, rfl⟩)
          | (go_at_call 41; refine (CS.out _ W3.out.2).mono ?_; rintro e w' ⟨rfl, rfl⟩)
          | (go_at_call 42; refine (CT'.out _ W3.out).mono ?_; rintro e w4 ⟨rfl, h⟩; have B4 := Lib.hid h; clear h))
        go_returns
        exact ⟨by rw [HE.out] <;> rfl, B4.out⟩
      · have HE : Hid (fO u = ⟨#[]⟩) := HB2.out (HB.out fun h => hk h.2.2.2)
        have CT' := Lib.hid fun wi => CT2.out wi hk
        clear hp h4 hs hcr hm hk CT CT2 HB HB2 HD HF HDel
        go_enter Tryd.func17, Tryd.ntmps17
        go_wp2_with (first
          | (go_at_call 20; refine CNw.out.mono ?_; rintro e w' ⟨rfl, rfl⟩)
          | (go_at_call 40; with_reducible refine (C3.out _ W2.out).mono ?_; rintro e w3 ⟨rfl, h⟩; have W3 := Lib.hid h; clear h)
          | (go_at_call 40; with_reducible refine (C2.out _ W1.out).mono ?_; rintro e w2 ⟨rfl, h⟩; have W2 := Lib.hid h; clear h)
          | (go_at_call 40; with_reducible refine (C1.out _ W0.out).mono ?_; rintro e w1 ⟨rfl, h⟩; have W1 := Lib.hid h; clear h)
          | (go_at_call 38; refine (CP.out _).mono ?_; rintro e w' ⟨rfl, rfl⟩)
          | (go_at_call 41; refine (CS.out _ W3.out.2).mono ?_; rintro e w' ⟨rfl, rfl⟩)
          | (go_at_call 42; refine (CT'.out _ W3.out).mono ?_; rintro e w4 ⟨rfl, h⟩; have B4 := Lib.hid h; clear h))
        go_returns
        exact ⟨by rw [HE.out] <;> rfl, B4.out⟩
    · have hm' : (zm != 78) = true := by rw [bne_iff_ne]; exact hm
      have HE : Hid (fO u = ⟨#[]⟩) := HB2.out (HB.out fun h => hm (by have := (HD.out.1 h.2.2.1).2; have := HZ.out; omega))
      clear hp h4 hs hcr hm CT CT2 HB HB2 HD HF
      go_enter Tryd.func17, Tryd.ntmps17
      go_wp2_with (first
        | (go_at_call 20; refine CNw.out.mono ?_; rintro e w' ⟨rfl, rfl⟩)
        | (go_at_call 40; with_reducible refine (C3.out _ W2.out).mono ?_; rintro e w3 ⟨rfl, h⟩; have W3 := Lib.hid h; clear h)
        | (go_at_call 40; with_reducible refine (C2.out _ W1.out).mono ?_; rintro e w2 ⟨rfl, h⟩; have W2 := Lib.hid h; clear h)
        | (go_at_call 40; with_reducible refine (C1.out _ W0.out).mono ?_; rintro e w1 ⟨rfl, h⟩; have W1 := Lib.hid h; clear h)
        | (go_at_call 38; refine (CP.out _).mono ?_; rintro e w' ⟨rfl, rfl⟩)
        | (go_at_call 41; refine (CS.out _ W3.out.2).mono ?_; rintro e w' ⟨rfl, rfl⟩))
      go_returns
      exact ⟨by rw [HE.out] <;> rfl, W3.out.2⟩
  · have hcr' : (zc != zr) = true := by rw [bne_iff_ne]; exact hcr
    have HE : Hid (fO u = ⟨#[]⟩) := HB2.out (HB.out fun h => hcr (by have := (HD.out.1 h.2.2.1).1; have := HZ.out; omega))
    clear hp h4 hs hcr CT CT2 HB HB2 HD HF
    go_enter Tryd.func17, Tryd.ntmps17
    go_wp2_with (first
      | (go_at_call 20; refine CNw.out.mono ?_; rintro e w' ⟨rfl, rfl⟩)
      | (go_at_call 40; with_reducible refine (C3.out _ W2.out).mono ?_; rintro e w3 ⟨rfl, h⟩; have W3 := Lib.hid h; clear h)
      | (go_at_call 40; with_reducible refine (C2.out _ W1.out).mono ?_; rintro e w2 ⟨rfl, h⟩; have W2 := Lib.hid h; clear h)
      | (go_at_call 40; with_reducible refine (C1.out _ W0.out).mono ?_; rintro e w1 ⟨rfl, h⟩; have W1 := Lib.hid h; clear h)
      | (go_at_call 38; refine (CP.out _).mono ?_; rintro e w' ⟨rfl, rfl⟩)
      | (go_at_call 41; refine (CS.out _ W3.out.2).mono ?_; rintro e w' ⟨rfl, rfl⟩))
    go_returns
    exact ⟨by rw [HE.out] <;> rfl, W3.out.2⟩
end Go.Proofs.YtacbhbejchjbiaaDoor
