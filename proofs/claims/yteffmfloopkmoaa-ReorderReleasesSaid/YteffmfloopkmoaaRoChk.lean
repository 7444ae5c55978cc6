/-
  WALKS: Check, of package reorder and of the reference.
-/
import Derived.Test.YteffmfloopkmoaaRoDone3
import Derived.BigQuiet
namespace Go.Proofs.Yteffmfloopkmoaa
open Go.RowKit Go.Ro Go.Sq Go.Wr
attribute [local go_sem ↓ high] Rw_.loadF Rw_.storeF Rw_.v_cells Rw_.v_match
attribute [local go_sem] Rw_.C0 Rw_.C1 Rw_.C2 Rw_.loadF_new Rw_.storeF_zero Oper.semAt_some

theorem ck_1 {s z last : Int} {h : Hd} {t : List Hd} (e : dist s h.q < 1) : chkL s z last (h :: t) = 4 := by unfold chkL; rw [if_pos (.inr (.inl e))]
theorem ck_2 {s z last : Int} {h : Hd} {t : List Hd} (e : inn s z h.q = false) : chkL s z last (h :: t) = 4 := by
  unfold chkL
  rw [if_pos]
  unfold inn at e
  rcases Bool.and_eq_false_iff.1 e with e | e
  · exact .inl e
  · exact .inr (.inr (by have := of_decide_eq_false e; omega))
theorem ck_in {s z last : Int} {h : Hd} {t : List Hd} (e0 : ¬ dist s h.q < 1) (e : inn s z h.q = true) : chkL s z last (h :: t) = if dist s h.q ≤ last then 12 else if 2048 < h.d.size then 2 else chkL s z (dist s h.q) t := by
  have e1 : vl h.q = true ∧ dist s h.q < z := by unfold inn at e; simpa using e
  show (if vl h.q = false ∨ dist s h.q < 1 ∨ z ≤ dist s h.q then (4 : Int) else _) = _
  rw [if_neg]
  rintro (h1 | h1 | h1)
  · rw [e1.1] at h1; cases h1
  · exact e0 h1
  · omega
theorem same_addr20 {sa : Option Addr} {b o b' o' : Nat} (h1 : sa = some ⟨b', o', none⟩) (h2 : sa = some ⟨b, o, none⟩) : b' = b ∧ o' = o := by
  rw [h1] at h2; cases h2; exact ⟨rfl, rfl⟩
theorem drop_cons {l : List Hd} {i : Nat} (h : i < l.length) : l.drop i = l[i] :: l.drop (i + 1) := List.drop_eq_getElem_cons h
theorem hdOk_t {s z : Int} (h0 : vl s = true) (h1 : 1 ≤ z) (h2 : z ≤ 64) : hdOk s z = true := by unfold hdOk; rw [h0, decide_eq_true h1, decide_eq_true h2]; rfl
theorem hdOk_f {s z : Int} (h : vl s = false ∨ z < 1 ∨ 64 < z) : hdOk s z = false := by
  unfold hdOk
  rcases h with h | h | h
  · rw [h]; rfl
  · rw [decide_eq_false (show ¬ 1 ≤ z by omega)]; simp
  · rw [decide_eq_false (show ¬ z ≤ 64 by omega)]; simp

set_option maxRecDepth 100000 in
set_option maxHeartbeats 4000000 in
theorem ro_check_any (x : Rw) (b : Bf) (w : World) (hL : Lies w x b) (hl : b.hs.length ≤ 1000) :
    Calls Try.prog 15 #[Rw_.v x] w fun e w' => e = .returned (.int .i64 (chk b)) ∧ Below w.heap.size w w' := by
  obtain ⟨w1, hw1⟩ : ∃ w1, w.alloc (.cells (Rw_.C x) 25) = w1 := ⟨_, rfl⟩
  have hb : Rw_.Box w1 w.heap.size x := hw1 ▸ Rw_.Box.new w x
  have HBX := Lib.hid hb
  have B1 : Hid (Below w.heap.size w w1) := hw1 ▸ (Below.refl _ _).alloc (Nat.le_refl _) _
  have e1 := hb.all
  have hn := not20
  have CV := Lib.hid (fun w => valid_any b.st w)
  have CD := Lib.hid (fun (q : Int) w => distance_any b.st q w)
  have CW : Hid (∀ q W, Calls Try.prog 28 #[Rw_.v x, .int .i64 q] W fun e w' => e = .returned (.bool (inn b.st b.sz q)) ∧ Below W.heap.size W w') := fun q W => by
    have h := ro_inWindow_any x q W
    rw [hL.st, hL.sz] at h
    exact h
  have hst := hL.st
  have hsz := hL.sz
  have HL := Lib.hid hL
  have HN := Lib.hid hl
  have HE : Hid (chk b = if hdOk b.st b.sz then chkL b.st b.sz 0 b.hs else 4) := rfl
  obtain ⟨n, hn1⟩ : ∃ n, b.hs.length = n := ⟨_, rfl⟩
  have hxn : x.n = n := hL.n.trans hn1
  have HLEN := Lib.hid hn1
  clear hb hL hl hn1
  cases hv : vl b.st
  · have HR := Lib.hid (show chk b = 4 by rw [HE.out, hdOk_f (.inl hv)]; rfl)
    rw [HR.out]
    rw [hv] at CV
    go_enter Try.func15, Try.ntmps15
    go_wp2_with (go_at_call 26; refine (CV.out _).mono ?_; rintro e w' ⟨rfl, rfl⟩)
    go_returns
    exact ⟨rfl, B1.out⟩
  by_cases h1 : b.sz < 1
  · have HR := Lib.hid (show chk b = 4 by rw [HE.out, hdOk_f (.inr (.inl h1))]; rfl)
    rw [HR.out]
    rw [hv] at CV
    go_enter Try.func15, Try.ntmps15
    go_wp2_with (go_at_call 26; refine (CV.out _).mono ?_; rintro e w' ⟨rfl, rfl⟩)
    go_returns
    exact ⟨rfl, B1.out⟩
  by_cases h2 : 64 < b.sz
  · have HR := Lib.hid (show chk b = 4 by rw [HE.out, hdOk_f (.inr (.inr h2))]; rfl)
    rw [HR.out]
    rw [hv] at CV
    go_enter Try.func15, Try.ntmps15
    go_wp2_with (go_at_call 26; refine (CV.out _).mono ?_; rintro e w' ⟨rfl, rfl⟩)
    go_returns
    exact ⟨rfl, B1.out⟩
  have HR := Lib.hid (show chk b = chkL b.st b.sz 0 b.hs by rw [HE.out, hdOk_t hv (by omega) (by omega)]; rfl)
  rw [HR.out]
  rw [hv] at CV
  clear HR HE
  have HSA : n = 0 ∨ ∃ bb off, x.sa = some ⟨bb, off, none⟩ := by
    rcases Nat.eq_zero_or_pos n with h | h
    · exact .inl h
    · obtain ⟨bb, off, hsa, -⟩ := HL.out.sl.lies 0 (by have := HLEN.out; omega)
      exact .inr ⟨bb, off, hsa⟩
  rcases HSA with hn0 | ⟨bb, off, hsa⟩
  · go_enter Try.func15, Try.ntmps15
    go_wp2_with (go_at_call 26; refine (CV.out _).mono ?_; rintro e w' ⟨rfl, rfl⟩)
    clear hw1 e1
    go_loopw [3, 24] (fun s3 s24 wr => ∃ (last : Int) (i : Nat), s3 = .int .i64 last ∧ s24 = .int .i64 i ∧ i ≤ n ∧ Hid (chkL b.st b.sz 0 b.hs = chkL b.st b.sz last (b.hs.drop i)) ∧ Hid (Below w.heap.size w wr ∧ Rw_.Box wr w.heap.size x)) (fun _ s24 _ => n - (intOf s24).toNat)
    case atStart => exact ⟨0, 0, rfl, rfl, Nat.zero_le _, rfl, ⟨B1.out, HBX.out⟩⟩
    case round =>
      rename World => wr
      obtain ⟨last, i, rfl, rfl, hi, HC, HB⟩ := hrel
      have e2 := HB.out.2.all
      have hi1 : i ≤ 1000 := by have := HN.out; have := HLEN.out; omega
      have hlt : ¬ i < n := by omega
      have HRS := Lib.hid (show chkL b.st b.sz 0 b.hs = 0 by rw [HC.out, List.drop_of_length_le (by have := HLEN.out; omega)]; rfl)
      go_wp2
      go_returns
      exact ⟨by rw [HRS.out]; rfl, HB.out.1⟩
  · go_enter Try.func15, Try.ntmps15
    go_wp2_with (go_at_call 26; refine (CV.out _).mono ?_; rintro e w' ⟨rfl, rfl⟩)
    clear hw1 e1
    go_loopw [3, 24] (fun s3 s24 wr => ∃ (last : Int) (i : Nat), s3 = .int .i64 last ∧ s24 = .int .i64 i ∧ i ≤ n ∧ Hid (chkL b.st b.sz 0 b.hs = chkL b.st b.sz last (b.hs.drop i)) ∧ Hid (Below w.heap.size w wr ∧ Rw_.Box wr w.heap.size x)) (fun _ s24 _ => n - (intOf s24).toNat)
    case atStart => exact ⟨0, 0, rfl, rfl, Nat.zero_le _, rfl, ⟨B1.out, HBX.out⟩⟩
    case round =>
      rename World => wr
      obtain ⟨last, i, rfl, rfl, hi, HC, HB⟩ := hrel
      have e2 := HB.out.2.all
      have hi1 : i ≤ 1000 := by have := HN.out; have := HLEN.out; omega
      by_cases hlt : i < n
      · have hil : i < b.hs.length := by have := HLEN.out; omega
        obtain ⟨bb', off', hsa', hbl, k0, k1⟩ := HL.out.sl.lies i hil
        obtain ⟨rfl, rfl⟩ := same_addr20 hsa' hsa
        clear hsa'
        have c0 := (HB.out.1.cell hbl).trans k0
        have c1 := (HB.out.1.cell hbl).trans k1
        have HDC := Lib.hid (drop_cons hil)
        generalize b.hs[i] = h at *
        obtain ⟨w2, hw2⟩ : ∃ w2, wr.alloc (.cells #[.int .i64 h.q, .string h.d] 51) = w2 := ⟨_, rfl⟩
        have X2 := (show Hd_.Box w2 wr.heap.size h from hw2 ▸ Hd_.Box.new wr h rfl)
        have e3 := X2.cells
        have b2 : Below wr.heap.size wr w2 := hw2 ▸ (Below.refl _ _).alloc (Nat.le_refl _) _
        have HB2 : Hid (Below w.heap.size w w2 ∧ Rw_.Box w2 w.heap.size x) := ⟨HB.out.1.trans (b2.mono HB.out.1.size), HB.out.2.below b2 HB.out.2.lt⟩
        have e4 := HB2.out.2.all
        have l4 := HB2.out.2.loadF
        have HX2 := Lib.hid X2
        have hD := Lib.hid (dist_in b.st h.q)
        have CDh := Lib.hid (CD.out h.q)
        have CWh := Lib.hid (CW.out h.q)
        have HCK : Hid (chkL b.st b.sz 0 b.hs = chkL b.st b.sz last (h :: b.hs.drop (i + 1))) := by
          show chkL b.st b.sz 0 b.hs = _
          rw [HC.out, HDC.out]
        have HLT := Lib.hid hlt
        have HK1 := Lib.hid (fun (e : dist b.st h.q < 1) => HCK.out.trans (ck_1 e))
        have HK2 := Lib.hid (fun (e : inn b.st b.sz h.q = false) => HCK.out.trans (ck_2 e))
        have HK3 := Lib.hid (fun (e0 : ¬ dist b.st h.q < 1) (e : inn b.st b.sz h.q = true) => HCK.out.trans (ck_in e0 e))
        clear k0 k1 hbl hil b2 X2
        generalize dist b.st h.q = D at *
        generalize inn b.st b.sz h.q = A at *
        by_cases d0 : D = 0
        · have HRS := Lib.hid (HK1.out (by omega))
          subst d0
          go_wp2_with (go_at_call 27; refine (CDh.out _).mono ?_; rintro e w' ⟨rfl, rfl⟩)
          go_returns
          exact ⟨by rw [HRS.out]; rfl, HB2.out.1⟩
        have hd0 : (D == 0) = false := by rw [beq_eq_false_iff_ne]; exact d0
        cases A
        · have HRS := Lib.hid (HK2.out rfl)
          go_wp2_with (first
            | (go_at_call 27; refine (CDh.out _).mono ?_; rintro e w' ⟨rfl, rfl⟩)
            | (go_at_call 28; refine (CWh.out _).mono ?_; rintro e w5 ⟨rfl, hw5⟩; have HB5 := Lib.hid (HB2.out.1.trans (hw5.mono HB2.out.1.size)); clear hw5))
          go_returns
          exact ⟨by rw [HRS.out]; rfl, HB5.out⟩
        have HRS := Lib.hid (HK3.out (by have := hD.out; omega) rfl)
        clear HK1 HK2 HK3
        by_cases h3 : D ≤ last
        · have HRT := Lib.hid (HRS.out.trans (if_pos h3))
          go_wp2_with (first
            | (go_at_call 27; refine (CDh.out _).mono ?_; rintro e w' ⟨rfl, rfl⟩)
            | (go_at_call 28; refine (CWh.out _).mono ?_; rintro e w5 ⟨rfl, hw5⟩; have HB5 := Lib.hid (HB2.out.1.trans (hw5.mono HB2.out.1.size)); clear hw5))
          go_returns
          exact ⟨by rw [HRT.out]; rfl, HB5.out⟩
        by_cases h4 : 2048 < h.d.size
        · have HRT := Lib.hid (HRS.out.trans ((if_neg h3).trans (if_pos h4)))
          have h4' : (2048 : Int) < (h.d.size : Int) := by omega
          go_wp2_with (first
            | (go_at_call 27; refine (CDh.out _).mono ?_; rintro e w' ⟨rfl, rfl⟩)
            | (go_at_call 28; refine (CWh.out _).mono ?_; rintro e w5 ⟨rfl, hw5⟩; have HB5 := Lib.hid (HB2.out.1.trans (hw5.mono HB2.out.1.size)); have e5 := (HX2.out.below hw5 HX2.out.lt).cells; clear hw5))
          go_returns
          exact ⟨by rw [HRT.out]; rfl, HB5.out⟩
        · have HRT := Lib.hid (HRS.out.trans (by rw [if_neg h3, if_neg h4]))
          have h4' : ¬ (2048 : Int) < (h.d.size : Int) := by omega
          go_wp2_with (first
            | (go_at_call 27; refine (CDh.out _).mono ?_; rintro e w' ⟨rfl, rfl⟩)
            | (go_at_call 28; refine (CWh.out _).mono ?_; rintro e w5 ⟨rfl, hw5⟩; have HB5 : Hid (Below w.heap.size w w5 ∧ Rw_.Box w5 w.heap.size x) := ⟨HB2.out.1.trans (hw5.mono HB2.out.1.size), HB2.out.2.below hw5 HB2.out.2.lt⟩; have e5 := (HX2.out.below hw5 HX2.out.lt).cells; clear hw5))
          go_roundw
          case rel => exact ⟨D, i + 1, rfl, by go_num, HLT.out, HRT.out, HB5⟩
          case measure => have := HLT.out; simp [intOf]; omega
      · have HRS := Lib.hid (show chkL b.st b.sz 0 b.hs = 0 by rw [HC.out, List.drop_of_length_le (by have := HLEN.out; omega)]; rfl)
        go_wp2
        go_returns
        exact ⟨by rw [HRS.out]; rfl, HB.out.1⟩
end Go.Proofs.Yteffmfloopkmoaa
