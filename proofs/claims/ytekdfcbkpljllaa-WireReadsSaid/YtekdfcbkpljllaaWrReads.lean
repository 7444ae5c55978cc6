/-
  THE WALK of the law WireReads: true, for every sequence of calls.
-/
import Derived.Test.YtekdfcbkpljllaaWrStep
import Derived.Test.YtekdfcbkpljllaaWrLives
import Derived.Deep.DeepCutAuto
import Derived.Deep.RegionHeld3
namespace Go.Proofs.Ytekdfcbkpljllaa
open Go.RowKit Go.Wr

/-- What a call writes. -/
def enc1 (o : Opr) : List UInt8 := if o.k = 0 then le o.n.toNat o.z.toNat else o.t.data.toList
/-- A call that can be written. -/
def okOp (o : Opr) : Prop := o.k = 0 → good o.n o.z
/-- What has been written by the first m calls, if there is no error. -/
def Enc (ops : List Opr) (m : Nat) (e : Int) (L : List UInt8) : Prop := e = 0 → (∀ i (h : i < ops.length), i < m → okOp ops[i]) ∧ L = (ops.take m).flatMap enc1

theorem enc_next {ops : List Opr} {m : Nat} {e e' : Int} {L L' : List UInt8} (h : Enc ops m e L) (hm : m < ops.length) (hs : e' = 0 → e = 0 ∧ okOp ops[m] ∧ L' = L ++ enc1 ops[m]) : Enc ops (m + 1) e' L' := by
  intro he
  obtain ⟨h0, h1, h2⟩ := hs he
  obtain ⟨h3, h4⟩ := h h0
  refine ⟨fun i hi hlt => ?_, ?_⟩
  · by_cases e : i = m
    · subst e; exact h1
    · exact h3 i hi (by omega)
  · rw [h2, h4, List.take_succ_eq_append_getElem hm, List.flatMap_append]; simp
theorem put_ok0 {e : Int} {L : List UInt8} {n k : Int} (h : (put e L n k).1 = 0) : e = 0 ∧ good n k ∧ (put e L n k).2 = L ++ le n.toNat k.toNat := by
  unfold put at h ⊢
  by_cases he : e = 0
  · subst he
    rw [if_neg (by simp)] at h ⊢
    by_cases hg : good n k
    · rw [if_pos hg]; exact ⟨rfl, hg, rfl⟩
    · rw [if_neg hg] at h; exact absurd h (show ¬ (4 : Int) = 0 by decide)
  · rw [if_pos he] at h; exact absurd h he
theorem txt_ok0 {e : Int} {L : List UInt8} {s : ByteArray} (h : (txt e L s).1 = 0) : e = 0 ∧ (txt e L s).2 = L ++ s.data.toList := by
  unfold txt at h ⊢
  by_cases he : e = 0
  · subst he
    rw [if_neg (by simp)]; exact ⟨rfl, rfl⟩
  · rw [if_pos he] at h; exact absurd h he
theorem gt_enc {n k : Int} (R : List UInt8) (h : good n k) : gt 0 (le n.toNat k.toNat ++ R) k = (0, R, n.toNat) ∧ ((n.toNat : Nat) : Int) = n := by
  obtain ⟨h1, h6, h0, hlt⟩ := h
  refine ⟨?_, by omega⟩
  unfold gt
  have hl : (le n.toNat k.toNat).length = k.toNat := le_len _ _
  rw [if_neg (by simp), if_neg (fun hh => hh ⟨h1, h6⟩), if_neg (by rw [List.length_append, hl]; omega)]
  rw [List.drop_append_of_le_length (by omega), List.take_append_of_le_length (by omega), List.drop_of_length_le (by omega), List.take_of_length_le (by omega), val_le_of_lt hlt]
  rfl
theorem tk_enc (t : ByteArray) (R : List UInt8) : tk 0 (t.data.toList ++ R) (t.size : Int) = (0, R, t.data.toList) := by
  unfold tk
  have hl : t.data.toList.length = t.size := Array.length_toList
  rw [if_neg (by simp), if_neg (by omega), if_neg (by rw [List.length_append, hl]; omega), Int.toNat_natCast]
  rw [List.drop_append_of_le_length (by omega), List.take_append_of_le_length (by omega), List.drop_of_length_le (by omega), List.take_of_length_le (by omega)]
  rfl

set_option maxRecDepth 100000 in
set_option maxHeartbeats 8000000 in
theorem reads_walk (ops : List Opr) (sa : Option Addr) (c : Nat) (w : World) (h : OpsAt w sa ops) :
    Calls Try.prog 3 #[.slice sa ops.length c] w fun e w' => e = .returned (.bool true) ∧ Below w.heap.size w w' := by
  have HL : Hid (∀ w, Calls Try.prog 9 #[] w fun e w' => e = .returned (.bool true) ∧ Below w.heap.size w w') := lives_any
  have HO := Lib.hid h
  clear h
  have HFW : Hid (∀ W, OpsAt W sa ops → Calls Try.prog 8 #[.slice sa ops.length c] W fun e w' => e = .returned (.bool (fewB ops)) ∧ W = w') := fun W h => few_any ops sa c W h
  cases hfew : fewB ops with
  | false =>
    rw [hfew] at HFW
    clear hfew
    go_enter Try.func3, Try.ntmps3
    go_wp2_with (first | (go_at_call 8; refine (HFW.out _ HO.out).mono ?_; rintro e w' ⟨rfl, rfl⟩) | (go_at_call 9; refine (HL.out _).mono ?_; rintro e w1 ⟨rfl, hb1⟩))
    go_returns
    exact ⟨rfl, hb1⟩
  | true =>
    rw [hfew] at HFW
    have hlen := fewB_len hfew
    have HTX : Hid (∀ i (hi : i < ops.length), ops[i].t.size ≤ 200) := fewB_txt hfew
    clear hfew
    have HZ : Hid (WrS (w.alloc (.cells #[.int .i64 0, .pointer none, .string ⟨#[]⟩] 30)) w.heap.size 0 []) := .inl ⟨rfl, Wr.zero w _ rfl⟩
    go_enter Try.func3, Try.ntmps3
    go_wp2_with (first | (go_at_call 8; refine (HFW.out _ HO.out).mono ?_; rintro e w' ⟨rfl, rfl⟩) | fail)
    go_loopw [4] (fun i wr => ∃ (m : Nat) (e : Int) (L : List UInt8), m ≤ ops.length ∧ i = .int .i64 m ∧ WrS wr w.heap.size e L ∧ Enc ops m e L ∧ Below w.heap.size w wr ∧ L.length ≤ 206 * m)
      (fun i _ => ops.length - (intOf i).toNat)
    case atStart => exact ⟨0, 0, [], Nat.zero_le _, rfl, HZ.out, fun _ => ⟨fun i _ h => absurd h (by omega), rfl⟩, (Below.refl _ _).alloc (Nat.le_refl _) _, Nat.le_refl _⟩
    case round =>
      obtain ⟨m, e, L, hm, rfl, hw, henc, hbel, hL⟩ := hrel
      have HW := Lib.hid hw
      have HE := Lib.hid henc
      have HBL := Lib.hid hbel
      have HLL := Lib.hid hL
      clear hw henc hbel hL HZ
      by_cases hlt : m < ops.length
      · obtain ⟨b, off, rfl, hbl, c0, c1, c2, c3, c4⟩ := HO.out m hlt
        have HBB := Lib.hid hbl
        have d0 := (HBL.out.cell (p := ⟨b, off + m * 5, none⟩) HBB.out).trans c0
        have d1 := (HBL.out.cell (p := ⟨b, off + m * 5 + 1, none⟩) HBB.out).trans c1
        have d2 := (HBL.out.cell (p := ⟨b, off + m * 5 + 2, none⟩) HBB.out).trans c2
        have d3 := (HBL.out.cell (p := ⟨b, off + m * 5 + 3, none⟩) HBB.out).trans c3
        clear c0 c1 c2 c3 c4 hbl
        have HTM := Lib.hid (HTX.out m hlt)
        have HNX : Hid (∀ e' L', (e' = 0 → e = 0 ∧ okOp ops[m] ∧ L' = L ++ enc1 ops[m]) → Enc ops (m + 1) e' L') := fun e' L' hs => enc_next HE.out hlt hs
        generalize ops[m] = o at *
        obtain ⟨ok, on, oz, ot, oe⟩ := o
        dsimp only at d0 d1 d2 d3
        have HTT : Hid (ot.size ≤ 200) := HTM.out
        clear HTM
        by_cases k0 : ok = 0
        · subst k0
          obtain ⟨e', he'⟩ : ∃ x, x = (put e L on oz).1 := ⟨_, rfl⟩
          obtain ⟨L', hL'⟩ : ∃ x, x = (put e L on oz).2 := ⟨_, rfl⟩
          have P1 : Hid (∀ W, WrS W w.heap.size e L → Calls Try.prog 10 #[.pointer (some ⟨w.heap.size, 0, none⟩), .int .i64 on, .int .i64 oz] W fun r w' => r = .returned (.tuple #[]) ∧ WrS w' w.heap.size e' L' ∧ But w.heap.size W w') := fun W h => by
            rw [he', hL']; exact put_st _ _ _ _ _ _ h (by have := HLL.out; omega)
          have HLN : Hid (L'.length ≤ 206 * (m + 1)) := by have h1 := put_len e L on oz; rw [← hL'] at h1; have := HLL.out; show _ ≤ _; omega
          have HEN : Hid (Enc ops (m + 1) e' L') := HNX.out e' L' (fun h0 => by
            rw [he'] at h0
            obtain ⟨h1, h2, h3⟩ := put_ok0 h0
            exact ⟨h1, fun _ => h2, by rw [hL', h3]; unfold enc1; rw [if_pos rfl]⟩)
          clear he' hL'
          go_wp2
          go_region_with (go_at_call 10; refine (P1.out _ ?hw).mono ?_; (case hw => exact HW.out.drew); rintro r w1 ⟨rfl, hs1, hb1⟩)
          all_goals
            have HS1 := Lib.hid hs1
            have HB1 := Lib.hid (HBL.out.trans ((Below.refl _ _).drew.trans (hb1.below (B := w.heap.size) HBL.out.size (Nat.le_refl _))))
            clear hs1 hb1 d0 d1 d2 d3 P1 HW HBL HLL HNX HE
            go_wp2
            go_roundw
            case rel => exact ⟨m + 1, e', L', by omega, by go_num, HS1.out, HEN.out, HB1.out, HLN.out⟩
            case measure => simp [intOf]; omega
        · have k0' : (ok == 0) = false := beq_eq_false_iff_ne.2 k0
          obtain ⟨e', he'⟩ : ∃ x, x = (txt e L ot).1 := ⟨_, rfl⟩
          obtain ⟨L', hL'⟩ : ∃ x, x = (txt e L ot).2 := ⟨_, rfl⟩
          have P1 : Hid (∀ W, WrS W w.heap.size e L → Calls Try.prog 11 #[.pointer (some ⟨w.heap.size, 0, none⟩), .string ot] W fun r w' => r = .returned (.tuple #[]) ∧ WrS w' w.heap.size e' L' ∧ But w.heap.size W w') := fun W h => by
            rw [he', hL']; exact text_st _ _ _ _ _ h (by have := HLL.out; have := HTT.out; omega)
          have HLN : Hid (L'.length ≤ 206 * (m + 1)) := by have h1 := txt_len e L ot; rw [← hL'] at h1; have := HLL.out; have := HTT.out; show _ ≤ _; omega
          have HEN : Hid (Enc ops (m + 1) e' L') := HNX.out e' L' (fun h0 => by
            rw [he'] at h0
            obtain ⟨h1, h3⟩ := txt_ok0 h0
            exact ⟨h1, fun h => absurd h k0, by rw [hL', h3]; unfold enc1; rw [if_neg k0]⟩)
          clear he' hL' k0
          go_wp2_with (go_at_call 11; refine (P1.out _ HW.out).mono ?_; rintro r w1 ⟨rfl, hs1, hb1⟩)
          have HS1 := Lib.hid hs1
          have HB1 := Lib.hid (HBL.out.trans (hb1.below (B := w.heap.size) HBL.out.size (Nat.le_refl _)))
          clear hs1 hb1 d0 d1 d2 d3 P1 HW HBL HLL HNX HE
          go_roundw
          case rel => exact ⟨m + 1, e', L', by omega, by go_num, HS1.out, HEN.out, HB1.out, HLN.out⟩
          case measure => simp [intOf]; omega
      · obtain rfl : m = ops.length := by omega
        have HLN : Hid (L.length ≤ 140737488351232) := by have := HLL.out; show _ ≤ _; omega
        by_cases he : e = 0
        · subst he
          obtain ⟨hok, hLe⟩ := HE.out rfl
          rw [List.take_length] at hLe
          have HOK := Lib.hid hok
          have HLE := Lib.hid hLe
          have PD : Hid (∀ W, WrS W w.heap.size 0 L → Calls Try.prog 12 #[.pointer (some ⟨w.heap.size, 0, none⟩)] W fun r w' => r = .returned (.tuple #[.string (str L), .int .i64 0]) ∧ Below W.heap.size W w') := fun W h => done_st _ _ _ _ h HLN.out
          clear hok hLe HLL HE
          go_wp2_with (first | (go_at_call 12; refine (PD.out _ HW.out).mono ?_; rintro r w1 ⟨rfl, hb1⟩; have HB1 := Lib.hid (HBL.out.trans (hb1.mono HBL.out.size)); clear hb1) | fail)
          refine (new_any (str L) _).mono ?_
          rintro x w2 ⟨rfl, hw⟩
          have HR2 : Hid (RdS w2 w1.heap.size 0 L) := by rw [← hw]; exact ⟨str L, Blk.new _ _ _ _ rfl, fun _ => rfl⟩
          have HB2 : Hid (Below w.heap.size w w2) := by rw [← hw]; exact HB1.out.alloc HB1.out.size _
          have HGW : Hid (w.heap.size ≤ w1.heap.size) := HB1.out.size
          clear hw PD HW HBL HLN
          generalize w1.heap.size = g at *
          clear HB1
          go_wp2
          go_loopw [8] (fun i wr => ∃ (m : Nat), m ≤ ops.length ∧ i = .int .i64 m ∧ RdS wr g 0 ((ops.drop m).flatMap enc1) ∧ Below w.heap.size w wr)
            (fun i _ => ops.length - (intOf i).toNat)
          case atStart => exact ⟨0, Nat.zero_le _, rfl, by rw [List.drop_zero, ← HLE.out]; exact HR2.out, HB2.out⟩
          case round =>
            clear HR2 HB2 HLE
            obtain ⟨m, hm, rfl, hr, hb⟩ := hrel
            have HR := Lib.hid hr
            have HB := Lib.hid hb
            clear hr hb
            by_cases hlt : m < ops.length
            · obtain ⟨b, off, rfl, hbl, c0, c1, c2, c3, c4⟩ := HO.out m hlt
              have HBB := Lib.hid hbl
              have HOK1 := Lib.hid (HOK.out m hlt hlt)
              obtain ⟨R, hR⟩ : ∃ R, R = (ops.drop (m + 1)).flatMap enc1 := ⟨_, rfl⟩
              have hdr : (ops.drop m).flatMap enc1 = enc1 ops[m] ++ R := by rw [hR, List.drop_eq_getElem_cons hlt, List.flatMap_cons]
              rw [hdr] at HR
              have HRR := Lib.hid hR
              have d0 := (HB.out.cell (p := ⟨b, off + m * 5, none⟩) HBB.out).trans c0
              have d1 := (HB.out.cell (p := ⟨b, off + m * 5 + 1, none⟩) HBB.out).trans c1
              have d2 := (HB.out.cell (p := ⟨b, off + m * 5 + 2, none⟩) HBB.out).trans c2
              have d3 := (HB.out.cell (p := ⟨b, off + m * 5 + 3, none⟩) HBB.out).trans c3
              clear c0 c1 c2 c3 c4 hbl hR hdr
              generalize ops[m] = o at *
              obtain ⟨ok, on, oz, ot, oe⟩ := o
              dsimp only at d0 d1 d2 d3
              by_cases k0 : ok = 0
              · subst k0
                have hg : good on oz := HOK1.out rfl
                obtain ⟨hgt, hnn⟩ := gt_enc R hg
                have P1 : Hid (∀ W, RdS W g 0 (enc1 ⟨0, on, oz, ot, oe⟩ ++ R) → Calls Try.prog 14 #[.pointer (some ⟨g, 0, none⟩), .int .i64 oz] W fun r w' => r = .returned (.int .i64 on) ∧ RdS w' g 0 R ∧ But g W w') := fun W h => by
                  unfold enc1 at h; rw [if_pos rfl] at h
                  have := num_st g 0 _ oz W h
                  rw [hgt, hnn] at this; exact this
                clear hg hgt hnn
                go_wp2
                go_cut [105] (fun v wx => v = .bool false ∧ RdS wx g 0 R ∧ Below w.heap.size w wx)
                case first =>
                  refine wp_region_held_drew (S := (fun w' => w'.cell? ⟨b, off + m * 5, none⟩ = some (.int .i64 0) ∧ w'.cell? ⟨b, off + m * 5 + 1, none⟩ = some (.int .i64 on) ∧ w'.cell? ⟨b, off + m * 5 + 2, none⟩ = some (.int .i64 oz))) (by kernel_rfl) ?hS (fun hHeld => ?_)
                  case hS => exact ⟨d0, d1, d2⟩
                  refine wpAnyH_take (i := 0) (oi := { dst := some 61, op := Op.move (Operand.tmp 0), type := 22, pos := "law.go:131", after := #[], guard := none }) (v := ?v0) rfl (by kernel_rfl) (by kernel_rfl) (by kernel_rfl) (fun _ _ _ h => h) (Or.inl ⟨by rfl, ?y0⟩) hHeld ?r0
                  case y0 => (intro w hSw; (try dsimp only at hSw); go_simp; try with_reducible rfl)
                  try simp only [Act.put, List.setIfInBounds_toArray, List.set_cons_zero, List.set_cons_succ]
                  refine wpAnyH_take (i := 1) (oi := { dst := some 62, op := Op.move (Operand.tmp 8), type := 3, pos := "law.go:131", after := #[], guard := none }) (v := ?v1) rfl (by kernel_rfl) (by kernel_rfl) (by kernel_rfl) (fun _ _ _ h => h) (Or.inl ⟨by rfl, ?y1⟩) hHeld ?r1
                  case y1 => (intro w hSw; (try dsimp only at hSw); go_simp; try with_reducible rfl)
                  try simp only [Act.put, List.setIfInBounds_toArray, List.set_cons_zero, List.set_cons_succ]
                  refine wpAnyH_take (i := 2) (oi := { dst := some 63, op := Op.indexAddr 22 (Operand.tmp 61) (Operand.tmp 62), type := 0, pos := "law.go:131", after := #[{ on := 0, ground := Ground.data }, { on := 1, ground := Ground.data }], guard := none }) (v := ?v2) rfl (by kernel_rfl) (by kernel_rfl) (by kernel_rfl) (fun _ _ _ h => h) (Or.inl ⟨by rfl, ?y2⟩) hHeld ?r2
                  case y2 => (intro w hSw; (try dsimp only at hSw); go_simp; try with_reducible rfl)
                  try simp only [Act.put, List.setIfInBounds_toArray, List.set_cons_zero, List.set_cons_succ]
                  refine wpAnyH_take (i := 3) (oi := { dst := some 64, op := Op.fieldAddr 32 (Operand.tmp 63) 0, type := 0, pos := "law.go:131", after := #[{ on := 2, ground := Ground.data }], guard := none }) (v := ?v3) rfl (by kernel_rfl) (by kernel_rfl) (by kernel_rfl) (fun _ _ _ h => h) (Or.inl ⟨by rfl, ?y3⟩) hHeld ?r3
                  case y3 => (intro w hSw; (try dsimp only at hSw); go_simp; try with_reducible rfl)
                  try simp only [Act.put, List.setIfInBounds_toArray, List.set_cons_zero, List.set_cons_succ]
                  refine wpAnyH_take (i := 4) (oi := { dst := some 65, op := Op.load 3 (Operand.tmp 64), type := 3, pos := "law.go:131", after := #[{ on := 3, ground := Ground.data }], guard := none }) (v := ?v4) rfl (by kernel_rfl) (by kernel_rfl) (by kernel_rfl) (fun _ _ _ h => h) (Or.inl ⟨by rfl, ?y4⟩) hHeld ?r4
                  case y4 => (intro w hSw; (try dsimp only at hSw); go_simp; try with_reducible rfl)
                  try simp only [Act.put, List.setIfInBounds_toArray, List.set_cons_zero, List.set_cons_succ]
                  refine wpAnyH_take (i := 5) (oi := { dst := some 66, op := Op.binOp BinOp.eql 3 (Operand.tmp 65) (Operand.const (Value.int IntKind.i64 0)) 3, type := 4, pos := "law.go:131", after := #[{ on := 4, ground := Ground.data }], guard := none }) (v := ?v5) rfl (by kernel_rfl) (by kernel_rfl) (by kernel_rfl) (fun _ _ _ h => h) (Or.inl ⟨by rfl, ?y5⟩) hHeld ?r5
                  case y5 => (intro w hSw; (try dsimp only at hSw); go_simp; try with_reducible rfl)
                  try simp only [Act.put, List.setIfInBounds_toArray, List.set_cons_zero, List.set_cons_succ]
                  refine wpAnyH_take (i := 6) (oi := { dst := some 67, op := Op.move (Operand.tmp 66), type := 4, pos := "law.go:131", after := #[{ on := 5, ground := Ground.data }], guard := none }) (v := ?v6) rfl (by kernel_rfl) (by kernel_rfl) (by kernel_rfl) (fun _ _ _ h => h) (Or.inl ⟨by rfl, ?y6⟩) hHeld ?r6
                  case y6 => (intro w hSw; (try dsimp only at hSw); go_simp; try with_reducible rfl)
                  try simp only [Act.put, List.setIfInBounds_toArray, List.set_cons_zero, List.set_cons_succ]
                  refine wpAnyH_take (i := 7) (oi := { dst := some 68, op := Op.move (Operand.tmp 7), type := 37, pos := "law.go:131", after := #[{ on := 6, ground := Ground.guard }], guard := some (6, true) }) (v := ?v7) rfl (by kernel_rfl) (by kernel_rfl) (by kernel_rfl) (fun _ _ _ h => h) (Or.inl ⟨by rfl, ?y7⟩) hHeld ?r7
                  case y7 => (intro w hSw; (try dsimp only at hSw); go_simp; try with_reducible rfl)
                  try simp only [Act.put, List.setIfInBounds_toArray, List.set_cons_zero, List.set_cons_succ]
                  refine wpAnyH_take (i := 8) (oi := { dst := some 69, op := Op.move (Operand.tmp 0), type := 22, pos := "law.go:131", after := #[{ on := 6, ground := Ground.guard }], guard := some (6, true) }) (v := ?v8) rfl (by kernel_rfl) (by kernel_rfl) (by kernel_rfl) (fun _ _ _ h => h) (Or.inl ⟨by rfl, ?y8⟩) hHeld ?r8
                  case y8 => (intro w hSw; (try dsimp only at hSw); go_simp; try with_reducible rfl)
                  try simp only [Act.put, List.setIfInBounds_toArray, List.set_cons_zero, List.set_cons_succ]
                  refine wpAnyH_take (i := 9) (oi := { dst := some 70, op := Op.move (Operand.tmp 8), type := 3, pos := "law.go:131", after := #[{ on := 6, ground := Ground.guard }], guard := some (6, true) }) (v := ?v9) rfl (by kernel_rfl) (by kernel_rfl) (by kernel_rfl) (fun _ _ _ h => h) (Or.inl ⟨by rfl, ?y9⟩) hHeld ?r9
                  case y9 => (intro w hSw; (try dsimp only at hSw); go_simp; try with_reducible rfl)
                  try simp only [Act.put, List.setIfInBounds_toArray, List.set_cons_zero, List.set_cons_succ]
                  refine wpAnyH_take (i := 10) (oi := { dst := some 71, op := Op.indexAddr 22 (Operand.tmp 69) (Operand.tmp 70), type := 0, pos := "law.go:131", after := #[{ on := 8, ground := Ground.data }, { on := 9, ground := Ground.data }, { on := 6, ground := Ground.guard }], guard := some (6, true) }) (v := ?v10) rfl (by kernel_rfl) (by kernel_rfl) (by kernel_rfl) (fun _ _ _ h => h) (Or.inl ⟨by rfl, ?y10⟩) hHeld ?r10
                  case y10 => (intro w hSw; (try dsimp only at hSw); go_simp; try with_reducible rfl)
                  try simp only [Act.put, List.setIfInBounds_toArray, List.set_cons_zero, List.set_cons_succ]
                  refine wpAnyH_take (i := 11) (oi := { dst := some 72, op := Op.fieldAddr 32 (Operand.tmp 71) 2, type := 0, pos := "law.go:131", after := #[{ on := 10, ground := Ground.data }, { on := 6, ground := Ground.guard }], guard := some (6, true) }) (v := ?v11) rfl (by kernel_rfl) (by kernel_rfl) (by kernel_rfl) (fun _ _ _ h => h) (Or.inl ⟨by rfl, ?y11⟩) hHeld ?r11
                  case y11 => (intro w hSw; (try dsimp only at hSw); go_simp; try with_reducible rfl)
                  try simp only [Act.put, List.setIfInBounds_toArray, List.set_cons_zero, List.set_cons_succ]
                  refine wpAnyH_take (i := 12) (oi := { dst := some 73, op := Op.load 3 (Operand.tmp 72), type := 3, pos := "law.go:131", after := #[{ on := 11, ground := Ground.data }, { on := 6, ground := Ground.guard }], guard := some (6, true) }) (v := ?v12) rfl (by kernel_rfl) (by kernel_rfl) (by kernel_rfl) (fun _ _ _ h => h) (Or.inl ⟨by rfl, ?y12⟩) hHeld ?r12
                  case y12 => (intro w hSw; (try dsimp only at hSw); go_simp; try with_reducible rfl)
                  try simp only [Act.put, List.setIfInBounds_toArray, List.set_cons_zero, List.set_cons_succ]
                  refine wpAnyH_take (i := 14) (oi := { dst := some 75, op := Op.move (Operand.tmp 0), type := 22, pos := "law.go:131", after := #[{ on := 6, ground := Ground.guard }], guard := some (6, true) }) (v := ?v14) rfl (by kernel_rfl) (by kernel_rfl) (by kernel_rfl) (fun _ _ _ h => h) (Or.inl ⟨by rfl, ?y14⟩) hHeld ?r14
                  case y14 => (intro w hSw; (try dsimp only at hSw); go_simp; try with_reducible rfl)
                  try simp only [Act.put, List.setIfInBounds_toArray, List.set_cons_zero, List.set_cons_succ]
                  refine wpAnyH_take (i := 15) (oi := { dst := some 76, op := Op.move (Operand.tmp 8), type := 3, pos := "law.go:131", after := #[{ on := 6, ground := Ground.guard }], guard := some (6, true) }) (v := ?v15) rfl (by kernel_rfl) (by kernel_rfl) (by kernel_rfl) (fun _ _ _ h => h) (Or.inl ⟨by rfl, ?y15⟩) hHeld ?r15
                  case y15 => (intro w hSw; (try dsimp only at hSw); go_simp; try with_reducible rfl)
                  try simp only [Act.put, List.setIfInBounds_toArray, List.set_cons_zero, List.set_cons_succ]
                  refine wpAnyH_take (i := 16) (oi := { dst := some 77, op := Op.indexAddr 22 (Operand.tmp 75) (Operand.tmp 76), type := 0, pos := "law.go:131", after := #[{ on := 14, ground := Ground.data }, { on := 15, ground := Ground.data }, { on := 6, ground := Ground.guard }], guard := some (6, true) }) (v := ?v16) rfl (by kernel_rfl) (by kernel_rfl) (by kernel_rfl) (fun _ _ _ h => h) (Or.inl ⟨by rfl, ?y16⟩) hHeld ?r16
                  case y16 => (intro w hSw; (try dsimp only at hSw); go_simp; try with_reducible rfl)
                  try simp only [Act.put, List.setIfInBounds_toArray, List.set_cons_zero, List.set_cons_succ]
                  refine wpAnyH_take (i := 17) (oi := { dst := some 78, op := Op.fieldAddr 32 (Operand.tmp 77) 1, type := 0, pos := "law.go:131", after := #[{ on := 16, ground := Ground.data }, { on := 6, ground := Ground.guard }], guard := some (6, true) }) (v := ?v17) rfl (by kernel_rfl) (by kernel_rfl) (by kernel_rfl) (fun _ _ _ h => h) (Or.inl ⟨by rfl, ?y17⟩) hHeld ?r17
                  case y17 => (intro w hSw; (try dsimp only at hSw); go_simp; try with_reducible rfl)
                  try simp only [Act.put, List.setIfInBounds_toArray, List.set_cons_zero, List.set_cons_succ]
                  refine wpAnyH_take (i := 18) (oi := { dst := some 79, op := Op.load 3 (Operand.tmp 78), type := 3, pos := "law.go:131", after := #[{ on := 17, ground := Ground.data }, { on := 6, ground := Ground.guard }], guard := some (6, true) }) (v := ?v18) rfl (by kernel_rfl) (by kernel_rfl) (by kernel_rfl) (fun _ _ _ h => h) (Or.inl ⟨by rfl, ?y18⟩) hHeld ?r18
                  case y18 => (intro w hSw; (try dsimp only at hSw); go_simp; try with_reducible rfl)
                  try simp only [Act.put, List.setIfInBounds_toArray, List.set_cons_zero, List.set_cons_succ]
                  refine wpAnyH_ready (rs := [13]) (by kernel_rfl) (by simp) ?_
                  refine AllReadyH.cons (o := { dst := some 74, op := Op.call { callee := Callee.value (Operand.func 14), args := #[Operand.tmp 68, Operand.tmp 73], argTypes := #[37, 3] }, type := 3, pos := "law.go:131", after := #[{ on := 7, ground := Ground.data }, { on := 12, ground := Ground.data }, { on := 6, ground := Ground.chain }, { on := 6, ground := Ground.guard }], guard := some (6, true) }) rfl (fun K hK => ?s13) ?m13
                  case m13 => exact AllReadyH.nil
                  go_simp
                  refine (P1.out _ ?hw).mono ?_
                  case hw => exact HR.out
                  rintro r w3 ⟨rfl, hr3, hb3⟩
                  have x0 := oldCell hb3 HBB.out HGW.out HB.out.size d0
                  have x1 := oldCell hb3 HBB.out HGW.out HB.out.size d1
                  have x2 := oldCell hb3 HBB.out HGW.out HB.out.size d2
                  try go_wp2_with fail
                  refine hK.out _ _ ?hS2 (fun hHeld2 => ?_)
                  case hS2 => exact ⟨x0, x1, x2⟩
                  clear hK K
                  try simp only [Act.put, List.setIfInBounds_toArray, List.set_cons_zero, List.set_cons_succ]
                  refine wpAnyH_take (i := 19) (oi := { dst := some 80, op := Op.binOp BinOp.neq 3 (Operand.tmp 74) (Operand.tmp 79) 3, type := 4, pos := "law.go:131", after := #[{ on := 13, ground := Ground.data }, { on := 18, ground := Ground.data }, { on := 6, ground := Ground.guard }], guard := some (6, true) }) (v := ?v19) rfl (by kernel_rfl) (by kernel_rfl) (by kernel_rfl) (fun _ _ _ h => h) (Or.inl ⟨by rfl, ?y19⟩) hHeld2 ?r19
                  case y19 => (intro w hSw; (try dsimp only at hSw); go_simp; try with_reducible rfl)
                  try simp only [Act.put, List.setIfInBounds_toArray, List.set_cons_zero, List.set_cons_succ]
                  refine wpAnyH_take (i := 20) (oi := { dst := some 81, op := Op.pick (Operand.tmp 67) (Operand.tmp 80) (Operand.const (Value.bool false)), type := 4, pos := "law.go:131", after := #[{ on := 6, ground := Ground.data }, { on := 19, ground := Ground.data }], guard := none }) (v := ?v20) rfl (by kernel_rfl) (by kernel_rfl) (by kernel_rfl) (fun _ _ _ h => h) (Or.inl ⟨by rfl, ?y20⟩) hHeld2 ?r20
                  case y20 => (intro w hSw; (try dsimp only at hSw); go_simp; try with_reducible rfl)
                  try simp only [Act.put, List.setIfInBounds_toArray, List.set_cons_zero, List.set_cons_succ]
                  refine wpAnyH_take (i := 21) (oi := { dst := some 82, op := Op.move (Operand.tmp 81), type := 4, pos := "law.go:131", after := #[{ on := 20, ground := Ground.data }, { on := 13, ground := Ground.chain }], guard := none }) (v := ?v21) rfl (by kernel_rfl) (by kernel_rfl) (by kernel_rfl) (fun _ _ _ h => h) (Or.inl ⟨by rfl, ?y21⟩) hHeld2 ?r21
                  case y21 => (intro w hSw; (try dsimp only at hSw); go_simp; try with_reducible rfl)
                  try simp only [Act.put, List.setIfInBounds_toArray, List.set_cons_zero, List.set_cons_succ]
                  refine wpAnyH_take (i := 22) (oi := { dst := some 83, op := Op.move (Operand.tmp 0), type := 22, pos := "law.go:131", after := #[{ on := 21, ground := Ground.guard }], guard := some (21, false) }) (v := ?v22) rfl (by kernel_rfl) (by kernel_rfl) (by kernel_rfl) (fun _ _ _ h => h) (Or.inl ⟨by rfl, ?y22⟩) hHeld2 ?r22
                  case y22 => (intro w hSw; (try dsimp only at hSw); go_simp; try with_reducible rfl)
                  try simp only [Act.put, List.setIfInBounds_toArray, List.set_cons_zero, List.set_cons_succ]
                  refine wpAnyH_take (i := 23) (oi := { dst := some 84, op := Op.move (Operand.tmp 8), type := 3, pos := "law.go:131", after := #[{ on := 21, ground := Ground.guard }], guard := some (21, false) }) (v := ?v23) rfl (by kernel_rfl) (by kernel_rfl) (by kernel_rfl) (fun _ _ _ h => h) (Or.inl ⟨by rfl, ?y23⟩) hHeld2 ?r23
                  case y23 => (intro w hSw; (try dsimp only at hSw); go_simp; try with_reducible rfl)
                  try simp only [Act.put, List.setIfInBounds_toArray, List.set_cons_zero, List.set_cons_succ]
                  refine wpAnyH_take (i := 24) (oi := { dst := some 85, op := Op.indexAddr 22 (Operand.tmp 83) (Operand.tmp 84), type := 0, pos := "law.go:131", after := #[{ on := 22, ground := Ground.data }, { on := 23, ground := Ground.data }, { on := 21, ground := Ground.guard }], guard := some (21, false) }) (v := ?v24) rfl (by kernel_rfl) (by kernel_rfl) (by kernel_rfl) (fun _ _ _ h => h) (Or.inl ⟨by rfl, ?y24⟩) hHeld2 ?r24
                  case y24 => (intro w hSw; (try dsimp only at hSw); go_simp; try with_reducible rfl)
                  try simp only [Act.put, List.setIfInBounds_toArray, List.set_cons_zero, List.set_cons_succ]
                  refine wpAnyH_take (i := 25) (oi := { dst := some 86, op := Op.fieldAddr 32 (Operand.tmp 85) 0, type := 0, pos := "law.go:131", after := #[{ on := 24, ground := Ground.data }, { on := 21, ground := Ground.guard }], guard := some (21, false) }) (v := ?v25) rfl (by kernel_rfl) (by kernel_rfl) (by kernel_rfl) (fun _ _ _ h => h) (Or.inl ⟨by rfl, ?y25⟩) hHeld2 ?r25
                  case y25 => (intro w hSw; (try dsimp only at hSw); go_simp; try with_reducible rfl)
                  try simp only [Act.put, List.setIfInBounds_toArray, List.set_cons_zero, List.set_cons_succ]
                  refine wpAnyH_take (i := 26) (oi := { dst := some 87, op := Op.load 3 (Operand.tmp 86), type := 3, pos := "law.go:131", after := #[{ on := 25, ground := Ground.data }, { on := 21, ground := Ground.guard }], guard := some (21, false) }) (v := ?v26) rfl (by kernel_rfl) (by kernel_rfl) (by kernel_rfl) (fun _ _ _ h => h) (Or.inl ⟨by rfl, ?y26⟩) hHeld2 ?r26
                  case y26 => (intro w hSw; (try dsimp only at hSw); go_simp; try with_reducible rfl)
                  try simp only [Act.put, List.setIfInBounds_toArray, List.set_cons_zero, List.set_cons_succ]
                  refine wpAnyH_take (i := 27) (oi := { dst := some 88, op := Op.binOp BinOp.neq 3 (Operand.tmp 87) (Operand.const (Value.int IntKind.i64 0)) 3, type := 4, pos := "law.go:131", after := #[{ on := 26, ground := Ground.data }, { on := 21, ground := Ground.guard }], guard := some (21, false) }) (v := ?v27) rfl (by kernel_rfl) (by kernel_rfl) (by kernel_rfl) (fun _ _ _ h => h) (Or.inl ⟨by rfl, ?y27⟩) hHeld2 ?r27
                  case y27 => (intro w hSw; (try dsimp only at hSw); go_simp; try with_reducible rfl)
                  try simp only [Act.put, List.setIfInBounds_toArray, List.set_cons_zero, List.set_cons_succ]
                  refine wpAnyH_take (i := 28) (oi := { dst := some 89, op := Op.move (Operand.tmp 88), type := 4, pos := "law.go:131", after := #[{ on := 27, ground := Ground.data }, { on := 21, ground := Ground.chain }, { on := 21, ground := Ground.guard }], guard := some (21, false) }) (v := ?v28) rfl (by kernel_rfl) (by kernel_rfl) (by kernel_rfl) (fun _ _ _ h => h) (Or.inl ⟨by rfl, ?y28⟩) hHeld2 ?r28
                  case y28 => (intro w hSw; (try dsimp only at hSw); go_simp; try with_reducible rfl)
                  try simp only [Act.put, List.setIfInBounds_toArray, List.set_cons_zero, List.set_cons_succ]
                  refine wpAnyH_take (i := 29) (oi := { dst := some 90, op := Op.move (Operand.tmp 7), type := 37, pos := "law.go:131", after := #[{ on := 28, ground := Ground.guard }], guard := some (28, true) }) (v := undef) rfl (by kernel_rfl) (by kernel_rfl) (by kernel_rfl) (fun _ _ _ h => h) (Or.inr ⟨by rfl, rfl⟩) hHeld2 ?r29
                  try simp only [Act.put, List.setIfInBounds_toArray, List.set_cons_zero, List.set_cons_succ]
                  refine wpAnyH_take (i := 30) (oi := { dst := some 91, op := Op.move (Operand.tmp 0), type := 22, pos := "law.go:131", after := #[{ on := 28, ground := Ground.guard }], guard := some (28, true) }) (v := undef) rfl (by kernel_rfl) (by kernel_rfl) (by kernel_rfl) (fun _ _ _ h => h) (Or.inr ⟨by rfl, rfl⟩) hHeld2 ?r30
                  try simp only [Act.put, List.setIfInBounds_toArray, List.set_cons_zero, List.set_cons_succ]
                  refine wpAnyH_take (i := 31) (oi := { dst := some 92, op := Op.move (Operand.tmp 8), type := 3, pos := "law.go:131", after := #[{ on := 28, ground := Ground.guard }], guard := some (28, true) }) (v := undef) rfl (by kernel_rfl) (by kernel_rfl) (by kernel_rfl) (fun _ _ _ h => h) (Or.inr ⟨by rfl, rfl⟩) hHeld2 ?r31
                  try simp only [Act.put, List.setIfInBounds_toArray, List.set_cons_zero, List.set_cons_succ]
                  refine wpAnyH_take (i := 32) (oi := { dst := some 93, op := Op.indexAddr 22 (Operand.tmp 91) (Operand.tmp 92), type := 0, pos := "law.go:131", after := #[{ on := 30, ground := Ground.data }, { on := 31, ground := Ground.data }, { on := 28, ground := Ground.guard }], guard := some (28, true) }) (v := undef) rfl (by kernel_rfl) (by kernel_rfl) (by kernel_rfl) (fun _ _ _ h => h) (Or.inr ⟨by rfl, rfl⟩) hHeld2 ?r32
                  try simp only [Act.put, List.setIfInBounds_toArray, List.set_cons_zero, List.set_cons_succ]
                  refine wpAnyH_take (i := 33) (oi := { dst := some 94, op := Op.fieldAddr 32 (Operand.tmp 93) 3, type := 0, pos := "law.go:131", after := #[{ on := 32, ground := Ground.data }, { on := 28, ground := Ground.guard }], guard := some (28, true) }) (v := undef) rfl (by kernel_rfl) (by kernel_rfl) (by kernel_rfl) (fun _ _ _ h => h) (Or.inr ⟨by rfl, rfl⟩) hHeld2 ?r33
                  try simp only [Act.put, List.setIfInBounds_toArray, List.set_cons_zero, List.set_cons_succ]
                  refine wpAnyH_take (i := 34) (oi := { dst := some 95, op := Op.load 9 (Operand.tmp 94), type := 9, pos := "law.go:131", after := #[{ on := 33, ground := Ground.data }, { on := 28, ground := Ground.guard }], guard := some (28, true) }) (v := undef) rfl (by kernel_rfl) (by kernel_rfl) (by kernel_rfl) (fun _ _ _ h => h) (Or.inr ⟨by rfl, rfl⟩) hHeld2 ?r34
                  try simp only [Act.put, List.setIfInBounds_toArray, List.set_cons_zero, List.set_cons_succ]
                  refine wpAnyH_take (i := 35) (oi := { dst := some 96, op := Op.call { callee := Callee.builtin Builtin.len, args := #[Operand.tmp 95], argTypes := #[9] }, type := 3, pos := "law.go:131", after := #[{ on := 34, ground := Ground.data }, { on := 28, ground := Ground.guard }], guard := some (28, true) }) (v := undef) rfl (by kernel_rfl) (by kernel_rfl) (by kernel_rfl) (fun _ _ _ h => h) (Or.inr ⟨by rfl, rfl⟩) hHeld2 ?r35
                  try simp only [Act.put, List.setIfInBounds_toArray, List.set_cons_zero, List.set_cons_succ]
                  refine wpAnyH_take (i := 36) (oi := { dst := some 97, op := Op.call { callee := Callee.value (Operand.func 15), args := #[Operand.tmp 90, Operand.tmp 96], argTypes := #[37, 3] }, type := 9, pos := "law.go:131", after := #[{ on := 29, ground := Ground.data }, { on := 35, ground := Ground.data }, { on := 28, ground := Ground.chain }, { on := 28, ground := Ground.guard }], guard := some (28, true) }) (v := undef) rfl (by kernel_rfl) (by kernel_rfl) (by kernel_rfl) (fun _ _ _ h => h) (Or.inr ⟨by rfl, rfl⟩) hHeld2 ?r36
                  try simp only [Act.put, List.setIfInBounds_toArray, List.set_cons_zero, List.set_cons_succ]
                  refine wpAnyH_take (i := 37) (oi := { dst := some 98, op := Op.move (Operand.tmp 0), type := 22, pos := "law.go:131", after := #[{ on := 28, ground := Ground.guard }], guard := some (28, true) }) (v := undef) rfl (by kernel_rfl) (by kernel_rfl) (by kernel_rfl) (fun _ _ _ h => h) (Or.inr ⟨by rfl, rfl⟩) hHeld2 ?r37
                  try simp only [Act.put, List.setIfInBounds_toArray, List.set_cons_zero, List.set_cons_succ]
                  refine wpAnyH_take (i := 38) (oi := { dst := some 99, op := Op.move (Operand.tmp 8), type := 3, pos := "law.go:131", after := #[{ on := 28, ground := Ground.guard }], guard := some (28, true) }) (v := undef) rfl (by kernel_rfl) (by kernel_rfl) (by kernel_rfl) (fun _ _ _ h => h) (Or.inr ⟨by rfl, rfl⟩) hHeld2 ?r38
                  try simp only [Act.put, List.setIfInBounds_toArray, List.set_cons_zero, List.set_cons_succ]
                  refine wpAnyH_take (i := 39) (oi := { dst := some 100, op := Op.indexAddr 22 (Operand.tmp 98) (Operand.tmp 99), type := 0, pos := "law.go:131", after := #[{ on := 37, ground := Ground.data }, { on := 38, ground := Ground.data }, { on := 28, ground := Ground.guard }], guard := some (28, true) }) (v := undef) rfl (by kernel_rfl) (by kernel_rfl) (by kernel_rfl) (fun _ _ _ h => h) (Or.inr ⟨by rfl, rfl⟩) hHeld2 ?r39
                  try simp only [Act.put, List.setIfInBounds_toArray, List.set_cons_zero, List.set_cons_succ]
                  refine wpAnyH_take (i := 40) (oi := { dst := some 101, op := Op.fieldAddr 32 (Operand.tmp 100) 3, type := 0, pos := "law.go:131", after := #[{ on := 39, ground := Ground.data }, { on := 28, ground := Ground.guard }], guard := some (28, true) }) (v := undef) rfl (by kernel_rfl) (by kernel_rfl) (by kernel_rfl) (fun _ _ _ h => h) (Or.inr ⟨by rfl, rfl⟩) hHeld2 ?r40
                  try simp only [Act.put, List.setIfInBounds_toArray, List.set_cons_zero, List.set_cons_succ]
                  refine wpAnyH_take (i := 41) (oi := { dst := some 102, op := Op.load 9 (Operand.tmp 101), type := 9, pos := "law.go:131", after := #[{ on := 40, ground := Ground.data }, { on := 28, ground := Ground.guard }], guard := some (28, true) }) (v := undef) rfl (by kernel_rfl) (by kernel_rfl) (by kernel_rfl) (fun _ _ _ h => h) (Or.inr ⟨by rfl, rfl⟩) hHeld2 ?r41
                  try simp only [Act.put, List.setIfInBounds_toArray, List.set_cons_zero, List.set_cons_succ]
                  refine wpAnyH_take (i := 42) (oi := { dst := some 103, op := Op.binOp BinOp.neq 9 (Operand.tmp 97) (Operand.tmp 102) 9, type := 4, pos := "law.go:131", after := #[{ on := 36, ground := Ground.data }, { on := 41, ground := Ground.data }, { on := 28, ground := Ground.guard }], guard := some (28, true) }) (v := undef) rfl (by kernel_rfl) (by kernel_rfl) (by kernel_rfl) (fun _ _ _ h => h) (Or.inr ⟨by rfl, rfl⟩) hHeld2 ?r42
                  try simp only [Act.put, List.setIfInBounds_toArray, List.set_cons_zero, List.set_cons_succ]
                  refine wpAnyH_take (i := 43) (oi := { dst := some 104, op := Op.pick (Operand.tmp 89) (Operand.tmp 103) (Operand.const (Value.bool false)), type := 4, pos := "law.go:131", after := #[{ on := 28, ground := Ground.data }, { on := 42, ground := Ground.data }, { on := 21, ground := Ground.guard }], guard := some (21, false) }) (v := ?v43) rfl (by kernel_rfl) (by kernel_rfl) (by kernel_rfl) (fun _ _ _ h => h) (Or.inl ⟨by rfl, ?y43⟩) hHeld2 ?r43
                  case y43 => (intro w hSw; (try dsimp only at hSw); go_simp; try with_reducible rfl)
                  try simp only [Act.put, List.setIfInBounds_toArray, List.set_cons_zero, List.set_cons_succ]
                  refine wpAnyH_take (i := 44) (oi := { dst := some 105, op := Op.pick (Operand.tmp 82) (Operand.const (Value.bool true)) (Operand.tmp 104), type := 4, pos := "law.go:131", after := #[{ on := 21, ground := Ground.data }, { on := 43, ground := Ground.data }], guard := none }) (v := ?v44) rfl (by kernel_rfl) (by kernel_rfl) (by kernel_rfl) (fun _ _ _ h => h) (Or.inl ⟨by rfl, ?y44⟩) hHeld2 ?r44
                  case y44 => (intro w hSw; (try dsimp only at hSw); go_simp; try with_reducible rfl)
                  try simp only [Act.put, List.setIfInBounds_toArray, List.set_cons_zero, List.set_cons_succ]
                  refine wpAnyH_done (by kernel_rfl) ?_ _
                  all_goals (try go_wp2_with fail)
                  all_goals go_meet
                  all_goals exact ⟨rfl, hr3, HB.out.drew.trans (hb3.below (B := w.heap.size) HB.out.size HGW.out)⟩
                case rest =>
                  obtain ⟨rfl, hr4, hb4⟩ := hcut
                  have HX := Lib.hid (And.intro hr4 hb4)
                  clear hr4 hb4 d0 d1 d2 d3
                  go_wp2
                  go_roundw
                  case rel => exact ⟨m + 1, by omega, by go_num, by rw [← HRR.out]; exact HX.out.1, HX.out.2⟩
                  case measure => simp [intOf]; omega
              · have k0' : (ok == 0) = false := beq_eq_false_iff_ne.2 k0
                have k0'' : (ok != 0) = true := bne_iff_ne.2 k0
                have P1 : Hid (∀ W, RdS W g 0 (enc1 ⟨ok, on, oz, ot, oe⟩ ++ R) → Calls Try.prog 15 #[.pointer (some ⟨g, 0, none⟩), .int .i64 ot.size] W fun r w' => r = .returned (.string ot) ∧ RdS w' g 0 R ∧ But g W w') := fun W h => by
                  unfold enc1 at h; rw [if_neg k0] at h
                  have := take_st g 0 _ (ot.size : Int) W h
                  rw [tk_enc] at this; exact this
                clear k0
                go_wp2
                go_cut [105] (fun v wx => v = .bool false ∧ RdS wx g 0 R ∧ Below w.heap.size w wx)
                case first =>
                  refine wp_region_held_drew (S := (fun w' => w'.cell? ⟨b, off + m * 5, none⟩ = some (.int .i64 ok) ∧ w'.cell? ⟨b, off + m * 5 + 3, none⟩ = some (.string ot))) (by kernel_rfl) ?hSb (fun hHeld => ?_)
                  case hSb => exact ⟨d0, d3⟩
                  refine wpAnyH_take (i := 0) (oi := { dst := some 61, op := Op.move (Operand.tmp 0), type := 22, pos := "law.go:131", after := #[], guard := none }) (v := ?vb0) rfl (by kernel_rfl) (by kernel_rfl) (by kernel_rfl) (fun _ _ _ h => h) (Or.inl ⟨by rfl, ?yb0⟩) hHeld ?rb0
                  case yb0 => (intro w hSw; (try dsimp only at hSw); go_simp; try with_reducible rfl)
                  try simp only [Act.put, List.setIfInBounds_toArray, List.set_cons_zero, List.set_cons_succ]
                  refine wpAnyH_take (i := 1) (oi := { dst := some 62, op := Op.move (Operand.tmp 8), type := 3, pos := "law.go:131", after := #[], guard := none }) (v := ?vb1) rfl (by kernel_rfl) (by kernel_rfl) (by kernel_rfl) (fun _ _ _ h => h) (Or.inl ⟨by rfl, ?yb1⟩) hHeld ?rb1
                  case yb1 => (intro w hSw; (try dsimp only at hSw); go_simp; try with_reducible rfl)
                  try simp only [Act.put, List.setIfInBounds_toArray, List.set_cons_zero, List.set_cons_succ]
                  refine wpAnyH_take (i := 2) (oi := { dst := some 63, op := Op.indexAddr 22 (Operand.tmp 61) (Operand.tmp 62), type := 0, pos := "law.go:131", after := #[{ on := 0, ground := Ground.data }, { on := 1, ground := Ground.data }], guard := none }) (v := ?vb2) rfl (by kernel_rfl) (by kernel_rfl) (by kernel_rfl) (fun _ _ _ h => h) (Or.inl ⟨by rfl, ?yb2⟩) hHeld ?rb2
                  case yb2 => (intro w hSw; (try dsimp only at hSw); go_simp; try with_reducible rfl)
                  try simp only [Act.put, List.setIfInBounds_toArray, List.set_cons_zero, List.set_cons_succ]
                  refine wpAnyH_take (i := 3) (oi := { dst := some 64, op := Op.fieldAddr 32 (Operand.tmp 63) 0, type := 0, pos := "law.go:131", after := #[{ on := 2, ground := Ground.data }], guard := none }) (v := ?vb3) rfl (by kernel_rfl) (by kernel_rfl) (by kernel_rfl) (fun _ _ _ h => h) (Or.inl ⟨by rfl, ?yb3⟩) hHeld ?rb3
                  case yb3 => (intro w hSw; (try dsimp only at hSw); go_simp; try with_reducible rfl)
                  try simp only [Act.put, List.setIfInBounds_toArray, List.set_cons_zero, List.set_cons_succ]
                  refine wpAnyH_take (i := 4) (oi := { dst := some 65, op := Op.load 3 (Operand.tmp 64), type := 3, pos := "law.go:131", after := #[{ on := 3, ground := Ground.data }], guard := none }) (v := ?vb4) rfl (by kernel_rfl) (by kernel_rfl) (by kernel_rfl) (fun _ _ _ h => h) (Or.inl ⟨by rfl, ?yb4⟩) hHeld ?rb4
                  case yb4 => (intro w hSw; (try dsimp only at hSw); go_simp; try with_reducible rfl)
                  try simp only [Act.put, List.setIfInBounds_toArray, List.set_cons_zero, List.set_cons_succ]
                  refine wpAnyH_take (i := 5) (oi := { dst := some 66, op := Op.binOp BinOp.eql 3 (Operand.tmp 65) (Operand.const (Value.int IntKind.i64 0)) 3, type := 4, pos := "law.go:131", after := #[{ on := 4, ground := Ground.data }], guard := none }) (v := ?vb5) rfl (by kernel_rfl) (by kernel_rfl) (by kernel_rfl) (fun _ _ _ h => h) (Or.inl ⟨by rfl, ?yb5⟩) hHeld ?rb5
                  case yb5 => (intro w hSw; (try dsimp only at hSw); go_simp; try with_reducible rfl)
                  try simp only [Act.put, List.setIfInBounds_toArray, List.set_cons_zero, List.set_cons_succ]
                  refine wpAnyH_take (i := 6) (oi := { dst := some 67, op := Op.move (Operand.tmp 66), type := 4, pos := "law.go:131", after := #[{ on := 5, ground := Ground.data }], guard := none }) (v := ?vb6) rfl (by kernel_rfl) (by kernel_rfl) (by kernel_rfl) (fun _ _ _ h => h) (Or.inl ⟨by rfl, ?yb6⟩) hHeld ?rb6
                  case yb6 => (intro w hSw; (try dsimp only at hSw); go_simp; try with_reducible rfl)
                  try simp only [Act.put, List.setIfInBounds_toArray, List.set_cons_zero, List.set_cons_succ]
                  refine wpAnyH_take (i := 7) (oi := { dst := some 68, op := Op.move (Operand.tmp 7), type := 37, pos := "law.go:131", after := #[{ on := 6, ground := Ground.guard }], guard := some (6, true) }) (v := undef) rfl (by kernel_rfl) (by kernel_rfl) (by kernel_rfl) (fun _ _ _ h => h) (Or.inr ⟨by rfl, rfl⟩) hHeld ?rb7
                  try simp only [Act.put, List.setIfInBounds_toArray, List.set_cons_zero, List.set_cons_succ]
                  refine wpAnyH_take (i := 8) (oi := { dst := some 69, op := Op.move (Operand.tmp 0), type := 22, pos := "law.go:131", after := #[{ on := 6, ground := Ground.guard }], guard := some (6, true) }) (v := undef) rfl (by kernel_rfl) (by kernel_rfl) (by kernel_rfl) (fun _ _ _ h => h) (Or.inr ⟨by rfl, rfl⟩) hHeld ?rb8
                  try simp only [Act.put, List.setIfInBounds_toArray, List.set_cons_zero, List.set_cons_succ]
                  refine wpAnyH_take (i := 9) (oi := { dst := some 70, op := Op.move (Operand.tmp 8), type := 3, pos := "law.go:131", after := #[{ on := 6, ground := Ground.guard }], guard := some (6, true) }) (v := undef) rfl (by kernel_rfl) (by kernel_rfl) (by kernel_rfl) (fun _ _ _ h => h) (Or.inr ⟨by rfl, rfl⟩) hHeld ?rb9
                  try simp only [Act.put, List.setIfInBounds_toArray, List.set_cons_zero, List.set_cons_succ]
                  refine wpAnyH_take (i := 10) (oi := { dst := some 71, op := Op.indexAddr 22 (Operand.tmp 69) (Operand.tmp 70), type := 0, pos := "law.go:131", after := #[{ on := 8, ground := Ground.data }, { on := 9, ground := Ground.data }, { on := 6, ground := Ground.guard }], guard := some (6, true) }) (v := undef) rfl (by kernel_rfl) (by kernel_rfl) (by kernel_rfl) (fun _ _ _ h => h) (Or.inr ⟨by rfl, rfl⟩) hHeld ?rb10
                  try simp only [Act.put, List.setIfInBounds_toArray, List.set_cons_zero, List.set_cons_succ]
                  refine wpAnyH_take (i := 11) (oi := { dst := some 72, op := Op.fieldAddr 32 (Operand.tmp 71) 2, type := 0, pos := "law.go:131", after := #[{ on := 10, ground := Ground.data }, { on := 6, ground := Ground.guard }], guard := some (6, true) }) (v := undef) rfl (by kernel_rfl) (by kernel_rfl) (by kernel_rfl) (fun _ _ _ h => h) (Or.inr ⟨by rfl, rfl⟩) hHeld ?rb11
                  try simp only [Act.put, List.setIfInBounds_toArray, List.set_cons_zero, List.set_cons_succ]
                  refine wpAnyH_take (i := 12) (oi := { dst := some 73, op := Op.load 3 (Operand.tmp 72), type := 3, pos := "law.go:131", after := #[{ on := 11, ground := Ground.data }, { on := 6, ground := Ground.guard }], guard := some (6, true) }) (v := undef) rfl (by kernel_rfl) (by kernel_rfl) (by kernel_rfl) (fun _ _ _ h => h) (Or.inr ⟨by rfl, rfl⟩) hHeld ?rb12
                  try simp only [Act.put, List.setIfInBounds_toArray, List.set_cons_zero, List.set_cons_succ]
                  refine wpAnyH_take (i := 13) (oi := { dst := some 74, op := Op.call { callee := Callee.value (Operand.func 14), args := #[Operand.tmp 68, Operand.tmp 73], argTypes := #[37, 3] }, type := 3, pos := "law.go:131", after := #[{ on := 7, ground := Ground.data }, { on := 12, ground := Ground.data }, { on := 6, ground := Ground.chain }, { on := 6, ground := Ground.guard }], guard := some (6, true) }) (v := undef) rfl (by kernel_rfl) (by kernel_rfl) (by kernel_rfl) (fun _ _ _ h => h) (Or.inr ⟨by rfl, rfl⟩) hHeld ?rb13
                  try simp only [Act.put, List.setIfInBounds_toArray, List.set_cons_zero, List.set_cons_succ]
                  refine wpAnyH_take (i := 14) (oi := { dst := some 75, op := Op.move (Operand.tmp 0), type := 22, pos := "law.go:131", after := #[{ on := 6, ground := Ground.guard }], guard := some (6, true) }) (v := undef) rfl (by kernel_rfl) (by kernel_rfl) (by kernel_rfl) (fun _ _ _ h => h) (Or.inr ⟨by rfl, rfl⟩) hHeld ?rb14
                  try simp only [Act.put, List.setIfInBounds_toArray, List.set_cons_zero, List.set_cons_succ]
                  refine wpAnyH_take (i := 15) (oi := { dst := some 76, op := Op.move (Operand.tmp 8), type := 3, pos := "law.go:131", after := #[{ on := 6, ground := Ground.guard }], guard := some (6, true) }) (v := undef) rfl (by kernel_rfl) (by kernel_rfl) (by kernel_rfl) (fun _ _ _ h => h) (Or.inr ⟨by rfl, rfl⟩) hHeld ?rb15
                  try simp only [Act.put, List.setIfInBounds_toArray, List.set_cons_zero, List.set_cons_succ]
                  refine wpAnyH_take (i := 16) (oi := { dst := some 77, op := Op.indexAddr 22 (Operand.tmp 75) (Operand.tmp 76), type := 0, pos := "law.go:131", after := #[{ on := 14, ground := Ground.data }, { on := 15, ground := Ground.data }, { on := 6, ground := Ground.guard }], guard := some (6, true) }) (v := undef) rfl (by kernel_rfl) (by kernel_rfl) (by kernel_rfl) (fun _ _ _ h => h) (Or.inr ⟨by rfl, rfl⟩) hHeld ?rb16
                  try simp only [Act.put, List.setIfInBounds_toArray, List.set_cons_zero, List.set_cons_succ]
                  refine wpAnyH_take (i := 17) (oi := { dst := some 78, op := Op.fieldAddr 32 (Operand.tmp 77) 1, type := 0, pos := "law.go:131", after := #[{ on := 16, ground := Ground.data }, { on := 6, ground := Ground.guard }], guard := some (6, true) }) (v := undef) rfl (by kernel_rfl) (by kernel_rfl) (by kernel_rfl) (fun _ _ _ h => h) (Or.inr ⟨by rfl, rfl⟩) hHeld ?rb17
                  try simp only [Act.put, List.setIfInBounds_toArray, List.set_cons_zero, List.set_cons_succ]
                  refine wpAnyH_take (i := 18) (oi := { dst := some 79, op := Op.load 3 (Operand.tmp 78), type := 3, pos := "law.go:131", after := #[{ on := 17, ground := Ground.data }, { on := 6, ground := Ground.guard }], guard := some (6, true) }) (v := undef) rfl (by kernel_rfl) (by kernel_rfl) (by kernel_rfl) (fun _ _ _ h => h) (Or.inr ⟨by rfl, rfl⟩) hHeld ?rb18
                  try simp only [Act.put, List.setIfInBounds_toArray, List.set_cons_zero, List.set_cons_succ]
                  refine wpAnyH_take (i := 19) (oi := { dst := some 80, op := Op.binOp BinOp.neq 3 (Operand.tmp 74) (Operand.tmp 79) 3, type := 4, pos := "law.go:131", after := #[{ on := 13, ground := Ground.data }, { on := 18, ground := Ground.data }, { on := 6, ground := Ground.guard }], guard := some (6, true) }) (v := undef) rfl (by kernel_rfl) (by kernel_rfl) (by kernel_rfl) (fun _ _ _ h => h) (Or.inr ⟨by rfl, rfl⟩) hHeld ?rb19
                  try simp only [Act.put, List.setIfInBounds_toArray, List.set_cons_zero, List.set_cons_succ]
                  refine wpAnyH_take (i := 20) (oi := { dst := some 81, op := Op.pick (Operand.tmp 67) (Operand.tmp 80) (Operand.const (Value.bool false)), type := 4, pos := "law.go:131", after := #[{ on := 6, ground := Ground.data }, { on := 19, ground := Ground.data }], guard := none }) (v := ?vb20) rfl (by kernel_rfl) (by kernel_rfl) (by kernel_rfl) (fun _ _ _ h => h) (Or.inl ⟨by rfl, ?yb20⟩) hHeld ?rb20
                  case yb20 => (intro w hSw; (try dsimp only at hSw); go_simp; try with_reducible rfl)
                  try simp only [Act.put, List.setIfInBounds_toArray, List.set_cons_zero, List.set_cons_succ]
                  refine wpAnyH_take (i := 21) (oi := { dst := some 82, op := Op.move (Operand.tmp 81), type := 4, pos := "law.go:131", after := #[{ on := 20, ground := Ground.data }, { on := 13, ground := Ground.chain }], guard := none }) (v := ?vb21) rfl (by kernel_rfl) (by kernel_rfl) (by kernel_rfl) (fun _ _ _ h => h) (Or.inl ⟨by rfl, ?yb21⟩) hHeld ?rb21
                  case yb21 => (intro w hSw; (try dsimp only at hSw); go_simp; try with_reducible rfl)
                  try simp only [Act.put, List.setIfInBounds_toArray, List.set_cons_zero, List.set_cons_succ]
                  refine wpAnyH_take (i := 22) (oi := { dst := some 83, op := Op.move (Operand.tmp 0), type := 22, pos := "law.go:131", after := #[{ on := 21, ground := Ground.guard }], guard := some (21, false) }) (v := ?vb22) rfl (by kernel_rfl) (by kernel_rfl) (by kernel_rfl) (fun _ _ _ h => h) (Or.inl ⟨by rfl, ?yb22⟩) hHeld ?rb22
                  case yb22 => (intro w hSw; (try dsimp only at hSw); go_simp; try with_reducible rfl)
                  try simp only [Act.put, List.setIfInBounds_toArray, List.set_cons_zero, List.set_cons_succ]
                  refine wpAnyH_take (i := 23) (oi := { dst := some 84, op := Op.move (Operand.tmp 8), type := 3, pos := "law.go:131", after := #[{ on := 21, ground := Ground.guard }], guard := some (21, false) }) (v := ?vb23) rfl (by kernel_rfl) (by kernel_rfl) (by kernel_rfl) (fun _ _ _ h => h) (Or.inl ⟨by rfl, ?yb23⟩) hHeld ?rb23
                  case yb23 => (intro w hSw; (try dsimp only at hSw); go_simp; try with_reducible rfl)
                  try simp only [Act.put, List.setIfInBounds_toArray, List.set_cons_zero, List.set_cons_succ]
                  refine wpAnyH_take (i := 24) (oi := { dst := some 85, op := Op.indexAddr 22 (Operand.tmp 83) (Operand.tmp 84), type := 0, pos := "law.go:131", after := #[{ on := 22, ground := Ground.data }, { on := 23, ground := Ground.data }, { on := 21, ground := Ground.guard }], guard := some (21, false) }) (v := ?vb24) rfl (by kernel_rfl) (by kernel_rfl) (by kernel_rfl) (fun _ _ _ h => h) (Or.inl ⟨by rfl, ?yb24⟩) hHeld ?rb24
                  case yb24 => (intro w hSw; (try dsimp only at hSw); go_simp; try with_reducible rfl)
                  try simp only [Act.put, List.setIfInBounds_toArray, List.set_cons_zero, List.set_cons_succ]
                  refine wpAnyH_take (i := 25) (oi := { dst := some 86, op := Op.fieldAddr 32 (Operand.tmp 85) 0, type := 0, pos := "law.go:131", after := #[{ on := 24, ground := Ground.data }, { on := 21, ground := Ground.guard }], guard := some (21, false) }) (v := ?vb25) rfl (by kernel_rfl) (by kernel_rfl) (by kernel_rfl) (fun _ _ _ h => h) (Or.inl ⟨by rfl, ?yb25⟩) hHeld ?rb25
                  case yb25 => (intro w hSw; (try dsimp only at hSw); go_simp; try with_reducible rfl)
                  try simp only [Act.put, List.setIfInBounds_toArray, List.set_cons_zero, List.set_cons_succ]
                  refine wpAnyH_take (i := 26) (oi := { dst := some 87, op := Op.load 3 (Operand.tmp 86), type := 3, pos := "law.go:131", after := #[{ on := 25, ground := Ground.data }, { on := 21, ground := Ground.guard }], guard := some (21, false) }) (v := ?vb26) rfl (by kernel_rfl) (by kernel_rfl) (by kernel_rfl) (fun _ _ _ h => h) (Or.inl ⟨by rfl, ?yb26⟩) hHeld ?rb26
                  case yb26 => (intro w hSw; (try dsimp only at hSw); go_simp; try with_reducible rfl)
                  try simp only [Act.put, List.setIfInBounds_toArray, List.set_cons_zero, List.set_cons_succ]
                  refine wpAnyH_take (i := 27) (oi := { dst := some 88, op := Op.binOp BinOp.neq 3 (Operand.tmp 87) (Operand.const (Value.int IntKind.i64 0)) 3, type := 4, pos := "law.go:131", after := #[{ on := 26, ground := Ground.data }, { on := 21, ground := Ground.guard }], guard := some (21, false) }) (v := ?vb27) rfl (by kernel_rfl) (by kernel_rfl) (by kernel_rfl) (fun _ _ _ h => h) (Or.inl ⟨by rfl, ?yb27⟩) hHeld ?rb27
                  case yb27 => (intro w hSw; (try dsimp only at hSw); go_simp; try with_reducible rfl)
                  try simp only [Act.put, List.setIfInBounds_toArray, List.set_cons_zero, List.set_cons_succ]
                  refine wpAnyH_take (i := 28) (oi := { dst := some 89, op := Op.move (Operand.tmp 88), type := 4, pos := "law.go:131", after := #[{ on := 27, ground := Ground.data }, { on := 21, ground := Ground.chain }, { on := 21, ground := Ground.guard }], guard := some (21, false) }) (v := ?vb28) rfl (by kernel_rfl) (by kernel_rfl) (by kernel_rfl) (fun _ _ _ h => h) (Or.inl ⟨by rfl, ?yb28⟩) hHeld ?rb28
                  case yb28 => (intro w hSw; (try dsimp only at hSw); go_simp; try with_reducible rfl)
                  try simp only [Act.put, List.setIfInBounds_toArray, List.set_cons_zero, List.set_cons_succ]
                  refine wpAnyH_take (i := 29) (oi := { dst := some 90, op := Op.move (Operand.tmp 7), type := 37, pos := "law.go:131", after := #[{ on := 28, ground := Ground.guard }], guard := some (28, true) }) (v := ?vb29) rfl (by kernel_rfl) (by kernel_rfl) (by kernel_rfl) (fun _ _ _ h => h) (Or.inl ⟨by rfl, ?yb29⟩) hHeld ?rb29
                  case yb29 => (intro w hSw; (try dsimp only at hSw); go_simp; try with_reducible rfl)
                  try simp only [Act.put, List.setIfInBounds_toArray, List.set_cons_zero, List.set_cons_succ]
                  refine wpAnyH_take (i := 30) (oi := { dst := some 91, op := Op.move (Operand.tmp 0), type := 22, pos := "law.go:131", after := #[{ on := 28, ground := Ground.guard }], guard := some (28, true) }) (v := ?vb30) rfl (by kernel_rfl) (by kernel_rfl) (by kernel_rfl) (fun _ _ _ h => h) (Or.inl ⟨by rfl, ?yb30⟩) hHeld ?rb30
                  case yb30 => (intro w hSw; (try dsimp only at hSw); go_simp; try with_reducible rfl)
                  try simp only [Act.put, List.setIfInBounds_toArray, List.set_cons_zero, List.set_cons_succ]
                  refine wpAnyH_take (i := 31) (oi := { dst := some 92, op := Op.move (Operand.tmp 8), type := 3, pos := "law.go:131", after := #[{ on := 28, ground := Ground.guard }], guard := some (28, true) }) (v := ?vb31) rfl (by kernel_rfl) (by kernel_rfl) (by kernel_rfl) (fun _ _ _ h => h) (Or.inl ⟨by rfl, ?yb31⟩) hHeld ?rb31
                  case yb31 => (intro w hSw; (try dsimp only at hSw); go_simp; try with_reducible rfl)
                  try simp only [Act.put, List.setIfInBounds_toArray, List.set_cons_zero, List.set_cons_succ]
                  refine wpAnyH_take (i := 32) (oi := { dst := some 93, op := Op.indexAddr 22 (Operand.tmp 91) (Operand.tmp 92), type := 0, pos := "law.go:131", after := #[{ on := 30, ground := Ground.data }, { on := 31, ground := Ground.data }, { on := 28, ground := Ground.guard }], guard := some (28, true) }) (v := ?vb32) rfl (by kernel_rfl) (by kernel_rfl) (by kernel_rfl) (fun _ _ _ h => h) (Or.inl ⟨by rfl, ?yb32⟩) hHeld ?rb32
                  case yb32 => (intro w hSw; (try dsimp only at hSw); go_simp; try with_reducible rfl)
                  try simp only [Act.put, List.setIfInBounds_toArray, List.set_cons_zero, List.set_cons_succ]
                  refine wpAnyH_take (i := 33) (oi := { dst := some 94, op := Op.fieldAddr 32 (Operand.tmp 93) 3, type := 0, pos := "law.go:131", after := #[{ on := 32, ground := Ground.data }, { on := 28, ground := Ground.guard }], guard := some (28, true) }) (v := ?vb33) rfl (by kernel_rfl) (by kernel_rfl) (by kernel_rfl) (fun _ _ _ h => h) (Or.inl ⟨by rfl, ?yb33⟩) hHeld ?rb33
                  case yb33 => (intro w hSw; (try dsimp only at hSw); go_simp; try with_reducible rfl)
                  try simp only [Act.put, List.setIfInBounds_toArray, List.set_cons_zero, List.set_cons_succ]
                  refine wpAnyH_take (i := 34) (oi := { dst := some 95, op := Op.load 9 (Operand.tmp 94), type := 9, pos := "law.go:131", after := #[{ on := 33, ground := Ground.data }, { on := 28, ground := Ground.guard }], guard := some (28, true) }) (v := ?vb34) rfl (by kernel_rfl) (by kernel_rfl) (by kernel_rfl) (fun _ _ _ h => h) (Or.inl ⟨by rfl, ?yb34⟩) hHeld ?rb34
                  case yb34 => (intro w hSw; (try dsimp only at hSw); go_simp; try with_reducible rfl)
                  try simp only [Act.put, List.setIfInBounds_toArray, List.set_cons_zero, List.set_cons_succ]
                  refine wpAnyH_take (i := 35) (oi := { dst := some 96, op := Op.call { callee := Callee.builtin Builtin.len, args := #[Operand.tmp 95], argTypes := #[9] }, type := 3, pos := "law.go:131", after := #[{ on := 34, ground := Ground.data }, { on := 28, ground := Ground.guard }], guard := some (28, true) }) (v := ?vb35) rfl (by kernel_rfl) (by kernel_rfl) (by kernel_rfl) (fun _ _ _ h => h) (Or.inl ⟨by rfl, ?yb35⟩) hHeld ?rb35
                  case yb35 => (intro w hSw; (try dsimp only at hSw); go_simp; try with_reducible rfl)
                  try simp only [Act.put, List.setIfInBounds_toArray, List.set_cons_zero, List.set_cons_succ]
                  refine wpAnyH_take (i := 37) (oi := { dst := some 98, op := Op.move (Operand.tmp 0), type := 22, pos := "law.go:131", after := #[{ on := 28, ground := Ground.guard }], guard := some (28, true) }) (v := ?vb37) rfl (by kernel_rfl) (by kernel_rfl) (by kernel_rfl) (fun _ _ _ h => h) (Or.inl ⟨by rfl, ?yb37⟩) hHeld ?rb37
                  case yb37 => (intro w hSw; (try dsimp only at hSw); go_simp; try with_reducible rfl)
                  try simp only [Act.put, List.setIfInBounds_toArray, List.set_cons_zero, List.set_cons_succ]
                  refine wpAnyH_take (i := 38) (oi := { dst := some 99, op := Op.move (Operand.tmp 8), type := 3, pos := "law.go:131", after := #[{ on := 28, ground := Ground.guard }], guard := some (28, true) }) (v := ?vb38) rfl (by kernel_rfl) (by kernel_rfl) (by kernel_rfl) (fun _ _ _ h => h) (Or.inl ⟨by rfl, ?yb38⟩) hHeld ?rb38
                  case yb38 => (intro w hSw; (try dsimp only at hSw); go_simp; try with_reducible rfl)
                  try simp only [Act.put, List.setIfInBounds_toArray, List.set_cons_zero, List.set_cons_succ]
                  refine wpAnyH_take (i := 39) (oi := { dst := some 100, op := Op.indexAddr 22 (Operand.tmp 98) (Operand.tmp 99), type := 0, pos := "law.go:131", after := #[{ on := 37, ground := Ground.data }, { on := 38, ground := Ground.data }, { on := 28, ground := Ground.guard }], guard := some (28, true) }) (v := ?vb39) rfl (by kernel_rfl) (by kernel_rfl) (by kernel_rfl) (fun _ _ _ h => h) (Or.inl ⟨by rfl, ?yb39⟩) hHeld ?rb39
                  case yb39 => (intro w hSw; (try dsimp only at hSw); go_simp; try with_reducible rfl)
                  try simp only [Act.put, List.setIfInBounds_toArray, List.set_cons_zero, List.set_cons_succ]
                  refine wpAnyH_take (i := 40) (oi := { dst := some 101, op := Op.fieldAddr 32 (Operand.tmp 100) 3, type := 0, pos := "law.go:131", after := #[{ on := 39, ground := Ground.data }, { on := 28, ground := Ground.guard }], guard := some (28, true) }) (v := ?vb40) rfl (by kernel_rfl) (by kernel_rfl) (by kernel_rfl) (fun _ _ _ h => h) (Or.inl ⟨by rfl, ?yb40⟩) hHeld ?rb40
                  case yb40 => (intro w hSw; (try dsimp only at hSw); go_simp; try with_reducible rfl)
                  try simp only [Act.put, List.setIfInBounds_toArray, List.set_cons_zero, List.set_cons_succ]
                  refine wpAnyH_take (i := 41) (oi := { dst := some 102, op := Op.load 9 (Operand.tmp 101), type := 9, pos := "law.go:131", after := #[{ on := 40, ground := Ground.data }, { on := 28, ground := Ground.guard }], guard := some (28, true) }) (v := ?vb41) rfl (by kernel_rfl) (by kernel_rfl) (by kernel_rfl) (fun _ _ _ h => h) (Or.inl ⟨by rfl, ?yb41⟩) hHeld ?rb41
                  case yb41 => (intro w hSw; (try dsimp only at hSw); go_simp; try with_reducible rfl)
                  try simp only [Act.put, List.setIfInBounds_toArray, List.set_cons_zero, List.set_cons_succ]
                  refine wpAnyH_ready (rs := [36]) (by kernel_rfl) (by simp) ?_
                  refine AllReadyH.cons (o := { dst := some 97, op := Op.call { callee := Callee.value (Operand.func 15), args := #[Operand.tmp 90, Operand.tmp 96], argTypes := #[37, 3] }, type := 9, pos := "law.go:131", after := #[{ on := 29, ground := Ground.data }, { on := 35, ground := Ground.data }, { on := 28, ground := Ground.chain }, { on := 28, ground := Ground.guard }], guard := some (28, true) }) rfl (fun K hK => ?sb36) ?mb36
                  case mb36 => exact AllReadyH.nil
                  go_simp
                  refine (P1.out _ ?hwb).mono ?_
                  case hwb => exact HR.out
                  rintro r w3 ⟨rfl, hr3, hb3⟩
                  have x0 := oldCell hb3 HBB.out HGW.out HB.out.size d0
                  have x3 := oldCell hb3 HBB.out HGW.out HB.out.size d3
                  try go_wp2_with fail
                  refine hK.out _ _ ?hSb2 (fun hHeld2 => ?_)
                  case hSb2 => exact ⟨x0, x3⟩
                  clear hK K
                  try simp only [Act.put, List.setIfInBounds_toArray, List.set_cons_zero, List.set_cons_succ]
                  refine wpAnyH_take (i := 42) (oi := { dst := some 103, op := Op.binOp BinOp.neq 9 (Operand.tmp 97) (Operand.tmp 102) 9, type := 4, pos := "law.go:131", after := #[{ on := 36, ground := Ground.data }, { on := 41, ground := Ground.data }, { on := 28, ground := Ground.guard }], guard := some (28, true) }) (v := ?vb42) rfl (by kernel_rfl) (by kernel_rfl) (by kernel_rfl) (fun _ _ _ h => h) (Or.inl ⟨by rfl, ?yb42⟩) hHeld2 ?rb42
                  case yb42 => (intro w hSw; (try dsimp only at hSw); go_simp; try with_reducible rfl)
                  try simp only [Act.put, List.setIfInBounds_toArray, List.set_cons_zero, List.set_cons_succ]
                  refine wpAnyH_take (i := 43) (oi := { dst := some 104, op := Op.pick (Operand.tmp 89) (Operand.tmp 103) (Operand.const (Value.bool false)), type := 4, pos := "law.go:131", after := #[{ on := 28, ground := Ground.data }, { on := 42, ground := Ground.data }, { on := 21, ground := Ground.guard }], guard := some (21, false) }) (v := ?vb43) rfl (by kernel_rfl) (by kernel_rfl) (by kernel_rfl) (fun _ _ _ h => h) (Or.inl ⟨by rfl, ?yb43⟩) hHeld2 ?rb43
                  case yb43 => (intro w hSw; (try dsimp only at hSw); go_simp; try with_reducible rfl)
                  try simp only [Act.put, List.setIfInBounds_toArray, List.set_cons_zero, List.set_cons_succ]
                  refine wpAnyH_take (i := 44) (oi := { dst := some 105, op := Op.pick (Operand.tmp 82) (Operand.const (Value.bool true)) (Operand.tmp 104), type := 4, pos := "law.go:131", after := #[{ on := 21, ground := Ground.data }, { on := 43, ground := Ground.data }], guard := none }) (v := ?vb44) rfl (by kernel_rfl) (by kernel_rfl) (by kernel_rfl) (fun _ _ _ h => h) (Or.inl ⟨by rfl, ?yb44⟩) hHeld2 ?rb44
                  case yb44 => (intro w hSw; (try dsimp only at hSw); go_simp; try with_reducible rfl)
                  try simp only [Act.put, List.setIfInBounds_toArray, List.set_cons_zero, List.set_cons_succ]
                  refine wpAnyH_done (by kernel_rfl) ?_ _
                  all_goals (try go_wp2_with fail)
                  all_goals go_meet
                  all_goals exact ⟨rfl, hr3, HB.out.drew.trans (hb3.below (B := w.heap.size) HB.out.size HGW.out)⟩
                case rest =>
                  obtain ⟨rfl, hr4, hb4⟩ := hcut
                  have HX := Lib.hid (And.intro hr4 hb4)
                  clear hr4 hb4 d0 d1 d2 d3
                  go_wp2
                  go_roundw
                  case rel => exact ⟨m + 1, by omega, by go_num, by rw [← HRR.out]; exact HX.out.1, HX.out.2⟩
                  case measure => simp [intOf]; omega
            · obtain rfl : m = ops.length := by omega
              rw [List.drop_length] at HR
              have PL : Hid (∀ W, RdS W g 0 [] → Calls Try.prog 16 #[.pointer (some ⟨g, 0, none⟩)] W fun r w' => r = .returned (.int .i64 0) ∧ W = w') := fun W h => left_st _ _ _ W h
              have PE : Hid (∀ W, RdS W g 0 [] → Calls Try.prog 17 #[.pointer (some ⟨g, 0, none⟩)] W fun r w' => r = .returned (.int .i64 0) ∧ W = w') := fun W h => err_st _ _ _ W h
              have PN : Hid (∀ W, RdS W g 0 [] → Calls Try.prog 18 #[.pointer (some ⟨g, 0, none⟩)] W fun r w' => r = .returned (.int .i64 0) ∧ W = w') := fun W h => end_st _ _ _ W h
              go_wp2_with (first
                | (go_at_call 16; refine (PL.out _ HR.out).mono ?_; rintro r w' ⟨rfl, rfl⟩)
                | (go_at_call 17; refine (PE.out _ HR.out).mono ?_; rintro r w' ⟨rfl, rfl⟩)
                | (go_at_call 18; refine (PN.out _ HR.out).mono ?_; rintro r w' ⟨rfl, rfl⟩)
                | (go_at_call 9; refine (HL.out _).mono ?_; rintro e w3 ⟨rfl, hb3⟩)
                | fail)
              go_returns
              exact ⟨rfl, HB.out.trans (hb3.mono HB.out.size)⟩
        · have he' : (e != 0) = true := bne_iff_ne.2 he
          have PD : Hid (∀ W, WrS W w.heap.size e L → Calls Try.prog 12 #[.pointer (some ⟨w.heap.size, 0, none⟩)] W fun r w' => r = .returned (.tuple #[.string ⟨#[]⟩, .int .i64 e]) ∧ Below W.heap.size W w') := fun W h => by
            have := done_st _ _ _ _ h HLN.out
            unfold outS at this; rw [if_neg he] at this; exact this
          clear he HLL HE HLN
          go_wp2_with (first | (go_at_call 12; refine (PD.out _ HW.out).mono ?_; rintro r w1 ⟨rfl, hb1⟩; have HB1 := Lib.hid (HBL.out.trans (hb1.mono HBL.out.size)); clear hb1) | (go_at_call 9; refine (HL.out _).mono ?_; rintro r w2 ⟨rfl, hb2⟩) | fail)
          go_returns
          exact ⟨rfl, HB1.out.trans (hb2.mono HB1.out.size)⟩

theorem wireReads_walk0 (sa : Option Addr) (ops : List Opr) (c : Nat) (W : World) (h : OpsAt W sa ops) :
    Calls Try.prog 3 #[.slice sa ops.length c] W fun e W' => e = .returned (.bool true) ∧ Below W.heap.size W W' := reads_walk ops sa c W h
end Go.Proofs.Ytekdfcbkpljllaa
