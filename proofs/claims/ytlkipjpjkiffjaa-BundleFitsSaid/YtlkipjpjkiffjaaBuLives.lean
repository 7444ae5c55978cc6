/-
  WALKS of the laws' own functions of layer 16: few, lives.
-/
import Derived.Test.YtlkipjpjkiffjaaBuRef3
import Derived.Test.YtlkipjpjkiffjaaBuRef4
namespace Go.Proofs.Ytlkipjpjkiffjaa
open Go.RowKit Go.Bu Go.Wr Go.Ad Pk_

theorem pkw {p : Pk} (h : (Lit.int .u64 p.to).wf = true ∧ (Lit.int .u64 p.fr).wf = true) : PkW p := by
  obtain ⟨h1, h2⟩ := h
  simp [Lit.wf, IntKind.min, IntKind.max, IntKind.signed, IntKind.bits] at h1 h2
  exact ⟨by omega, by omega⟩
def fewB (l : List Pk) : Bool := decide (chkF l = true ∧ l.length ≤ 10)
where chkF (l : List Pk) : Bool := l.all fun p => decide (p.s.size ≤ 1100)
theorem few_sz {l : List Pk} (h : fewB l = true) (hw : ∀ p ∈ l, PkW p) : sz l ∧ l.length ≤ 10 := by
  unfold fewB fewB.chkF at h
  simp at h
  exact ⟨⟨by omega, fun p hp => ⟨by have := h.1 p hp; omega, hw p hp⟩⟩, h.2⟩
theorem few_no {l : List Pk} {k : Nat} (hk : k < l.length) (h : 1100 < l[k].s.size) : fewB l = false := by
  unfold fewB fewB.chkF
  refine decide_eq_false fun hh => ?_
  have := hh.1
  simp at this
  have := this l[k] (List.getElem_mem hk)
  omega
theorem few_all {l : List Pk} (h : ∀ j (hj : j < l.length), l[j].s.size ≤ 1100) : fewB l = decide (l.length ≤ 10) := by
  have : fewB.chkF l = true := by
    unfold fewB.chkF
    rw [List.all_eq_true]
    intro p hp
    obtain ⟨j, hj, rfl⟩ := List.getElem_of_mem hp
    exact decide_eq_true (h j hj)
  unfold fewB
  rw [this]; simp

set_option maxRecDepth 100000 in
set_option maxHeartbeats 1000000 in
theorem few16_any (l : List Pk) (sa : Option Addr) (c : Nat) (w : World) (h : At w sa l) (hl : l.length ≤ maxLen) :
    Calls Try.prog 8 #[.slice sa l.length c] w fun e w' => e = .returned (.bool (fewB l)) ∧ w = w' := by
  have HA := Lib.hid h
  unfold maxLen at hl
  clear h
  go_enter Try.func8, Try.ntmps8
  go_wp2
  go_loop [6] (fun i => ∃ k : Nat, k ≤ l.length ∧ i = .int .i64 k ∧ ∀ j (hj : j < l.length), j < k → l[j].s.size ≤ 1100) (fun i => l.length - (intOf i).toNat)
  case atStart => exact ⟨0, Nat.zero_le _, rfl, fun j _ hj => absurd hj (Nat.not_lt_zero j)⟩
  case round =>
    obtain ⟨k, hk, rfl, hj⟩ := hrel
    have HJ := Lib.hid hj
    clear hj
    by_cases hlt : k < l.length
    · obtain ⟨b, off, rfl, -, c0, c1, c2⟩ := HA.out k hlt
      have HLT := Lib.hid hlt
      have HX : Hid (1100 < l[k].s.size → fewB l = false) := few_no hlt
      have HN : Hid (¬ 1100 < l[k].s.size → ∀ j (hj : j < l.length), j < k + 1 → l[j].s.size ≤ 1100) := fun h0 j hj hjk => by
        by_cases e : j = k
        · subst e; omega
        · exact HJ.out j hj (by omega)
      generalize l[k].s = t at *
      clear c0 c1 HJ
      by_cases ht : 1100 < t.size
      · have HR := Lib.hid (HX.out ht)
        have ht' : (1100 : Int) < (t.size : Int) := by omega
        clear HX HN ht
        go_wp2
        go_returns
        exact ⟨by rw [HR.out]; rfl, rfl⟩
      · have HR := Lib.hid (HN.out ht)
        have ht' : ¬ (1100 : Int) < (t.size : Int) := by omega
        clear HX HN ht
        go_wp2
        go_round
        case rel => exact ⟨k + 1, HLT.out, by go_num, HR.out⟩
        case measure => have := HLT.out; simp [intOf]; omega
    · obtain rfl : k = l.length := by omega
      have HR := Lib.hid (few_all fun j hj => HJ.out j hj hj)
      clear HJ
      by_cases h10 : l.length ≤ 10
      · rw [decide_eq_true h10] at HR
        have h10' : decide ((l.length : Int) ≤ 10) = true := decide_eq_true (by omega)
        go_wp2
        go_returns
        exact ⟨by rw [HR.out]; rfl, rfl⟩
      · rw [decide_eq_false h10] at HR
        have h10' : decide ((l.length : Int) ≤ 10) = false := decide_eq_false (by omega)
        go_wp2
        go_returns
        exact ⟨by rw [HR.out]; rfl, rfl⟩

def pa : Pk := ⟨2199023255553, 2199023255554, ⟨#[97]⟩⟩
def pb : Pk := ⟨2199023255555, 2199023255556, ⟨#[98, 99]⟩⟩
def es : ByteArray := ⟨#[2, 0, 0, 0, 0, 1, 2, 0, 0, 0, 0, 2, 1, 0, 97, 0, 2, 0, 0, 0, 0, 3, 2, 0, 0, 0, 0, 4, 2, 0, 98, 99]⟩
def es31 : ByteArray := ⟨#[2, 0, 0, 0, 0, 1, 2, 0, 0, 0, 0, 2, 1, 0, 97, 0, 2, 0, 0, 0, 0, 3, 2, 0, 0, 0, 0, 4, 2, 0, 98]⟩
theorem ex_enc : encE [pa, pb] = 0 := by decide +kernel
theorem ex_oc : oc [pa, pb] = es.data.toList := by decide +kernel
theorem ex_encS : encS [pa, pb] = es := by
  unfold encS
  rw [if_pos ex_enc, ex_oc, ba_mk rfl]
theorem ex_dec : dec es = ([pa, pb], 0) := by rw [← ex_encS]; exact dec_enc ex_enc
theorem ex_dec31 : (dec es31).2 = 1 := by decide +kernel
theorem ex_sz : sz [pa, pb] := ⟨by decide, fun p hp => by simp at hp; rcases hp with rfl | rfl <;> exact ⟨by decide, ⟨by decide, by decide⟩, ⟨by decide, by decide⟩⟩⟩

/-- The two packets' copies, all else as it was. -/
structure Lv (w wi : World) : Prop where
  a : Box wi w.heap.size pa
  b : Box wi (w.heap.size + 1) pb
  bel : Below w.heap.size w wi
theorem Lv.keep {w wi w' : World} (h : Lv w wi) (hb : Below wi.heap.size wi w') : Lv w w' := ⟨h.a.below hb h.a.lt, h.b.below hb h.b.lt, h.bel.trans (hb.mono h.bel.size)⟩
theorem xs_es1 : xs es 12 4 = ⟨#[1, 0, 97, 0]⟩ := ba_mk (by decide +kernel)
theorem xs_es2 : es.extract 28 32 = ⟨#[2, 0, 98, 99]⟩ := by
  have := xs_ext es 28 4
  rw [this]; exact ba_mk (by decide +kernel)
theorem xs_es3 : xs es 0 31 = es31 := ba_mk (by decide +kernel)
theorem two_lie {W : World} {v0 : Option Addr} {c : Nat} (h : Sl W v0 [pa, pb] c) : ∃ b off, v0 = some ⟨b, off, none⟩ ∧ (W.cell? ⟨b, off, none⟩ = some (.int .u64 2199023255553) ∧ W.cell? ⟨b, off + 1, none⟩ = some (.int .u64 2199023255554) ∧ W.cell? ⟨b, off + 2, none⟩ = some (.string ⟨#[97]⟩)) ∧ W.cell? ⟨b, off + 3, none⟩ = some (.int .u64 2199023255555) ∧ W.cell? ⟨b, off + 3 + 1, none⟩ = some (.int .u64 2199023255556) ∧ W.cell? ⟨b, off + 3 + 2, none⟩ = some (.string ⟨#[98, 99]⟩) := by
  obtain ⟨b, off, rfl, -, h0⟩ := h.lies 0 (by decide)
  obtain ⟨b', off', e, -, h1⟩ := h.lies 1 (by decide)
  injection e with e; injection e with e1 e2
  subst e1; subst e2
  exact ⟨b, off, rfl, h0, h1⟩

theorem lv_new {w w2 : World} (h : (((w.alloc (.cells #[.int .u64 2199023255553, .int .u64 2199023255554, .string ⟨#[97]⟩] 30)).alloc (.cells #[.int .u64 2199023255555, .int .u64 2199023255556, .string ⟨#[98, 99]⟩] 30)).alloc (.cells #[.int .u64 2199023255553, .int .u64 2199023255554, .string ⟨#[97]⟩, .int .u64 2199023255555, .int .u64 2199023255556, .string ⟨#[98, 99]⟩] 30)) = w2) : Lv w w2 ∧ Sl w2 (some ⟨w.heap.size + 1 + 1, 0, none⟩) [pa, pb] 2 := by
  subst h
  obtain ⟨wa, ha⟩ : ∃ wa, w.alloc (.cells #[.int .u64 2199023255553, .int .u64 2199023255554, .string ⟨#[97]⟩] 30) = wa := ⟨_, rfl⟩
  rw [ha]
  have sa : wa.heap.size = w.heap.size + 1 := by rw [← ha]; simp
  have ba : Box wa w.heap.size pa := ha ▸ Box.new w pa rfl
  have la : Below w.heap.size w wa := ha ▸ (Below.refl _ _).alloc (Nat.le_refl _) _
  obtain ⟨wb, hb⟩ : ∃ wb, wa.alloc (.cells #[.int .u64 2199023255555, .int .u64 2199023255556, .string ⟨#[98, 99]⟩] 30) = wb := ⟨_, rfl⟩
  rw [hb]
  have sb : wb.heap.size = w.heap.size + 1 + 1 := by rw [← hb, ← sa]; simp
  have bb : Box wb (w.heap.size + 1) pb := hb ▸ Box.new wa pb sa.symm
  have kb : Below wa.heap.size wa wb := hb ▸ (Below.refl _ _).alloc (Nat.le_refl _) _
  have kc : Below wb.heap.size wb (wb.alloc (.cells #[.int .u64 2199023255553, .int .u64 2199023255554, .string ⟨#[97]⟩, .int .u64 2199023255555, .int .u64 2199023255556, .string ⟨#[98, 99]⟩] 30)) := (Below.refl _ _).alloc (Nat.le_refl _) _
  refine ⟨⟨(ba.below kb ba.lt).below kc (by omega), bb.below kc bb.lt, (la.trans (kb.mono (by omega))).trans (kc.mono (by omega))⟩, ?_⟩
  have := sl_lit wb [pa, pb] (by unfold maxLen; simp)
  rw [sb] at this
  exact this

set_option maxRecDepth 100000 in
set_option maxHeartbeats 4000000 in
theorem lives16_any (w : World) : Calls Try.prog 9 #[] w fun e w' => e = .returned (.bool true) ∧ Below w.heap.size w w' := by
  obtain ⟨w2, hw2⟩ : ∃ w2, (((w.alloc (.cells #[.int .u64 2199023255553, .int .u64 2199023255554, .string ⟨#[97]⟩] 30)).alloc (.cells #[.int .u64 2199023255555, .int .u64 2199023255556, .string ⟨#[98, 99]⟩] 30)).alloc (.cells #[.int .u64 2199023255553, .int .u64 2199023255554, .string ⟨#[97]⟩, .int .u64 2199023255555, .int .u64 2199023255556, .string ⟨#[98, 99]⟩] 30)) = w2 := ⟨_, rfl⟩
  have L2 := Lib.hid (lv_new hw2).1
  have CE := Lib.hid (buEncode_any [pa, pb] _ 2 w2 (lv_new hw2).2.lies ex_sz)
  have x1 : ∀ W, (Instr.slice 9 (.string es) (some (.int .i64 12)) (some (.int .i64 16)) none).run Try.prog W = .ok (.string ⟨#[1, 0, 97, 0]⟩) W := fun W => by
    have := slc es 12 4 (by decide) W
    rw [xs_es1] at this
    exact this
  have x2 : ∀ W, (Instr.slice 9 (.string es) (some (.int .i64 28)) none none).run Try.prog W = .ok (.string ⟨#[2, 0, 98, 99]⟩) W := fun W => by
    have := run_slice_string_l W 9 es Try.underlying9 .i64 28 (by decide) (by decide)
    rw [show ((28 : Int)).toNat = 28 from rfl, show es.size = 32 from rfl, xs_es2] at this
    exact this
  have x3 : ∀ W, (Instr.slice 9 (.string es) none (some (.int .i64 31)) none).run Try.prog W = .ok (.string es31) W := fun W => by
    have := slc0 es 31 (by decide) W
    rw [xs_es3] at this
    exact this
  have hsz : es.size = 32 := rfl
  have CD1 := Lib.hid fun w => buDecode_any es w (by decide)
  have CD2 := Lib.hid fun w => buDecode_any es31 w (by decide)
  have CR := Lib.hid fun w => buRoom_any 17 50 w (by decide)
  rw [show rm 17 50 = 16 from by decide] at CR
  unfold EncPost at CE
  rw [ex_encS, ex_enc] at CE
  unfold DecPost at CD1 CD2
  rw [ex_dec] at CD1
  rw [ex_dec31, dec_nil es31 (by rw [ex_dec31]; decide)] at CD2
  generalize es = E at *
  generalize es31 = E31 at *
  have hw2' : (((w.alloc (.cells #[.int .u64 2199023255553, .int .u64 2199023255554, .string ⟨#[97]⟩] 30)).alloc (.cells #[.int .u64 2199023255555, .int .u64 2199023255556, .string ⟨#[98, 99]⟩] 30)).alloc (.cells #[.int .u64 2199023255553, .int .u64 2199023255554, .string ⟨#[97]⟩, .int .u64 2199023255555, .int .u64 2199023255556, .string ⟨#[98, 99]⟩] 30)) = w2 := hw2
  clear hw2
  go_enter Try.func9, Try.ntmps9
  go_wp2_with (first
    | (go_at_call 12; refine CE.out.mono ?_; rintro e w3 ⟨rfl, h⟩; have L3 := Lib.hid (L2.out.keep h); clear h)
    | (go_at_call 14; with_reducible refine (CD2.out _).mono ?_; rintro e w5 ⟨v5, c5, rfl, hs, h⟩; have L5 := Lib.hid (L4.out.keep h); have S5 := Lib.hid (S4.out.below h); clear h hs)
    | (go_at_call 14; with_reducible refine (CD1.out _).mono ?_; rintro e w4 ⟨v4, c4, rfl, hs, h⟩; have L4 := Lib.hid (L3.out.keep h); have S4 := Lib.hid hs; clear h hs))
  obtain ⟨b, off, rfl, ⟨f0, f1, f2⟩, f3, f4, f5⟩ := two_lie S5.out
  have ga := L5.out.a.cells
  have gb := L5.out.b.cells
  have gpa : pa.to = 2199023255553 ∧ pa.fr = 2199023255554 ∧ pa.s = ⟨#[97]⟩ := ⟨rfl, rfl, rfl⟩
  have gpb : pb.to = 2199023255555 ∧ pb.fr = 2199023255556 ∧ pb.s = ⟨#[98, 99]⟩ := ⟨rfl, rfl, rfl⟩
  rw [gpa.1, gpa.2.1, gpa.2.2] at ga
  rw [gpb.1, gpb.2.1, gpb.2.2] at gb
  clear gpa gpb
  go_quiet (first | (go_at_call 17; exact Calls.quiet_of_same ((CR.out _).mono fun _ _ q => ⟨q.1, q.2.symm⟩)))
  go_wp2
  go_returns
  exact ⟨rfl, belowN16 L5.out.bel _⟩
end Go.Proofs.Ytlkipjpjkiffjaa
