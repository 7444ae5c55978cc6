/-
  WALKS of package bundle: join, Encode.
-/
import Derived.Test.YtlkipjpjkiffjaaBuProg
namespace Go.Proofs.Ytlkipjpjkiffjaa
open Go.RowKit Go.Bu Go.Wr Go.Ad Pk_

theorem zslice (n : Nat) (h : n < 4) (W : World) : (Instr.slice 9 (.string ⟨#[0, 0, 0]⟩) none (some (.int .i64 (n : Int))) none).run Try.prog W = .ok (.string ⟨(zs n).toArray⟩) W := by
  rw [run_slice_string_h W 9 ⟨#[0, 0, 0]⟩ Try.underlying9 .i64 (n : Int) (by omega) (by rw [show (⟨#[0, 0, 0]⟩ : ByteArray).size = 3 from rfl]; omega)]
  congr 2
  have key : ∀ m : Fin 4, ((⟨#[0, 0, 0]⟩ : ByteArray).extract 0 m.val).data.toList = zs m.val := by decide
  rw [Int.toNat_natCast]
  have k := key ⟨n, h⟩
  simp only at k
  rw [← k]

/-- A Writer, a packet's copy behind it, all else as it was. -/
structure Js (w : World) (g : Nat) (p : Pk) (L : List UInt8) (wi : World) : Prop where
  wr : Wr wi w.heap.size L
  box : Box wi g p
  bel : Below w.heap.size w wi
  lt : w.heap.size < g
theorem Js.put {w wi w' : World} {g : Nat} {p : Pk} {L L' : List UInt8} (h : Js w g p L wi) (h1 : Wr w' w.heap.size L') (h2 : But w.heap.size wi w') : Js w g p L' w' := by
  have hlt := h.lt
  exact ⟨h1, (h2.block g h.box.lt (by omega)).trans h.box, h.bel.trans (h2.below h.bel.size (Nat.le_refl _)), h.lt⟩
theorem wr_new16 (w : World) : Wr (w.alloc (.cells #[.int .i64 0, .pointer none, .string ⟨#[]⟩] 58)) w.heap.size [] := ⟨none, ⟨#[]⟩, [], Blk.new _ _ _ _ rfl, .nil, rfl⟩
theorem Js.new {w wi : World} {L : List UInt8} (p : Pk) (h : Wr wi w.heap.size L) (hb : Below w.heap.size w wi) : Js w wi.heap.size p L (wi.alloc (.cells #[.int .u64 p.to, .int .u64 p.fr, .string p.s] 30)) :=
  ⟨h.below ((Below.refl _ _).alloc (Nat.le_refl _) _), Box.new wi p rfl, hb.alloc hb.size _, h.lt⟩

set_option maxRecDepth 100000 in
set_option maxHeartbeats 4000000 in
theorem buJoin_any (l : List Pk) (sa : Option Addr) (c : Nat) (w : World) (h : At w sa l) (hz : sz l) (hc : chkL l = 0) :
    Calls Try.prog 24 #[.slice sa l.length c] w fun e w' => e = .returned (.tuple #[.string ⟨(oc l).toArray⟩, .int .i64 0]) ∧ Below w.heap.size w w' := by
  have HA := Lib.hid h
  have HC := Lib.hid (chkL_ok.1 hc)
  have HL := Lib.hid fun k => ln_take_le hz k
  have hl : l.length ≤ 3000 := hz.1
  have hw1 : Wr (w.alloc (.cells #[.int .i64 0, .pointer none, .string ⟨#[]⟩] 58)) w.heap.size [] := wr_new16 w
  have HW1 := Lib.hid hw1
  clear h hc hz hw1
  go_enter Try.func24, Try.ntmps24
  go_wp2
  go_loopw [5, 11] (fun z i wr => ∃ k : Nat, k ≤ l.length ∧ i = .int .i64 k ∧ z = .int .i64 ((ln 0 (l.take k) : Nat) : Int) ∧ Wr wr w.heap.size (oc (l.take k)) ∧ Below w.heap.size w wr) (fun _ i _ => l.length - (intOf i).toNat)
  case atStart => exact ⟨0, Nat.zero_le _, rfl, rfl, HW1.out, (Below.refl _ _).alloc (Nat.le_refl _) _⟩
  case round =>
    rename_i wr
    obtain ⟨k, hk, rfl, rfl, hwr, hb⟩ := hrel
    clear HW1
    by_cases hlt : k < l.length
    · obtain ⟨b, off, rfl, hbl, c0, c1, c2⟩ := HA.out.below hb k hlt
      have HN := Lib.hid (ln_take hlt)
      have HO := Lib.hid (oc_take hlt)
      have hn := HL.out k
      have hn1 := HL.out (k + 1)
      have HN1 := Lib.hid hn1
      obtain ⟨ck1, ck2⟩ := chk_ok.1 (HC.out l[k] (List.getElem_mem hlt))
      obtain ⟨⟨p1, p2⟩, ⟨p3, p4⟩, -⟩ := pok_iff.1 ck1
      have hlen := oc_len (l.take k)
      have HLT := Lib.hid hlt
      have J0 := Lib.hid (Js.new l[k] hwr hb)
      have CG := Lib.hid fun w => buGap_any (ln 0 (l.take k)) w
      have hzs := zslice (pad (ln 0 (l.take k))) (pad_lt _)
      have hpl := pad_lt (ln 0 (l.take k))
      generalize hp : l[k] = p at *
      generalize hN : ln 0 (l.take k) = n at *
      have S0 : sub p = be p.to.toNat ++ (be p.fr.toNat ++ (le p.s.size 2 ++ p.s.data.toList)) := rfl
      rw [S0, ← List.append_assoc, ← List.append_assoc, ← List.append_assoc, ← List.append_assoc] at HO
      obtain ⟨K0, hK0⟩ : ∃ K, K = oc (l.take k) := ⟨_, rfl⟩
      rw [← hK0] at HO J0 hlen
      have hz := zs_len (pad n)
      obtain ⟨K1, hK1⟩ : ∃ K, K = K0 ++ zs (pad n) := ⟨_, rfl⟩
      obtain ⟨K2, hK2⟩ : ∃ K, K = K1 ++ be p.to.toNat := ⟨_, rfl⟩
      obtain ⟨K3, hK3⟩ : ∃ K, K = K2 ++ be p.fr.toNat := ⟨_, rfl⟩
      obtain ⟨K4, hK4⟩ : ∃ K, K = K3 ++ le p.s.size 2 := ⟨_, rfl⟩
      obtain ⟨K5, hK5⟩ : ∃ K, K = K4 ++ p.s.data.toList := ⟨_, rfl⟩
      rw [← hK1, ← hK2, ← hK3, ← hK4, ← hK5] at HO
      have l1 : K1.length ≤ 10000000 := by rw [hK1, List.length_append, hz]; omega
      have l2 : K2.length ≤ 10000010 := by rw [hK2, List.length_append, be_len]; omega
      have l3 : K3.length ≤ 10000020 := by rw [hK3, List.length_append, be_len]; omega
      have l4 : K4.length ≤ 10000030 := by rw [hK4, List.length_append, le_len]; omega
      have C1 : Hid (∀ wi, Js w wr.heap.size p K0 wi → Calls Try.prog 35 #[.pointer (some ⟨w.heap.size, 0, none⟩), .string ⟨(zs (pad n)).toArray⟩] wi fun e w' => e = .returned (.tuple #[]) ∧ Js w wr.heap.size p K1 w') := fun wi h1 => by
        have c := text_ok _ K0 ⟨(zs (pad n)).toArray⟩ wi h1.wr (by rw [show (⟨(zs (pad n)).toArray⟩ : ByteArray).size = (zs (pad n)).length from List.size_toArray .., hz]; omega)
        exact c.mono fun _ _ q => ⟨q.1, h1.put (by rw [hK1]; exact q.2.1) q.2.2⟩
      have C2 : Hid (∀ wi, Js w wr.heap.size p K1 wi → Calls Try.prog 36 #[.pointer (some ⟨w.heap.size, 0, none⟩), .int .u64 p.to] wi fun e w' => e = .returned (.tuple #[]) ∧ Js w wr.heap.size p K2 w') := fun wi h1 => by
        have c := write_ok _ K1 p.to.toNat wi h1.wr (by omega) (by omega)
        rw [Int.toNat_of_nonneg (by omega)] at c
        exact c.mono fun _ _ q => ⟨q.1, h1.put (by rw [hK2]; exact q.2.1) q.2.2⟩
      have C3 : Hid (∀ wi, Js w wr.heap.size p K2 wi → Calls Try.prog 36 #[.pointer (some ⟨w.heap.size, 0, none⟩), .int .u64 p.fr] wi fun e w' => e = .returned (.tuple #[]) ∧ Js w wr.heap.size p K3 w') := fun wi h1 => by
        have c := write_ok _ K2 p.fr.toNat wi h1.wr (by omega) (by omega)
        rw [Int.toNat_of_nonneg (by omega)] at c
        exact c.mono fun _ _ q => ⟨q.1, h1.put (by rw [hK3]; exact q.2.1) q.2.2⟩
      have C4 : Hid (∀ wi, Js w wr.heap.size p K3 wi → Calls Try.prog 37 #[.pointer (some ⟨w.heap.size, 0, none⟩), .int .i64 (p.s.size : Int), .int .i64 2] wi fun e w' => e = .returned (.tuple #[]) ∧ Js w wr.heap.size p K4 w') := fun wi h1 => by
        have c := put_ok _ K3 p.s.size 2 wi h1.wr (by decide) (by decide) (by rw [show pow 2 = 65536 from by decide]; omega) (by omega)
        exact c.mono fun _ _ q => ⟨q.1, h1.put (by rw [hK4]; exact q.2.1) q.2.2⟩
      have C5 : Hid (∀ wi, Js w wr.heap.size p K4 wi → Calls Try.prog 35 #[.pointer (some ⟨w.heap.size, 0, none⟩), .string p.s] wi fun e w' => e = .returned (.tuple #[]) ∧ Js w wr.heap.size p K5 w') := fun wi h1 => by
        have c := text_ok _ K4 p.s wi h1.wr (by omega)
        exact c.mono fun _ _ q => ⟨q.1, h1.put (by rw [hK5]; exact q.2.1) q.2.2⟩
      have hs3 : (p.s.size : Int) ≤ 1024 := by omega
      generalize (zs (pad n)).toArray = Z at *
      generalize pad n = q at *
      clear hK0 hK1 hK2 hK3 hK4 hK5 l1 l2 l3 l4 hz S0 hwr hb hlen p1 p2 p3 p4 ck1 ck2 hp
      go_wp2_with (first
        | (go_at_call 23; refine (CG.out _).mono ?_; rintro e w' ⟨rfl, rfl⟩)
        | (go_at_call 35; with_reducible refine (C5.out _ J4.out).mono ?_; rintro e w5 ⟨rfl, h⟩; have J5 := Lib.hid h; have d5 := h.box.cells; clear h)
        | (go_at_call 37; refine (C4.out _ J3.out).mono ?_; rintro e w4 ⟨rfl, h⟩; have J4 := Lib.hid h; have d4 := h.box.cells; clear h)
        | (go_at_call 36; with_reducible refine (C3.out _ J2.out).mono ?_; rintro e w3 ⟨rfl, h⟩; have J3 := Lib.hid h; have d3 := h.box.cells; clear h)
        | (go_at_call 36; with_reducible refine (C2.out _ J1.out).mono ?_; rintro e w2 ⟨rfl, h⟩; have J2 := Lib.hid h; have d2 := h.box.cells; clear h)
        | (go_at_call 35; refine (C1.out _ J0.out).mono ?_; rintro e w1 ⟨rfl, h⟩; have J1 := Lib.hid h; have d1 := h.box.cells; clear h))
      go_roundw
      case rel => exact ⟨k + 1, HLT.out, by go_num, by rw [HN.out]; go_num, by rw [HO.out]; exact J5.out.wr, J5.out.bel⟩
      case measure => have := HLT.out; simp [intOf]; omega
    · obtain rfl : k = l.length := by omega
      have CD := Lib.hid (done_ok w.heap.size _ wr hwr (by rw [oc_len]; have := HL.out l.length; omega))
      rw [List.take_length] at CD
      have HB := Lib.hid hb
      clear hb hwr
      go_wp2_with (go_at_call 38; refine CD.out.mono ?_; rintro e w' ⟨rfl, h⟩; have HB2 := Lib.hid (HB.out.trans (h.mono HB.out.size)); clear h)
      go_returns
      exact ⟨rfl, HB2.out⟩

theorem belowN16 {B : Nat} {w w' : World} (h : Below B w w') (n : Nat) : Below B w (w'.drewN n) := ⟨h.os, h.tape, h.output, h.size, h.block⟩
theorem encE_none {l : List Pk} (h : l.length = 0) : encE l = 7 := if_pos h
theorem encE_bad {l : List Pk} (h : ¬ l.length = 0) (hc : ¬ chkL l = 0) : encE l = chkL l := by unfold encE; rw [if_neg h, if_neg hc]
theorem encE_long {l : List Pk} (h : ¬ l.length = 0) (hc : chkL l = 0) (hl : 2048 < ln 0 l) : encE l = 2 := by unfold encE; rw [if_neg h, if_pos hc, if_pos hl]
theorem encE_good {l : List Pk} (h : ¬ l.length = 0) (hc : chkL l = 0) (hl : ¬ 2048 < ln 0 l) : encE l = 0 := by unfold encE; rw [if_neg h, if_pos hc, if_neg hl]
theorem encS_bad {l : List Pk} (h : ¬ encE l = 0) : encS l = ⟨#[]⟩ := if_neg h
/-- What Encode hands back. -/
def EncPost (l : List Pk) (w : World) (e : Ending) (w' : World) : Prop := e = .returned (.tuple #[.string (encS l), .int .i64 (encE l)]) ∧ Below w.heap.size w w'
theorem encPost_err {l : List Pk} {w w' : World} {e : Ending} {r : Int} (h : encE l = r) (h0 : ¬ r = 0) (he : e = .returned (.tuple #[.string ⟨#[]⟩, .int .i64 r])) (hb : Below w.heap.size w w') : EncPost l w e w' :=
  ⟨by rw [encS_bad (by rw [h]; exact h0), h, he], hb⟩

set_option maxRecDepth 100000 in
set_option maxHeartbeats 4000000 in
theorem buEncode_any (l : List Pk) (sa : Option Addr) (c : Nat) (w : World) (h : At w sa l) (hz : sz l) :
    Calls Try.prog 12 #[.slice sa l.length c] w fun e w' => EncPost l w e w' := by
  have HA := Lib.hid h
  have HZ := Lib.hid hz
  have HL := Lib.hid fun k => ln_take_le hz k
  have hl : l.length ≤ 3000 := hz.1
  clear hz
  by_cases h0 : l.length = 0
  · have HE := Lib.hid (encE_none h0)
    have h0' : ((l.length : Int) == 0) = true := by simp; exact List.length_eq_zero_iff.1 h0
    clear h
    go_enter Try.func12, Try.ntmps12
    go_wp2
    go_returns
    exact encPost_err HE.out (by decide) rfl (Below.refl _ _)
  have H0 := Lib.hid h0
  have h0' : ((l.length : Int) == 0) = false := by rw [beq_eq_false_iff_ne]; omega
  clear h h0
  go_enter Try.func12, Try.ntmps12
  go_wp2
  go_loopw [4, 13] (fun z i wr => ∃ k : Nat, k ≤ l.length ∧ i = .int .i64 k ∧ z = .int .i64 ((ln 0 (l.take k) : Nat) : Int) ∧ (∀ j (hj : j < l.length), j < k → chk l[j] = 0) ∧ Below w.heap.size w wr) (fun _ i _ => l.length - (intOf i).toNat)
  case atStart => exact ⟨0, Nat.zero_le _, rfl, rfl, fun j _ hj => absurd hj (Nat.not_lt_zero j), Below.refl _ _⟩
  case round =>
    rename_i wr
    obtain ⟨k, hk, rfl, rfl, hj, hb⟩ := hrel
    have HJ := Lib.hid hj
    have HB := Lib.hid hb
    clear hj
    by_cases hlt : k < l.length
    · obtain ⟨b, off, rfl, hbl, c0, c1, c2⟩ := HA.out.below hb k hlt
      have HN := Lib.hid (ln_take hlt)
      have hn := HL.out k
      have hn1 := HL.out (k + 1)
      have HLT := Lib.hid hlt
      obtain ⟨hps, hpw⟩ := HZ.out.2 l[k] (List.getElem_mem hlt)
      have HX : Hid (¬ chk l[k] = 0 → chkL l = chk l[k]) := fun hn => chkL_at hlt HJ.out hn
      have HG : Hid (chk l[k] = 0 → ∀ j (hj : j < l.length), j < k + 1 → chk l[j] = 0) := fun h0 j hj hjk => by
        by_cases e : j = k
        · subst e; exact h0
        · exact HJ.out j hj (by omega)
      have CC := Lib.hid fun w => buCheck_any l[k] w hpw
      have CG := Lib.hid fun w => buGap_any (ln 0 (l.take k)) w
      have hpl := pad_lt (ln 0 (l.take k))
      have hne := HN.out
      have HB1 := Lib.hid (show Below w.heap.size w (wr.alloc (.cells #[.int .u64 l[k].to, .int .u64 l[k].fr, .string l[k].s] 30)) from hb.alloc hb.size _)
      have X1 := Lib.hid (Box.new wr l[k] rfl)
      rw [hne] at hn1
      generalize l[k] = p at *
      generalize chk p = r at *
      obtain ⟨m, hm⟩ : ∃ m, m = ln 0 (l.take (k + 1)) := ⟨_, rfl⟩
      rw [← hm] at hne
      have HM := Lib.hid hm
      generalize ln 0 (l.take k) = n at *
      generalize pad n = q at *
      clear hm HN hpw hb hbl
      by_cases hr : r = 0
      · subst hr
        have HR := Lib.hid (HG.out rfl)
        clear HX HG
        go_wp2_with (go_at_call 10; refine (CC.out _).mono ?_; rintro e w2 ⟨rfl, h⟩; have HB2 := Lib.hid (HB1.out.trans (h.mono HB1.out.size)); have d2 := (X1.out.below h X1.out.lt).cells; clear h)
        go_quiet (first | (go_at_call 23; exact Calls.quiet_of_same ((CG.out _).mono fun _ _ q => ⟨q.1, q.2.symm⟩)))
        go_wp2
        go_roundw
        case rel => exact ⟨k + 1, HLT.out, by go_num, by rw [← HM.out, hne]; go_num, HR.out, belowN16 HB2.out _⟩
        case measure => have := HLT.out; simp [intOf]; omega
      · have hr' : (r != 0) = true := by rw [bne_iff_ne]; exact hr
        have HR := Lib.hid (HX.out hr)
        have HE := Lib.hid ((encE_bad H0.out (by rw [HR.out]; exact hr)).trans HR.out)
        have H1 := Lib.hid hr
        clear HX HG hr HR
        go_wp2_with (go_at_call 10; refine (CC.out _).mono ?_; rintro e w2 ⟨rfl, h⟩; have HB2 := Lib.hid (HB1.out.trans (h.mono HB1.out.size)); clear h)
        go_returns
        exact encPost_err HE.out H1.out rfl HB2.out
    · obtain rfl : k = l.length := by omega
      have HR : Hid (chkL l = 0) := chkL_all fun j hj => HJ.out j hj hj
      have hn := HL.out l.length
      have CJ := Lib.hid (buJoin_any l sa c wr (HA.out.below hb) HZ.out HR.out)
      rw [List.take_length] at hn ⊢
      by_cases h2 : 2048 < ln 0 l
      · have HE := Lib.hid (encE_long H0.out HR.out h2)
        have h2' : (2048 : Int) < (ln 0 l : Nat) := by omega
        clear hb h2
        go_wp2
        go_returns
        exact encPost_err HE.out (by decide) rfl HB.out
      · have HE := Lib.hid (encE_good H0.out HR.out h2)
        have HS : Hid (encS l = ⟨(oc l).toArray⟩) := if_pos HE.out
        have h2' : ¬ (2048 : Int) < (ln 0 l : Nat) := by omega
        clear hb h2
        go_wp2_with (go_at_call 24; refine CJ.out.mono ?_; rintro e w2 ⟨rfl, h⟩; have HB2 := Lib.hid (HB.out.trans (h.mono HB.out.size)); clear h)
        go_returns
        exact ⟨by rw [HS.out, HE.out]; rfl, HB2.out⟩
end Go.Proofs.Ytlkipjpjkiffjaa
