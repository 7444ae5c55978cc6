/-
  THE LAW of layer 14: BeaconOnly.
-/
import Derived.Test.YtojiffpmmgjpjaaDoorBnLives
import Derived.Test.YtojiffpmmgjpjaaDoorBnUnk
import Derived.Test.YtojiffpmmgjpjaaDoorBnRefD
namespace Go.Bn
theorem dec_ids {s : ByteArray} (h : (Go.Em.dec s).2 = 0) : ∀ x ∈ (Go.Em.dec s).1, 0 ≤ x.id ∧ x.id ≤ 255 := fun x hx => by
  have hc := (Go.Em.enc_dec h).1
  unfold Go.Em.chk at hc
  split at hc
  · exact absurd hc (by decide)
  · exact (Go.Em.chkE_ok.1 (Go.Em.chkL_ok.1 hc x hx)).1
theorem unk_one {id : Int} (h0 : 0 ≤ id ∧ id ≤ 255) : unk [⟨id, ⟨#[]⟩⟩] = !kn id := by
  have hs : (⟨#[]⟩ : ByteArray).size ≤ 200 := by decide
  unfold unk
  simp [unkE, h0.1, h0.2, hs]
theorem knl_all {l : List Go.Em.El} (h : ¬ (knl l).length < l.length) : knl l = l := by
  unfold knl at *
  have := List.length_filter_le (fun e : Go.Em.El => kn e.id) l
  exact List.filter_eq_self.2 (List.length_filter_eq_length_iff.1 (by omega))
end Go.Bn

namespace Go.Proofs.YtojiffpmmgjpjaaDoor
open Go.RowKit Go.Bn Go.Wr
attribute [local go_sem ↓ high] Bn_.loadF Bn_.storeF Bn_.v_cells Bn_.v_match
attribute [local go_sem] Bn_.loadF_new Bn_.storeF_zero Bn_.storeF_new

/-- The table, a beacon in its block, elements that lie. -/
structure Oat (w : World) (B : Nat) (y : Bn) (sa : Option Addr) (L : List Go.Em.El) (wi : World) : Prop where
  lst : Lst w B y wi
  lies : El_.At wi sa L
theorem Oat.keep {w : World} {B : Nat} {y : Bn} {sa : Option Addr} {L : List Go.Em.El} (wi w' : World) (h : Oat w B y sa L wi) (hb : Below wi.heap.size wi w') : Oat w B y sa L w' := ⟨Lst.keep _ _ h.lst hb, h.lies.below hb⟩

set_option maxRecDepth 100000 in
set_option maxHeartbeats 8000000 in
theorem beaconOnly_walk0 (s : ByteArray) (_ : s.size ≤ 140737488351232) (W : World) (ht : KnTab W) :
    Calls Tryd.prog 6 #[.string s] W fun e W' => e = .returned (.bool true) ∧ Below W.heap.size W W' := by
  have HT := Lib.hid ht
  by_cases hn : 4000 < s.size
  · have hn' : 4000 < (s.size : Int) := by omega
    clear hn ht
    go_enter Tryd.func6, Tryd.ntmps6
    go_wp2_with (go_at_call 8; refine (lives14_any _ HT.out).mono ?_; rintro e w2 ⟨rfl, hb⟩; have B2 := Lib.hid hb; clear hb)
    go_ret
    exact ⟨rfl, B2.out⟩
  have hn' : ¬ 4000 < (s.size : Int) := by omega
  have CD := Lib.hid fun w ht => bnDecode_any s w (by omega) ht
  have hbe := bn_eql (decB s)
  have hbg := fun op a b => bn_guard op a b (decB s) (decB s)
  by_cases h0 : decE s = 0
  case neg =>
    have hB : decB s = zb := if_neg h0
    have h0' : (decE s != 0) = true := by simp; exact h0
    have hf : (.agg #[.int .i64 0, .int .i64 0, .string ⟨#[]⟩, .int .i64 0, .int .i64 0, .int .i64 0, .int .i64 0, .bool false, .int .u64 0, .int .i64 0, .int .i64 0, .int .i64 0, .int .i64 0, .int .i64 0, .int .i64 0, .int .i64 0, .int .i64 0, .int .i64 0, .int .i64 0, .int .i64 0, .int .i64 0, .int .i64 0, .int .i64 0, .int .i64 0, .int .i64 0, .int .i64 0, .int .i64 0] : Value) = Bn_.v (decB s) := by rw [hB]; rfl
    generalize decB s = y at *
    generalize decE s = r at *
    have hbe2 : ∀ w : World, (binOp .eql 31 (Bn_.v y) (.agg (Bn_.C y))).run Tryd.prog w = .ok (.bool true) w := hbe
    have hbg2 : ∀ (op : BinOp) (a b : Operand) (w : World), (eqGuard op 31 a b (Bn_.v y) (.agg (Bn_.C y))).run Tryd.prog w = .ok () w := hbg
    clear hn ht h0 hB
    go_enter Tryd.func6, Tryd.ntmps6
    go_wp2_with (first
      | (go_at_call 11; refine (CD.out _ HT.out).mono ?_; rintro e w2 ⟨rfl, hb⟩; have L2 := Lib.hid (Lst.new (HT.out.keep hb) hb y); clear hb)
      | (go_at_call 8; refine (lives14_any _ L2.out.tab).mono ?_; rintro e w5 ⟨rfl, hb⟩; have L5 := Lib.hid (Lst.keep _ _ L2.out hb); clear hb))
    go_ret
    exact ⟨rfl, L5.out.bel⟩
  obtain ⟨h6, hc, htm, hd, hel, hen⟩ := dec_only h0
  have h6' : ¬ (s.size : Int) < 6 := by omega
  have CE : Hid (∀ w, Calls Tryd.prog 9 #[Bn_.v (decB s)] w fun e w' => e = .returned (.tuple #[.string (enc (decB s)), .int .i64 0]) ∧ Below w.heap.size w w') := fun w => by
    have := bnEncode_any (decB s) w htm
    rw [show encR (decB s) = enc (decB s) from if_pos hc, hc] at this
    exact this
  have CC : Hid (∀ w, Calls Tryd.prog 10 #[Bn_.v (decB s)] w fun e w' => e = .returned (.int .i64 0) ∧ Below w.heap.size w w') := fun w => by
    have := bnCheck_any (decB s) w htm
    rw [hc] at this
    exact this
  have hsl := fun W => slice_tail s 6 (by omega) (by omega) W
  rw [show (6 : Int).toNat = 6 from rfl] at hsl
  have CR := Lib.hid fun w => refDecode_any (s.extract 6 s.size) w (by rw [ByteArray.size_extract]; omega)
  unfold DecPost at CR
  have HID := Lib.hid (dec_ids hd)
  have HDL := Lib.hid (Go.Em.dec_len (s.extract 6 s.size))
  rw [hd] at CR
  have HEN := Lib.hid hen
  rw [h0] at CD
  generalize s.extract 6 s.size = t at *
  generalize (Go.Em.dec t).1 = L at *
  generalize enc (decB s) = E at *
  generalize decB s = y at *
  clear hn ht h0 h6 hc htm hd hel hen hbe hbg
  go_enter Tryd.func6, Tryd.ntmps6
  go_wp2_with (first
    | (go_at_call 11; refine (CD.out _ HT.out).mono ?_; rintro e w2 ⟨rfl, hb⟩; have L2 := Lib.hid (Lst.new (HT.out.keep hb) hb y); have bel2 := hb; clear hb)
    | (go_at_call 9; refine (CE.out _).mono ?_; rintro e w3 ⟨rfl, hb⟩; have L3 := Lib.hid (Lst.keep _ _ L2.out hb); clear hb)
    | (go_at_call 16; refine (CR.out _).mono ?_; rintro e w4 ⟨v0, c, rfl, hsl, hb⟩; have L4 := Lib.hid (Oat.mk (Lst.keep _ _ L3.out hb) hsl.lies); clear hb hsl))
  go_loopw [9, 10] (fun z i wr => ∃ (n : Nat) (u : World), n ≤ L.length ∧ z = .int .i64 (knl (L.take n)).length ∧ i = .int .i64 n ∧ u = wr ∧ Oat W w2.heap.size y v0 L u) (fun _ i _ => L.length - (intOf i).toNat)
  case atStart => exact ⟨0, _, Nat.zero_le _, rfl, rfl, rfl, L4.out⟩
  case round =>
    obtain ⟨n, wr, hn, rfl, rfl, rfl, hst⟩ := hrel
    have HST := Lib.hid hst
    have hkl := knl_le L n
    clear hst L4
    by_cases hlt : n < L.length
    · obtain ⟨b, off, hsa, hbl, q0, -⟩ := HST.out.lies n hlt
      subst hsa
      have HY := Lib.hid (fun h => knl_yes hlt h)
      have HN := Lib.hid (fun h => knl_no hlt h)
      have HU := Lib.hid (unk_one (HID.out _ (List.getElem_mem hlt)))
      have HLT := Lib.hid hlt
      have HLN := Lib.hid HDL.out
      generalize L[n] = x at *
      obtain ⟨xi, xt⟩ := x
      simp only at q0 HU HY HN
      have CU : Hid (∀ w : World, Calls Tryd.prog 7 #[.slice (some ⟨w.heap.size, 0, none⟩) 1 1] (w.alloc (.cells #[.int .i64 xi, .string ⟨#[]⟩] 49)) fun e w' => e = .returned (.bool (!kn xi)) ∧ Below (w.alloc (.cells #[.int .i64 xi, .string ⟨#[]⟩] 49)).heap.size (w.alloc (.cells #[.int .i64 xi, .string ⟨#[]⟩] 49)) w') := fun w => by
        have := unknown14_any [⟨xi, ⟨#[]⟩⟩] (some ⟨w.heap.size, 0, none⟩) 1 _ (El_.at_lit w [⟨xi, ⟨#[]⟩⟩] (by show 1 ≤ maxLen; decide))
        rw [HU.out] at this
        exact this
      have i0 : (0 : Int) ≤ (n : Int) := by omega
      have i1 : (n : Int) < (L.length : Int) := by omega
      have i2 : (n : Int) < 32 := by have := HDL.out; omega
      have hkl2 : (knl (L.take n)).length ≤ 32 := Nat.le_trans hkl HDL.out
      clear hn hlt hkl HU
      cases hk : kn xi
      · have HR := Lib.hid (HN.out hk)
        rw [hk] at CU
        clear HN HY hk
        go_wp2_with (first
          | (go_at_call 7; refine (CU.out _).mono ?_; rintro e w5 ⟨rfl, hb⟩; have L5 := Lib.hid (Oat.keep _ _ (Oat.keep _ _ HST.out ((Below.refl _ _).alloc (Nat.le_refl _) _)) hb); clear hb))
        go_roundw
        case rel => exact ⟨n + 1, _, HLT.out, by rw [HR.out], by go_num, rfl, L5.out⟩
        case measure => have := HLT.out; simp [intOf]; omega
      · have HR := Lib.hid (HY.out hk)
        rw [hk] at CU
        clear HN HY hk
        go_wp2_with (first
          | (go_at_call 7; refine (CU.out _).mono ?_; rintro e w5 ⟨rfl, hb⟩; have L5 := Lib.hid (Oat.keep _ _ (Oat.keep _ _ HST.out ((Below.refl _ _).alloc (Nat.le_refl _) _)) hb); clear hb))
        go_roundw
        case rel => exact ⟨n + 1, _, HLT.out, by rw [HR.out, List.length_append]; go_num, by go_num, rfl, L5.out⟩
        case measure => have := HLT.out; simp [intOf]; omega
    · obtain rfl : n = L.length := by omega
      rw [List.take_length] at hkl ⊢
      have HA := Lib.hid (fun h => HEN.out (knl_all (l := L) h))
      clear hn hlt HEN HID
      by_cases hlk : (knl L).length < L.length
      · have hlk' : ((knl L).length : Int) < (L.length : Int) := by omega
        clear HA hlk
        generalize (knl L).length = m at *
        have lA := HST.out.lst.box.loadF
        have lB := HST.out.lst.box.drew.loadF
        go_wp2_with (first
          | (go_at_call 10; refine (CC.out _).mono ?_; rintro e w6 ⟨rfl, hb⟩; have L6 := Lib.hid (Oat.keep _ _ HST.out hb); clear hb)
          | (go_at_call 8; refine (lives14_any _ L6.out.lst.tab).mono ?_; rintro e w7 ⟨rfl, hb⟩; have L7 := Lib.hid (Oat.keep _ _ L6.out hb); clear hb))
        go_ret
        exact ⟨rfl, L7.out.lst.bel⟩
      · have hlk' : ¬ ((knl L).length : Int) < (L.length : Int) := by omega
        obtain rfl := HA.out hlk
        clear HA hlk
        generalize (knl L).length = m at *
        have lA := HST.out.lst.box.loadF
        have lB := HST.out.lst.box.drew.loadF
        go_wp2_with (first
          | (go_at_call 10; refine (CC.out _).mono ?_; rintro e w6 ⟨rfl, hb⟩; have L6 := Lib.hid (Oat.keep _ _ HST.out hb); clear hb)
          | (go_at_call 8; refine (lives14_any _ L6.out.lst.tab).mono ?_; rintro e w7 ⟨rfl, hb⟩; have L7 := Lib.hid (Oat.keep _ _ L6.out hb); clear hb))
        go_ret
        exact ⟨rfl, L7.out.lst.bel⟩
end Go.Proofs.YtojiffpmmgjpjaaDoor
