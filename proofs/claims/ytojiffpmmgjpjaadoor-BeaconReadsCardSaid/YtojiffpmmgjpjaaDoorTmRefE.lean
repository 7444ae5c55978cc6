/-
  WALKS of the reference of layer 13: Encode.
-/
import Derived.Test.YtojiffpmmgjpjaaDoorTmRef
namespace Go.Proofs.YtojiffpmmgjpjaaDoor
open Go.RowKit Go.Bs Go.Tm

set_option maxRecDepth 100000 in
set_option maxHeartbeats 4000000 in
theorem refEncode13_any (c p : Int) (g : Bool) (s : Nat) (w : World) (h : s < 18446744073709551616) (hc : cnt c p = true) :
    Calls Tryd.prog 29 #[.agg #[.int .i64 c, .int .i64 p, .bool g, .int .u64 (s : Int)]] w fun e w' => e = .returned (.string (enc c p g s)) ∧ Below w.heap.size w w' := by
  have HI := Lib.hid (info_parts infoOctet)
  have HE : Hid (enc c p g s = ⟨(hd c p g s ++ bm s).toArray⟩) := rfl
  obtain ⟨c0, c1, c2⟩ := cnt_iff.1 hc
  have HO := Lib.hid (obv_hd g hc h)
  have q1 : IntKind.u8.wrap c = c := (IntKind.wrap_u8 _).trans (by omega)
  have q2 : IntKind.u8.wrap p = p := (IntKind.wrap_u8 _).trans (by omega)
  have CS := Lib.hid fun w => refEnds_any s w h
  have CO := Lib.hid fun i hi w => refOctet13_any s i hi w h
  have hf := fr_le h
  have ht := tt_le s
  clear h hc
  have HBm : Hid (bm s = bmn s (tt s + 1 - fr s)) := rfl
  obtain ⟨f, hfr⟩ : ∃ f, fr s = f := ⟨_, rfl⟩
  obtain ⟨t, htt⟩ : ∃ t, tt s = t := ⟨_, rfl⟩
  have HS : Hid (∀ k, bmn s (k + 1) = bmn s k ++ [UInt8.ofNat (oc s (f + k))]) := by intro k; rw [bmn_succ, hfr]
  rw [hfr, htt] at CS HBm hf
  rw [htt] at ht
  rw [hfr] at HO
  clear hfr htt
  have HN := Lib.hid (TmB.new w c p g s)
  have q3 : IntKind.u8.wrap (f : Int) = f := (IntKind.wrap_u8 _).trans (by omega)
  have q4 : IntKind.u8.wrap ((f : Int) + 1) = f + 1 := (IntKind.wrap_u8 _).trans (by omega)
  generalize enc c p g s = E at *
  obtain ⟨g0, hg0⟩ : ∃ g0, Hid (g0 = g) := ⟨g, rfl⟩
  obtain ⟨H, hH⟩ : ∃ H, hd c p g s = H := ⟨_, rfl⟩
  rw [hH] at HO HE
  have hH3 : H.length = 3 := by rw [← hH]; rfl
  clear hH
  go_enter Tryd.func29, Tryd.ntmps29
  go_wp2_with (go_at_call 51; refine (CS.out _).mono ?_; rintro e w' ⟨rfl, rfl⟩)
  all_goals
    rename_i hg _ _
    subst hg
    go_loopg [6, 7] (t + 1 - f) (fun n v i wx => ∃ (k : Nat) (L : List UInt8), k + n = t + 1 - f ∧ i = .int .i64 ((f : Int) + k) ∧ L.length = 3 + k ∧ Aside (L = H ++ bmn s k) ∧ EncS w wx c p g0 s v L)
    case atStart =>
      refine ⟨0, H, by omega, by simp, hH3, (List.append_nil _).symm, ?_⟩
      have hO := HO.out
      simp at hO
      rw [hg0.out]
      simpa using EncS.new (w := w) (c := c) (p := p) (s := s) (Below.refl _ _) hO
    case round =>
      clear CS
      obtain ⟨k, L, hkn, rfl, hL, HL, hE⟩ := hrel
      have HEn := Lib.hid hE
      cases gk with
      | zero =>
        have hk : Hid (k = t + 1 - f) := by unfold Hid; omega
        have hlt : ¬ (f : Int) + k ≤ (t : Int) := by omega
        obtain ⟨v0, cap, rfl⟩ := Tm_.slice_form hE.own
        have hcv := conv_any hE.own
        rw [hL] at hcv
        clear hE
        go_wp2
        go_returns
        refine ⟨?_, HEn.out.below⟩
        rw [HE.out, HBm.out, ← hk.out, ← HL.out]; rfl
      | succ n =>
        have hkt : f + k ≤ t := by omega
        have hle : (f : Int) + k ≤ (t : Int) := by omega
        obtain ⟨-, -, -, d3, -, -⟩ := hE.box
        have CO' := Lib.hid fun w => CO.out (f + k) (by omega) w
        have hcast : ((f + k : Nat) : Int) = (f : Int) + k := by omega
        rw [hcast] at CO'
        have ho := oc_lt s (f + k)
        have q5 : IntKind.u8.wrap (oc s (f + k) : Int) = oc s (f + k) := (IntKind.wrap_u8 _).trans (by omega)
        have hO1 : obv [UInt8.ofNat (oc s (f + k))] = [.int .u8 (oc s (f + k) : Int)] := by
          unfold obv; simp; omega
        have HSk := Lib.hid (HS.out k)
        generalize oc s (f + k) = o at *
        have hown := hE.own
        rw [hL] at hown
        have HW := Lib.hid hown
        clear hE hcast ho hown HI HS HO HN
        go_wp2_with (first
          | (go_at_call 52; refine (CO'.out _).mono ?_; rintro e w' ⟨rfl, rfl⟩)
          | (at_builtin; obtain ⟨i0, hi, hz0, hz1, hz2⟩ := info_parts infoOctet; refine wpList_append_own _ rfl _ _ 66 rfl (w.heap.size + 1) 5 i0 (.int .u8 0) 1 1 Tryd.underlying66 hi hz0 hz1 hz2 rfl (by decide) _ _ _ rfl (HW.out.alloc _) ⟨wr.heap.size, 0, none⟩ 1 1 [.int .u8 (o : Int)] rfl rfl ?c1 ?c2 ?c3 ?c4 ?c5 ?_))
        case c1 =>
          intro j u hj
          match j, hj with
          | 0, hj => simp at hj; subst hj; simp [Addr.add]
        case c2 => intro u hu; simp at hu; rcases hu with rfl; rfl
        case c3 => unfold maxLen; omega
        case c4 => omega
        case c5 => have := HEn.out.le; simp; omega
        intro v5 w5 hown5 hgrow5 hn5
        clear hi hz0 hz1 hz2 hn5 d3
        have HEn5 : Hid (EncS w w5 c p g0 s v5 (L ++ [UInt8.ofNat o])) := by
          refine ⟨?_, (HEn.out.bel.alloc HEn.out.le _).grown hgrow5 (by have := HEn.out.le; simp; omega) (fun j hj => (HW.out.lt j hj).1)⟩
          rw [List.length_append, hL, obv_app, hO1]; exact hown5
        clear hgrow5 hown5
        have HO1 := Lib.hid hO1
        clear hO1
        go_wp2
        go_roundg n
        case measure => omega
        case rel => exact ⟨k + 1, L ++ [UInt8.ofNat o], by omega, by go_num, by rw [List.length_append, hL]; rfl, by show _ = _; rw [HSk.out, HL.out, List.append_assoc], HEn5.out⟩
end Go.Proofs.YtojiffpmmgjpjaaDoor
