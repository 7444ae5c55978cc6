/-
  WALKS of package tim: Check, Encode, the set of a bitmap, Decode, Has, Next.
-/
import Derived.Test.YtojiffpmmgjpjaaDoorTmScan
import Derived.Test.YtojiffpmmgjpjaaDoorTmAt
import Derived.Test.YtojiffpmmgjpjaaDoorObv
import Derived.Deep.RegionWith
import Derived.BigRegion
import Derived.Laws.IdiomStrings
namespace Go.Proofs.YtojiffpmmgjpjaaDoor
open Go.RowKit Go.Bs Go.Tm

theorem frozen_of {W : World} {b j : Nat} {cs : Array Value} {T : TypeId} (h : W.heap[b]? = some (.cells cs T)) : W.frozen? ⟨b, j, none⟩ = false := by simp [World.frozen?, h]
/-- A map that lies in a variable's cells. -/
structure TmB (W : World) (b : Nat) (c p : Int) (g : Bool) (s : Int) : Prop where
  c0 : W.cell? ⟨b, 0, none⟩ = some (.int .i64 c)
  c1 : W.cell? ⟨b, 1, none⟩ = some (.int .i64 p)
  c2 : W.cell? ⟨b, 2, none⟩ = some (.bool g)
  c3 : W.cell? ⟨b, 3, none⟩ = some (.int .u64 s)
  lt : b < W.heap.size
  z : ∀ j, W.frozen? ⟨b, j, none⟩ = false
theorem TmB.new (w : World) (c p : Int) (g : Bool) (s : Int) : TmB (w.alloc (.cells #[.int .i64 c, .int .i64 p, .bool g, .int .u64 s] 24)) w.heap.size c p g s :=
  ⟨by simp, by simp, by simp, by simp, by simp, fun _ => frozen_of (heap_alloc_new w _)⟩
theorem TmB.keep {W W' : World} {n b : Nat} {c p : Int} {g : Bool} {s : Int} (h : TmB W b c p g s) (hn : b < n) (hb : Below n W W') : TmB W' b c p g s :=
  ⟨(hb.cell hn).trans h.c0, (hb.cell hn).trans h.c1, (hb.cell hn).trans h.c2, (hb.cell hn).trans h.c3, Nat.lt_of_lt_of_le h.lt hb.size, fun j => (hb.frozen hn).trans (h.z j)⟩
theorem TmB.below {W W' : World} {b : Nat} {c p : Int} {g : Bool} {s : Int} (h : TmB W b c p g s) (hb : Below W.heap.size W W') : TmB W' b c p g s := h.keep h.lt hb
theorem TmB.alloc {W : World} {b : Nat} {c p : Int} {g : Bool} {s : Int} (h : TmB W b c p g s) (o : Obj) : TmB (W.alloc o) b c p g s := h.below ((Below.refl _ _).alloc (Nat.le_refl _) _)

/-- Octets that grow in a slice of one's own, beside the boxed map. -/
structure EncS (w wx : World) (c p : Int) (g : Bool) (s : Nat) (v : Value) (L : List UInt8) : Prop where
  own : wx.ownsRow (w.heap.size + 1) 5 1 v L.length (obv L)
  bel : Below (w.heap.size + 1) (w.alloc (.cells #[.int .i64 c, .int .i64 p, .bool g, .int .u64 (s : Int)] 24)) wx
theorem EncS.box {w wx : World} {c p : Int} {g : Bool} {s : Nat} {v : Value} {L : List UInt8} (h : EncS w wx c p g s v L) : TmB wx w.heap.size c p g s := (TmB.new w c p g s).keep (Nat.lt_succ_self _) h.bel
theorem EncS.below {w wx : World} {c p : Int} {g : Bool} {s : Nat} {v : Value} {L : List UInt8} (h : EncS w wx c p g s v L) : Below w.heap.size w wx :=
  ((Below.refl _ _).alloc (Nat.le_refl _) _).trans (h.bel.mono (Nat.le_succ _))
theorem EncS.le {w wx : World} {c p : Int} {g : Bool} {s : Nat} {v : Value} {L : List UInt8} (h : EncS w wx c p g s v L) : w.heap.size + 1 ≤ wx.heap.size := by have := h.bel.size; simpa using this
/-- At the beginning: three octets. -/
theorem EncS.new {w w1 : World} {c p : Int} {g : Bool} {s : Nat} {L : List UInt8} {a0 a1 a2 : Value} (hb : Below (w.alloc (.cells #[.int .i64 c, .int .i64 p, .bool g, .int .u64 (s : Int)] 24)).heap.size (w.alloc (.cells #[.int .i64 c, .int .i64 p, .bool g, .int .u64 (s : Int)] 24)) w1) (h : obv L = [a0, a1, a2]) :
    EncS w (w1.alloc (.cells #[a0, a1, a2] 5)) c p g s (.slice (some ⟨w1.heap.size, 0, none⟩) 3 3) L := by
  have hs : w.heap.size + 1 ≤ w1.heap.size := by have := hb.size; simpa using this
  have hl : L.length = 3 := by rw [← obv_len, h]; rfl
  refine ⟨?_, (hb.mono (by simp)).alloc hs _⟩
  rw [hl, h]
  exact World.ownsRow_lit (e := 5) (size := 1) w1 #[a0, a1, a2] 3 hs (by decide) rfl

theorem has_cast (s : Nat) (h : s < 18446744073709551616) : (0 : Int) ≤ s ∧ (s : Int) < 18446744073709551616 := by omega
set_option maxHeartbeats 400000 in
theorem tmCheck_any (c p : Int) (g : Bool) (s : Nat) (w : World) (h : s < 18446744073709551616) :
    Calls Tryd.prog 24 #[.agg #[.int .i64 c, .int .i64 p, .bool g, .int .u64 (s : Int)]] w fun e w' => e = .returned (.int .i64 (chk c p s)) ∧ Below w.heap.size w w' := by
  have HC : Hid (chk c p s = if cnt c p = true then (if has s 0 = true then 3 else 0) else 4) := rfl
  have CC := Lib.hid fun w => tmCounts_any c p w
  have CH := Lib.hid fun w => has_any s 0 w h
  clear h
  cases hc : cnt c p <;> rw [hc] at HC CC
  case' true => cases hh : has s 0 <;> rw [hh] at HC CH
  all_goals
    clear hc
    go_enter Tryd.func24, Tryd.ntmps24
    go_wp2_with (first
      | (go_at_call 41; refine (CC.out _).mono ?_; rintro e w' ⟨rfl, rfl⟩)
      | (go_at_call 42; refine (CH.out _).mono ?_; rintro e w' ⟨rfl, rfl⟩))
    go_ret
    exact ⟨by rw [HC.out]; rfl, (Below.refl _ _).alloc (Nat.le_refl _) _⟩

theorem shl_oct (x : Nat) (e : Nat) : Op.shift .shl .u64 (x : Int) .i64 (8 * (e : Int)) = pure (.int .u64 ((x * 2 ^ (8 * e) % 18446744073709551616 : Nat) : Int)) := by
  have h0 : ¬ (8 * (e : Int) < 0) := by omega
  have h1 : (8 * (e : Int)).toNat = 8 * e := by omega
  have key : IntKind.u64.wrap ((x : Int) * 2 ^ min (8 * e) 64) = ((x * 2 ^ (8 * e) % 18446744073709551616 : Nat) : Int) := by
    rw [IntKind.wrap_u64]
    by_cases hb : 8 * e ≤ 64
    · rw [Nat.min_eq_left hb]
      have : ((x : Int) * 2 ^ (8 * e)) = ((x * 2 ^ (8 * e) : Nat) : Int) := by simp
      rw [this]; omega
    · rw [Nat.min_eq_right (by omega)]
      have e1 : 2 ^ (8 * e) = 18446744073709551616 * 2 ^ (8 * e - 64) := by
        rw [show (18446744073709551616 : Nat) = 2 ^ 64 from rfl, ← Nat.pow_add]; congr 1; omega
      have e2 : x * 2 ^ (8 * e) % 18446744073709551616 = 0 := by
        rw [e1, Nat.mul_left_comm]; exact Nat.mul_mod_right _ _
      rw [e2, show ((2 : Int) ^ 64) = 18446744073709551616 from rfl]
      omega
  simp [Op.shift, IntKind.bits, h0, h1, key]

set_option maxHeartbeats 1000000 in
theorem bitmap_any (f : Nat) (t a : ByteArray) (w : World) (hf : f ≤ 255) (ht : t.size ≤ 100) (h : ∀ i, i < t.size → byt t i = byt a (3 + i)) :
    Calls Tryd.prog 83 #[.int .i64 (f : Int), .string t] w fun e w' => e = .returned (.int .u64 (bmk f a t.size : Int)) ∧ w = w' := by
  have HB := Lib.hid h
  clear h
  go_enter Tryd.func83, Tryd.ntmps83
  go_wp2
  go_loopg [5, 9] t.size (fun g x i wx => ∃ k : Nat, k + g = t.size ∧ i = .int .i64 (k : Int) ∧ x = .int .u64 (bmk f a k : Int) ∧ w = wx)
  case atStart => exact ⟨0, by omega, rfl, rfl, rfl⟩
  case round =>
    obtain ⟨k, hkg, rfl, rfl, rfl⟩ := hrel
    have hl := bmk_lt f a k
    cases gk with
    | zero =>
      obtain rfl : k = t.size := hkg
      go_wp2
      go_ret
      exact ⟨rfl, rfl⟩
    | succ g =>
      have hk : k < t.size := by omega
      have i0 : (0 : Int) ≤ (k : Int) := by omega
      have i1 : (k : Int) < (t.size : Int) := by omega
      have HS : Hid (bmk f a (k + 1) = bmk f a k ||| byt a (3 + k) * 2 ^ (8 * (f + k)) % 18446744073709551616) := rfl
      have hg : ((t[k]'hk).toNat) = byt a (3 + k) := (byt_get hk).trans (HB.out k hk)
      have hb := byt_lt a (3 + k)
      have hs := shl_oct (byt a (3 + k)) (f + k)
      have ho := u64_or_nat (bmk f a k) (byt a (3 + k) * 2 ^ (8 * (f + k)) % 18446744073709551616) hl (Nat.mod_lt _ (by decide))
      have hq : ((f + k : Nat) : Int) = (f : Int) + k := by omega
      rw [hq] at hs
      generalize byt a (3 + k) * 2 ^ (8 * (f + k)) % 18446744073709551616 = z at *
      generalize byt a (3 + k) = y at *
      have HK := Lib.hid hk
      clear hl hq
      go_wp2
      go_roundg g
      case measure => omega
      case rel => exact ⟨k + 1, by omega, by go_num, by rw [HS.out], rfl⟩

theorem obv_hd {c p : Int} (g : Bool) {s : Nat} (h : cnt c p = true) (hs : s < 18446744073709551616) : obv (hd c p g s) = [.int .u8 c, .int .u8 p, .int .u8 ((fr s + g.toNat : Nat) : Int)] := by
  have := cnt_iff.1 h
  have h1 := fr_le hs
  have h2 := tt_le s
  have h3 : g.toNat ≤ 1 := by cases g <;> decide
  unfold obv hd
  simp only [List.map_cons, List.map_nil]
  congr 3
  · simp; omega
  · congr 2
    simp; omega
  · congr 3
    simp; omega

set_option maxRecDepth 100000 in
set_option maxHeartbeats 4000000 in
theorem tmEncode_any (c p : Int) (g : Bool) (s : Nat) (w : World) (h : s < 18446744073709551616) :
    Calls Tryd.prog 36 #[.agg #[.int .i64 c, .int .i64 p, .bool g, .int .u64 (s : Int)]] w fun e w' => e = .returned (.tuple #[.string (encR c p g s), .int .i64 (chk c p s)]) ∧ Below w.heap.size w w' := by
  have HI := Lib.hid (info_parts infoOctet)
  have CC := Lib.hid fun w => tmCheck_any c p g s w h
  by_cases h0 : chk c p s = 0
  case neg =>
    have HE : Hid (encR c p g s = ⟨#[]⟩) := if_neg h0
    have h0' : ((chk c p s) != 0) = true := by simp; exact h0
    clear h
    generalize chk c p s = r at *
    go_enter Tryd.func36, Tryd.ntmps36
    go_wp2_with (go_at_call 24; refine (CC.out _).mono ?_; rintro e w' ⟨rfl, hb⟩; have HB := Lib.hid hb; clear hb)
    go_returns
    exact ⟨by rw [HE.out]; rfl, ((Below.refl _ _).alloc (Nat.le_refl _) _).trans (HB.out.mono (by simp))⟩
  have HE : Hid (encR c p g s = ⟨(hd c p g s ++ bm s).toArray⟩) := if_pos h0
  obtain ⟨hc, -⟩ := chk_ok.1 h0
  rw [h0] at CC ⊢
  obtain ⟨c0, c1, c2⟩ := cnt_iff.1 hc
  have HO := Lib.hid (obv_hd g hc h)
  have q1 : IntKind.u8.wrap c = c := (IntKind.wrap_u8 _).trans (by omega)
  have q2 : IntKind.u8.wrap p = p := (IntKind.wrap_u8 _).trans (by omega)
  have CS := Lib.hid fun w => tmSent_any s w h
  have CO := Lib.hid fun i hi w => tmOctet_any s i hi w h
  have hf := fr_le h
  have ht := tt_le s
  clear h h0 hc
  have HBm : Hid (bm s = bmn s (tt s + 1 - fr s)) := rfl
  obtain ⟨f, hfr⟩ : ∃ f, fr s = f := ⟨_, rfl⟩
  obtain ⟨t, htt⟩ : ∃ t, tt s = t := ⟨_, rfl⟩
  have HS : Hid (∀ k, bmn s (k + 1) = bmn s k ++ [UInt8.ofNat (oc s (f + k))]) := by intro k; rw [bmn_succ, hfr]
  rw [hfr, htt] at CS HBm hf
  rw [htt] at ht
  rw [hfr] at HO
  clear hfr htt
  have HN := Lib.hid (TmB.new w c p g s)
  have q3 : IntKind.u8.wrap (f : Int) = f := (IntKind.wrap_u8 _).trans (by omega)
  have q4 : IntKind.u8.wrap ((f : Int) + 1) = f + 1 := (IntKind.wrap_u8 _).trans (by omega)
  generalize encR c p g s = E at *
  obtain ⟨g0, hg0⟩ : ∃ g0, Hid (g0 = g) := ⟨g, rfl⟩
  obtain ⟨H, hH⟩ : ∃ H, hd c p g s = H := ⟨_, rfl⟩
  rw [hH] at HO HE
  have hH3 : H.length = 3 := by rw [← hH]; rfl
  clear hH
  go_enter Tryd.func36, Tryd.ntmps36
  go_wp2_with (first
    | (go_at_call 24; refine (CC.out _).mono ?_; rintro e w' ⟨rfl, hb⟩; have HX := Lib.hid (HN.out.below hb); obtain ⟨d0, d1, d2, d3, -, -⟩ := HX.out; have HB := Lib.hid hb; clear hb)
    | (go_at_call 60; refine (CS.out _).mono ?_; rintro e w' ⟨rfl, rfl⟩))
  all_goals
    rename_i hg _ _
    subst hg
    go_loopg [8, 9] (t + 1 - f) (fun n v i wx => ∃ (k : Nat) (L : List UInt8), k + n = t + 1 - f ∧ i = .int .i64 ((f : Int) + k) ∧ L.length = 3 + k ∧ Aside (L = H ++ bmn s k) ∧ EncS w wx c p g0 s v L)
    case atStart =>
      refine ⟨0, H, by omega, by simp, hH3, (List.append_nil _).symm, ?_⟩
      have hO := HO.out
      simp at hO
      rw [hg0.out]
      exact EncS.new HB.out hO
    case round =>
      clear d0 d1 d2 d3 HX HB CC CS
      obtain ⟨k, L, hkn, rfl, hL, HL, hE⟩ := hrel
      have HEn := Lib.hid hE
      cases gk with
      | zero =>
        have hk : Hid (k = t + 1 - f) := by unfold Hid; omega
        have hlt : ¬ (f : Int) + k ≤ (t : Int) := by omega
        obtain ⟨v0, cap, rfl⟩ := Tm_.slice_form hE.own
        have hcv := conv_any hE.own
        rw [hL] at hcv
        clear hE
        go_wp2
        go_returns
        refine ⟨?_, HEn.out.below⟩
        rw [HE.out, HBm.out, ← hk.out, ← HL.out]; rfl
      | succ n =>
        have hkt : f + k ≤ t := by omega
        have hle : (f : Int) + k ≤ (t : Int) := by omega
        obtain ⟨-, -, -, d3, -, -⟩ := hE.box
        have CO' := Lib.hid fun w => CO.out (f + k) (by omega) w
        have hcast : ((f + k : Nat) : Int) = (f : Int) + k := by omega
        rw [hcast] at CO'
        have ho := oc_lt s (f + k)
        have hO1 : obv [UInt8.ofNat (oc s (f + k))] = [.int .u8 (oc s (f + k) : Int)] := by
          unfold obv; simp; omega
        have HSk := Lib.hid (HS.out k)
        generalize oc s (f + k) = o at *
        have hown := hE.own
        rw [hL] at hown
        have HW := Lib.hid hown
        clear hE hcast ho hown HI HS HO HN
        go_wp2_with (first
          | (go_at_call 61; refine (CO'.out _).mono ?_; rintro e w' ⟨rfl, rfl⟩)
          | (at_builtin; obtain ⟨i0, hi, hz0, hz1, hz2⟩ := info_parts infoOctet; refine wpList_append_own _ rfl _ _ 66 rfl (w.heap.size + 1) 5 i0 (.int .u8 0) 1 1 Tryd.underlying66 hi hz0 hz1 hz2 rfl (by decide) _ _ _ rfl (HW.out.alloc _) ⟨wr.heap.size, 0, none⟩ 1 1 [.int .u8 (o : Int)] rfl rfl ?c1 ?c2 ?c3 ?c4 ?c5 ?_))
        case c1 =>
          intro j u hj
          match j, hj with
          | 0, hj => simp at hj; subst hj; simp [Addr.add]
        case c2 => intro u hu; simp at hu; rcases hu with rfl; rfl
        case c3 => unfold maxLen; omega
        case c4 => omega
        case c5 => have := HEn.out.le; simp; omega
        intro v5 w5 hown5 hgrow5 hn5
        clear hi hz0 hz1 hz2 hn5 d3
        have HEn5 : Hid (EncS w w5 c p g0 s v5 (L ++ [UInt8.ofNat o])) := by
          refine ⟨?_, (HEn.out.bel.alloc HEn.out.le _).grown hgrow5 (by have := HEn.out.le; simp; omega) (fun j hj => (HW.out.lt j hj).1)⟩
          rw [List.length_append, hL, obv_app, hO1]; exact hown5
        clear hgrow5 hown5
        have HO1 := Lib.hid hO1
        clear hO1
        go_wp2
        go_roundg n
        case measure => omega
        case rel => exact ⟨k + 1, L ++ [UInt8.ofNat o], by omega, by go_num, by rw [List.length_append, hL]; rfl, by show _ = _; rw [HSk.out, HL.out, List.append_assoc], HEn5.out⟩
end Go.Proofs.YtojiffpmmgjpjaaDoor
