/-
  WALKS of layer 16's reference: Decode.
-/
import Derived.Test.YtlkipjpjkiffjaaBuRef2
import Derived.Test.YtlkipjpjkiffjaaBuDec
namespace Go.Proofs.Ytlkipjpjkiffjaa
open Go.RowKit Go.Bu Go.Wr Go.Ad Pk_

/-- A string out of octets (a word). -/
def yz (l : List UInt8) : ByteArray := ⟨l.toArray⟩
theorem yz_size (l : List UInt8) : (yz l).size = l.length := by simp [yz, ByteArray.size]
theorem yz_list (l : List UInt8) : (yz l).data.toList = l := rfl
theorem yz_of (s : ByteArray) : yz s.data.toList = s := ba_mk rfl
theorem yz_tail (l : List UInt8) (n : Nat) (h : n ≤ l.length) (W : World) : (Instr.slice 9 (.string (yz l)) (some (.int .i64 (n : Int))) none none).run Try.prog W = .ok (.string (yz (l.drop n))) W := by
  rw [run_slice_string_l W 9 (yz l) Try.underlying9 .i64 (n : Int) (by omega) (by rw [yz_size]; omega), Int.toNat_natCast, yz_size]
  congr 2
  have := bz_drop l n
  rw [bz_size] at this
  exact this
theorem yz_head (l : List UInt8) (n : Nat) (h : n ≤ l.length) (W : World) : (Instr.slice 9 (.string (yz l)) none (some (.int .i64 (n : Int))) none).run Try.prog W = .ok (.string (yz (l.take n))) W := by
  rw [run_slice_string_h W 9 (yz l) Try.underlying9 .i64 (n : Int) (by omega) (by rw [yz_size]; omega), Int.toNat_natCast]
  congr 2
  exact bz_take l n
theorem yz_inj {a b : List UInt8} : yz a = yz b ↔ a = b := by
  constructor
  · intro h
    have := congrArg (fun b : ByteArray => b.data.toList) h
    exact this
  · intro h; rw [h]
theorem fin_dF {f : Nat} {L : List Pk} {u : List UInt8} (h : e1 u = 0) : fin L (dF (f + 1) u) = fin (L ++ [pk u]) (dG (dF f) (14 + hN u) (u.drop (14 + hN u))) := by rw [dF, if_pos h, fin_fin]
theorem fin_dF_err {f : Nat} {L : List Pk} {u : List UInt8} (h : ¬ e1 u = 0) : fin L (dF (f + 1) u) = ([], e1 u) := by rw [dF, if_neg h]; exact fin_err _ h _

theorem owns_below16 {base n size : Nat} {e : TypeId} {v : Value} {wr w1 : World} {xs : List Value} (h : wr.ownsRow base e size v n xs) (hb : Below wr.heap.size wr w1) : w1.ownsRow base e size v n xs := by
  obtain ⟨h0, h1 | ⟨g, cap, cur, h1, h2, hh, h3⟩⟩ := h
  · exact ⟨h0, .inl h1⟩
  · exact ⟨h0, .inr ⟨g, cap, cur, h1, h2, (hb.block g (Array.getElem?_eq_some_iff.1 hh).1).trans hh, h3⟩⟩
theorem eq_list16 {a b : ByteArray} (h : a = b) : (a.toList == b.toList) = true := by rw [h]; simp
theorem ne_list16 {a b : ByteArray} (h : ¬ a = b) : (a.toList == b.toList) = false := by
  refine beq_eq_false_iff_ne.2 fun e => h ?_
  rw [ByteArray.toList_eq, ByteArray.toList_eq] at e
  obtain ⟨⟨x⟩⟩ := a; obtain ⟨⟨y⟩⟩ := b
  simp at e; rw [e]

set_option maxRecDepth 100000 in
set_option maxHeartbeats 4000000 in
theorem r16Decode_any (s : ByteArray) (w : World) (hs : s.size ≤ 140737488351232) :
    Calls Try.prog 15 #[.string s] w fun e w' => DecPost s w e w' := by
  by_cases h2 : 2048 < s.size
  · have HD : Hid (dec s = ([], 2)) := if_pos h2
    have h2' : (2048 : Int) < (s.size : Int) := by omega
    clear h2
    go_enter Try.func15, Try.ntmps15
    go_wp2
    go_returns
    exact decPost_err HD.out rfl (Below.refl _ _)
  have h2' : ¬ (2048 : Int) < (s.size : Int) := by omega
  have HD0 : Hid (dec s = fin [] (dF (s.size + 1) s.data.toList)) := by
    show dec s = _
    rw [fin_nil _ (dF_nil _ _)]; exact if_neg h2
  have HI := Lib.hid (info_parts info)
  have hls := Go.Bu.ba_len s
  have O0 : Hid ((w.alloc (.cells #[] 30)).ownsRow w.heap.size 30 3 (.slice (some ⟨w.heap.size, 0, none⟩) 0 0) 0 []) := World.ownsRow_made w #[] 0 (Nat.le_refl _) (Nat.zero_le _) rfl
  go_enter Try.func15, Try.ntmps15
  go_wp2
  go_loopw [0, 4] (fun x v wr => ∃ (L : List Pk) (u : List UInt8) (f : Nat), x = .string (yz u) ∧ u.length < f ∧ L.length + u.length ≤ s.size ∧ dec s = fin L (dF f u) ∧ wr.ownsRow w.heap.size 30 3 v L.length (Pk_.flat L) ∧ Below w.heap.size w wr)
    (fun x _ _ => match x with | .string u => u.size | _ => 0)
  case atStart => exact ⟨[], s.data.toList, s.size + 1, by rw [yz_of], by omega, by simp [hls], HD0.out, O0.out, (Below.refl _ _).alloc (Nat.le_refl _) _⟩
  case round =>
    rename_i wr
    obtain ⟨L, u, f, rfl, hf, hLu, hd, hown, hb⟩ := hrel
    obtain ⟨f, rfl⟩ : ∃ g, f = g + 1 := ⟨f - 1, by omega⟩
    obtain ⟨v0, c, rfl⟩ := slice_form hown
    have HB := Lib.hid hb
    have CO := Lib.hid (r16One_any (yz u) wr (by rw [yz_size]; omega))
    rw [yz_list] at CO
    clear HD0 O0
    by_cases h0 : e1 u = 0
    case neg =>
      have HE := Lib.hid (hd.trans (fin_dF_err h0))
      have h0' : (e1 u != 0) = true := by rw [bne_iff_ne]; exact h0
      rw [if_neg h0, if_neg h0] at CO
      unfold Pq_.v zp at CO
      simp only at CO
      generalize e1 u = r at *
      clear h0 hd hown hb hf hLu
      go_wp2_with (go_at_call 31; refine CO.out.mono ?_; rintro e w2 ⟨rfl, h⟩; have HB2 := Lib.hid (HB.out.trans (h.mono HB.out.size)); clear h)
      go_returns
      exact decPost_err HE.out rfl (HB2.out.alloc HB2.out.size _)
    rw [fin_dF h0] at hd
    rw [if_pos h0, if_pos h0, h0] at CO
    unfold Pq_.v at CO
    obtain ⟨h14, hpok, hn1, hn2⟩ := e1_ok.1 h0
    have hLL : (L ++ [pk u]).length = L.length + 1 := by rw [List.length_append]; rfl
    have HX : Hid (cs (pk u) = [.int .u64 (pk u).to, .int .u64 (pk u).fr, .string (pk u).s]) := rfl
    generalize pk u = p at *
    have hxt := yz_tail u (14 + hN u) hn2
    obtain ⟨t, ht⟩ : ∃ t, t = u.drop (14 + hN u) := ⟨_, rfl⟩
    rw [← ht] at hd hxt
    have htl : t.length = u.length - (14 + hN u) := by rw [ht, List.length_drop]
    obtain ⟨n, hn⟩ : ∃ n, n = 14 + hN u := ⟨_, rfl⟩
    rw [← hn] at hd hxt htl CO hn2
    have CP := Lib.hid fun w => r16Pad_any n w
    have CZ := Lib.hid fun w => r16Zeros_any (pad n) w (pad_lt _)
    have hpl := pad_lt n
    have hts := yz_size t
    have htz : ((yz t).size : Int) = (t.length : Int) := by rw [hts]
    have hus : (yz u).size = u.length := yz_size u
    have HM : Hid ((yz t).size < (yz u).size) := by show (yz t).size < (yz u).size; omega
    have HLL := Lib.hid hLL
    have hmax : L.length + 1 ≤ 3000 := by omega
    have hn14 : 14 ≤ n := by omega
    clear h0 hpok ht hn hn1 h14
    by_cases ht0 : t.length = 0
    · obtain rfl : t = [] := List.length_eq_zero_iff.1 ht0
      rw [dG_end, fin_ok] at hd
      have HE := Lib.hid hd
      have hlz : (yz ([] : List UInt8)).size = 0 := rfl
      clear hd hb htl hf hLu hLL ht0
      generalize yz ([] : List UInt8) = Y at *
      go_wp2_with (first
        | (go_at_call 31; refine CO.out.mono ?_; rintro e w2 ⟨rfl, h⟩; have hown2 := owns_below16 hown h; have HB2 := Lib.hid (HB.out.trans (h.mono HB.out.size)); clear h hown)
        | (at_builtin; obtain ⟨i0, hi, hz0, hz1, hz2⟩ := HI.out; refine wpList_append_own _ rfl _ _ 22 rfl w.heap.size 30 i0 (.agg #[.int .u64 0, .int .u64 0, .string ⟨#[]⟩]) 3 32 Try.underlying22 hi hz0 hz1 hz2 rfl (by decide) _ _ _ rfl ((hown2.alloc _).alloc _) ⟨w2.heap.size + 1, 0, none⟩ 1 1 [.int .u64 p.to, .int .u64 p.fr, .string p.s] rfl rfl ?c1a ?c2a ?c3a ?c4a ?c5a ?_))
      case c1a =>
        intro j u hj
        match j, hj with
        | 0, hj => simp at hj; subst hj; simp [Addr.add]
        | 1, hj => simp at hj; subst hj; simp [Addr.add]
        | 2, hj => simp at hj; subst hj; simp [Addr.add]
      case c2a => intro u hu; simp at hu; rcases hu with rfl | rfl | rfl <;> rfl
      case c3a => unfold maxLen; omega
      case c4a => omega
      case c5a => have := HB2.out.size; simp; omega
      intro v3 w3 hown3 hgrow hn'
      clear hi hz0 hz1 hz2
      have R : w3.ownsRow w.heap.size 30 3 v3 (L ++ [p]).length (Pk_.flat (L ++ [p])) ∧ Below w.heap.size w w3 := by
        refine ⟨?_, ?_⟩
        · rw [flat_snoc, HX.out, List.length_append]
          exact hown3
        · exact Below.grown ((HB2.out.alloc HB2.out.size _).alloc (by have := HB2.out.size; simp; omega) _) hgrow (by simp; have := HB2.out.size; omega) (fun j hj => (hown2.lt j hj).1)
      obtain ⟨v3a, c3, rfl⟩ := slice_form R.1
      have HO3 := Lib.hid R.1
      have HB3 := Lib.hid R.2
      clear hown2 hown3 hgrow hn' R
      go_wp2
      go_returns
      exact decPost_ok (by rw [HE.out, List.append_nil]) (by rw [HLL.out]; rfl) (sl_owns HO3.out) HB3.out
    have ht0' : ((t.length : Int) == 0) = false := by rw [beq_eq_false_iff_ne]; omega
    rw [← hts] at ht0'
    have hne0 : ((yz t).size : Int) ≠ 0 := by omega
    by_cases hsh : t.length ≤ pad n
    · rw [dG_short ht0 hsh, fin_err _ (by decide)] at hd
      have HE := Lib.hid hd
      have hsh' : ((yz t).size : Int) ≤ (pad n : Int) := by omega
      clear hd hb htl hf hLu hLL ht0 hsh hts htz
      generalize yz t = Y at *
      go_wp2_with (first
        | (go_at_call 31; refine CO.out.mono ?_; rintro e w2 ⟨rfl, h⟩; have hown2 := owns_below16 hown h; have HB2 := Lib.hid (HB.out.trans (h.mono HB.out.size)); clear h hown)
        | (at_builtin; obtain ⟨i0, hi, hz0, hz1, hz2⟩ := HI.out; refine wpList_append_own _ rfl _ _ 22 rfl w.heap.size 30 i0 (.agg #[.int .u64 0, .int .u64 0, .string ⟨#[]⟩]) 3 32 Try.underlying22 hi hz0 hz1 hz2 rfl (by decide) _ _ _ rfl ((hown2.alloc _).alloc _) ⟨w2.heap.size + 1, 0, none⟩ 1 1 [.int .u64 p.to, .int .u64 p.fr, .string p.s] rfl rfl ?c1b ?c2b ?c3b ?c4b ?c5b ?_))
      case c1b =>
        intro j u hj
        match j, hj with
        | 0, hj => simp at hj; subst hj; simp [Addr.add]
        | 1, hj => simp at hj; subst hj; simp [Addr.add]
        | 2, hj => simp at hj; subst hj; simp [Addr.add]
      case c2b => intro u hu; simp at hu; rcases hu with rfl | rfl | rfl <;> rfl
      case c3b => unfold maxLen; omega
      case c4b => omega
      case c5b => have := HB2.out.size; simp; omega
      intro v3 w3 hown3 hgrow hn'
      clear hi hz0 hz1 hz2
      have R : w3.ownsRow w.heap.size 30 3 v3 (L ++ [p]).length (Pk_.flat (L ++ [p])) ∧ Below w.heap.size w w3 := by
        refine ⟨?_, ?_⟩
        · rw [flat_snoc, HX.out, List.length_append]
          exact hown3
        · exact Below.grown ((HB2.out.alloc HB2.out.size _).alloc (by have := HB2.out.size; simp; omega) _) hgrow (by simp; have := HB2.out.size; omega) (fun j hj => (hown2.lt j hj).1)
      obtain ⟨v3a, c3, rfl⟩ := slice_form R.1
      have HO3 := Lib.hid R.1
      have HB3 := Lib.hid R.2
      clear hown2 hown3 hgrow hn' R
      go_wp2_with (go_at_call 32; refine (CP.out _).mono ?_; rintro e w' ⟨rfl, rfl⟩)
      go_returns
      exact decPost_err HE.out rfl HB3.out
    have hsh' : ¬ ((yz t).size : Int) ≤ (pad n : Int) := by omega
    have hxh := yz_head t (pad n) (by omega)
    have hxt2 := yz_tail t (pad n) (by omega)
    have CZ : Hid (∀ w, Calls Try.prog 33 #[.int .i64 (pad n : Nat)] w fun e w' => e = .returned (.string (yz (zs (pad n)))) ∧ w = w') := fun w => CZ.out w
    by_cases hz : t.take (pad n) = zs (pad n)
    case neg =>
      rw [dG_form hsh hz, fin_err _ (by decide)] at hd
      have HE := Lib.hid hd
      have hq := ne_list16 (fun h => hz (yz_inj.1 h))
      clear hd hb htl hf hLu hLL ht0 hsh hts htz hxt2 hz hn14 hn2
      generalize yz (t.take (pad n)) = Y1 at *
      generalize yz (zs (pad n)) = Y2 at *
      generalize yz t = Y at *
      go_wp2_with (first
        | (go_at_call 31; refine CO.out.mono ?_; rintro e w2 ⟨rfl, h⟩; have hown2 := owns_below16 hown h; have HB2 := Lib.hid (HB.out.trans (h.mono HB.out.size)); clear h hown)
        | (at_builtin; obtain ⟨i0, hi, hz0, hz1, hz2⟩ := HI.out; refine wpList_append_own _ rfl _ _ 22 rfl w.heap.size 30 i0 (.agg #[.int .u64 0, .int .u64 0, .string ⟨#[]⟩]) 3 32 Try.underlying22 hi hz0 hz1 hz2 rfl (by decide) _ _ _ rfl ((hown2.alloc _).alloc _) ⟨w2.heap.size + 1, 0, none⟩ 1 1 [.int .u64 p.to, .int .u64 p.fr, .string p.s] rfl rfl ?c1c ?c2c ?c3c ?c4c ?c5c ?_))
      case c1c =>
        intro j u hj
        match j, hj with
        | 0, hj => simp at hj; subst hj; simp [Addr.add]
        | 1, hj => simp at hj; subst hj; simp [Addr.add]
        | 2, hj => simp at hj; subst hj; simp [Addr.add]
      case c2c => intro u hu; simp at hu; rcases hu with rfl | rfl | rfl <;> rfl
      case c3c => unfold maxLen; omega
      case c4c => omega
      case c5c => have := HB2.out.size; simp; omega
      intro v3 w3 hown3 hgrow hn'
      clear hi hz0 hz1 hz2
      have R : w3.ownsRow w.heap.size 30 3 v3 (L ++ [p]).length (Pk_.flat (L ++ [p])) ∧ Below w.heap.size w w3 := by
        refine ⟨?_, ?_⟩
        · rw [flat_snoc, HX.out, List.length_append]
          exact hown3
        · exact Below.grown ((HB2.out.alloc HB2.out.size _).alloc (by have := HB2.out.size; simp; omega) _) hgrow (by simp; have := HB2.out.size; omega) (fun j hj => (hown2.lt j hj).1)
      obtain ⟨v3a, c3, rfl⟩ := slice_form R.1
      have HO3 := Lib.hid R.1
      have HB3 := Lib.hid R.2
      clear hown2 hown3 hgrow hn' R
      go_wp2_with (go_at_call 32; refine (CP.out _).mono ?_; rintro e w' ⟨rfl, rfl⟩)
      go_quiet (first
        | (go_at_call 32; exact Calls.quiet_of_same ((CP.out _).mono fun _ _ q => ⟨q.1, q.2.symm⟩))
        | (go_at_call 33; exact Calls.quiet_of_same ((CZ.out _).mono fun _ _ q => ⟨q.1, q.2.symm⟩)))
      go_wp2
      go_returns
      exact decPost_err HE.out rfl (belowN16 HB3.out _)
    have hd2 := hd
    rw [dG_ok hsh hz] at hd2
    have HE := Lib.hid hd2
    have hq := eq_list16 (yz_inj.2 hz)
    obtain ⟨t2, ht2⟩ : ∃ t2, t2 = t.drop (pad n) := ⟨_, rfl⟩
    rw [← ht2] at HE hxt2
    have ht2l : t2.length = t.length - pad n := by rw [ht2, List.length_drop]
    have HF : Hid (t2.length < f) := by show t2.length < f; omega
    have HLU : Hid ((L ++ [p]).length + t2.length ≤ s.size) := by show (L ++ [p]).length + t2.length ≤ s.size; omega
    have HM2 : Hid ((yz t2).size < (yz u).size) := by show (yz t2).size < (yz u).size; rw [yz_size, yz_size]; omega
    have HY2 : Hid (Value.string (yz t2) = .string (yz t2)) := rfl
    clear hd hd2 hb htl hf hLu hLL ht0 hsh hts htz hz ht2 ht2l
    generalize yz (t.take (pad n)) = Y1 at *
    generalize yz (zs (pad n)) = Y2 at *
    generalize yz t = Y at *
    go_wp2_with (first
      | (go_at_call 31; refine CO.out.mono ?_; rintro e w2 ⟨rfl, h⟩; have hown2 := owns_below16 hown h; have HB2 := Lib.hid (HB.out.trans (h.mono HB.out.size)); clear h hown)
      | (at_builtin; obtain ⟨i0, hi, hz0, hz1, hz2⟩ := HI.out; refine wpList_append_own _ rfl _ _ 22 rfl w.heap.size 30 i0 (.agg #[.int .u64 0, .int .u64 0, .string ⟨#[]⟩]) 3 32 Try.underlying22 hi hz0 hz1 hz2 rfl (by decide) _ _ _ rfl ((hown2.alloc _).alloc _) ⟨w2.heap.size + 1, 0, none⟩ 1 1 [.int .u64 p.to, .int .u64 p.fr, .string p.s] rfl rfl ?c1d ?c2d ?c3d ?c4d ?c5d ?_))
    case c1d =>
      intro j u hj
      match j, hj with
      | 0, hj => simp at hj; subst hj; simp [Addr.add]
      | 1, hj => simp at hj; subst hj; simp [Addr.add]
      | 2, hj => simp at hj; subst hj; simp [Addr.add]
    case c2d => intro u hu; simp at hu; rcases hu with rfl | rfl | rfl <;> rfl
    case c3d => unfold maxLen; omega
    case c4d => omega
    case c5d => have := HB2.out.size; simp; omega
    intro v3 w3 hown3 hgrow hn'
    clear hi hz0 hz1 hz2
    have R : w3.ownsRow w.heap.size 30 3 v3 (L ++ [p]).length (Pk_.flat (L ++ [p])) ∧ Below w.heap.size w w3 := by
      refine ⟨?_, ?_⟩
      · rw [flat_snoc, HX.out, List.length_append]
        exact hown3
      · exact Below.grown ((HB2.out.alloc HB2.out.size _).alloc (by have := HB2.out.size; simp; omega) _) hgrow (by simp; have := HB2.out.size; omega) (fun j hj => (hown2.lt j hj).1)
    obtain ⟨v3a, c3, rfl⟩ := slice_form R.1
    have HO3 := Lib.hid R.1
    have HB3 := Lib.hid R.2
    clear hown2 hown3 hgrow hn' R
    go_wp2_with (go_at_call 32; refine (CP.out _).mono ?_; rintro e w' ⟨rfl, rfl⟩)
    go_quiet (first
      | (go_at_call 32; exact Calls.quiet_of_same ((CP.out _).mono fun _ _ q => ⟨q.1, q.2.symm⟩))
      | (go_at_call 33; exact Calls.quiet_of_same ((CZ.out _).mono fun _ _ q => ⟨q.1, q.2.symm⟩)))
    go_wp2_with (go_at_call 32; refine (CP.out _).mono ?_; rintro e w' ⟨rfl, rfl⟩)
    go_roundw
    case rel => exact ⟨L ++ [p], t2, f, rfl, HF.out, HLU.out, HE.out, by rw [HLL.out]; exact (HLL.out ▸ HO3.out), belowN16 HB3.out _⟩
    case measure => exact HM2.out
end Go.Proofs.Ytlkipjpjkiffjaa
