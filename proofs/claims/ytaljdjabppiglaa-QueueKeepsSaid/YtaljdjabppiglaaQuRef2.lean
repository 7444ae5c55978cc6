/-
  WALKS of the reference of layer 23: Small, Same, expired, With, Without, Push.
-/
import Derived.Test.YtaljdjabppiglaaQuRef1
import Derived.Test.YtaljdjabppiglaaQuPush
namespace Go.Proofs.Ytaljdjabppiglaa
open Go.RowKit Go.Qu Go.Wr Go.Ad
attribute [local go_sem ↓ high] Ix_.loadF Ix_.storeF Ix_.v_cells Ix_.v_match
attribute [local go_sem] Ix_.C0 Ix_.C1 Ix_.C2 Ix_.C3 Ix_.C4 Ix_.C5 Ix_.C6 Ix_.loadF_new Ix_.storeF_zero Oper.semAt_some fold_c Ix_.Csize

/-- At most m items with at most 1500 octets. -/
def sm (l : List It) (m : Int) : Bool := decide ((l.length : Int) ≤ m) && l.all (fun p => decide (p.da.size ≤ 1500))
theorem sm_no {l : List It} {m : Int} {i : Nat} (h : i < l.length) (hk : ¬ l[i].da.size ≤ 1500) : sm l m = false := by
  unfold sm
  have : l.all (fun p => decide (p.da.size ≤ 1500)) = false := by
    rw [List.all_eq_false]; exact ⟨_, List.getElem_mem h, by simpa using hk⟩
  rw [this, Bool.and_false]
theorem sm_yes {l : List It} {m : Int} (h0 : (l.length : Int) ≤ m) (h : ∀ j (hj : j < l.length), l[j].da.size ≤ 1500) : sm l m = true := by
  unfold sm
  rw [decide_eq_true h0, Bool.true_and, List.all_eq_true]
  intro x hx
  obtain ⟨j, hj, rfl⟩ := List.mem_iff_getElem.1 hx
  simpa using h j hj
theorem sm_len {l : List It} {m : Int} (h : sm l m = true) : (l.length : Int) ≤ m := by unfold sm at h; rw [Bool.and_eq_true] at h; simpa using h.1

set_option maxRecDepth 100000 in
set_option maxHeartbeats 4000000 in
theorem r23_small_any (sa : Option Addr) (l : List It) (c : Nat) (m : Int) (w : World) (hS : It_.Sl w sa l c) (hm : m ≤ 1000) :
    Calls Try.prog 15 #[.slice sa l.length c, .int .i64 m] w fun e w' => e = .returned (.bool (sm l m)) ∧ w = w' := by
  by_cases h0 : (l.length : Int) ≤ m
  · have HS := Lib.hid hS
    have HM := Lib.hid h0
    clear hS
    generalize hn : l.length = n at *
    have HN := Lib.hid hn
    clear hn
    go_enter Try.func15, Try.ntmps15
    go_wp2
    go_loopw [5] (fun z wr => ∃ i : Nat, z = .int .i64 i ∧ i ≤ n ∧ Hid (∀ j (hj : j < l.length), j < i → l[j].da.size ≤ 1500) ∧ w = wr) (fun z _ => n - (intOf z).toNat)
    case atStart => exact ⟨0, rfl, Nat.zero_le _, fun j _ hj => absurd hj (Nat.not_lt_zero _), rfl⟩
    case round =>
      obtain ⟨i, rfl, hi, HA, rfl⟩ := hrel
      by_cases hlt : i < n
      · have hil : i < l.length := by have := HN.out; omega
        have hlt' : (i : Int) < (n : Int) := by omega
        have i0 : (0 : Int) ≤ (i : Int) := by omega
        obtain ⟨b, off, hsa, hbl, -, -, -, -, c4, -⟩ := HS.out.lies i hil
        subst hsa
        have HX := Lib.hid (fun (h0 : l[i].da.size ≤ 1500) => show ∀ j (hj : j < l.length), j < i + 1 → l[j].da.size ≤ 1500 from fun j hj hji => by
          rcases Nat.lt_succ_iff_lt_or_eq.1 hji with h | h
          · exact HA.out j hj h
          · subst h; exact h0)
        have HY := Lib.hid (fun (h0 : ¬ l[i].da.size ≤ 1500) => sm_no (m := m) hil h0)
        have hi1 : i ≤ 1000 := by omega
        have HLT := Lib.hid hlt
        generalize l[i] = h at *
        clear hbl hil hlt
        by_cases hk : h.da.size ≤ 1500
        · have HZ := Lib.hid (HX.out hk)
          have hk' : ¬ (1500 : Int) < (h.da.size : Int) := by omega
          clear hk
          go_wp2
          go_roundw
          case rel => exact ⟨i + 1, by go_num, HLT.out, HZ, by first | rfl | trivial⟩
          case measure => have := HLT.out; simp [intOf]; omega
        · have HZ := Lib.hid (HY.out hk)
          have hk' : (1500 : Int) < (h.da.size : Int) := by omega
          clear hk
          go_wp2
          go_returns
          exact ⟨by rw [HZ.out]; rfl, rfl⟩
      · obtain rfl : i = n := by omega
        have HZ := Lib.hid (sm_yes (l := l) (m := m) (by have := HM.out; have := HN.out; omega) (fun j hj => HA.out j hj (by have := HN.out; omega)))
        go_wp2
        go_returns
        exact ⟨by rw [HZ.out]; rfl, rfl⟩
  · have HZ : Hid (sm l m = false) := by show _ = _; unfold sm; rw [decide_eq_false h0, Bool.false_and]
    rw [HZ.out]
    clear hS HZ
    generalize l.length = n at *
    have hd : Ending.returned (.bool (decide ((n : Int) ≤ m))) = Ending.returned (.bool false) := by rw [decide_eq_false h0]
    by_cases h1 : 0 < n
    · have h1' : (0 : Int) < (n : Int) := by omega
      go_enter Try.func15, Try.ntmps15
      go_wp2
      go_loopw [5] (fun z wr => z = .int .i64 (0 : Nat) ∧ w = wr) (fun _ _ => 0)
      case atStart => exact ⟨rfl, rfl⟩
      case round =>
        obtain ⟨rfl, rfl⟩ := hrel
        go_wp2
        go_returns
        exact ⟨hd, rfl⟩
    · obtain rfl : n = 0 := by omega
      go_enter Try.func15, Try.ntmps15
      go_wp2
      go_loopw [5] (fun z wr => z = .int .i64 (0 : Nat) ∧ w = wr) (fun _ _ => 0)
      case atStart => exact ⟨rfl, rfl⟩
      case round =>
        obtain ⟨rfl, rfl⟩ := hrel
        go_wp2
        go_returns
        exact ⟨hd, rfl⟩

set_option maxRecDepth 100000 in
set_option maxHeartbeats 4000000 in
theorem r23_same_any (L : List It) (sa sb : Option Addr) (c c' : Nat) (w : World) (h : It_.Sl w sa L c) (h' : It_.Sl w sb L c') (hl : L.length ≤ 1000) :
    Calls Try.prog 18 #[.slice sa L.length c, .slice sb L.length c'] w fun e w' => e = .returned (.bool true) ∧ Below w.heap.size w w' := by
  have HA := Lib.hid h
  have HB' := Lib.hid h'
  have HL := Lib.hid hl
  clear h h' hl
  generalize hn : L.length = n at *
  have HN := Lib.hid hn
  clear hn
  go_enter Try.func18, Try.ntmps18
  go_wp2
  go_loopw [5] (fun i wr => ∃ k : Nat, k ≤ n ∧ i = .int .i64 k ∧ Hid (Below w.heap.size w wr)) (fun i _ => n - (intOf i).toNat)
  case atStart => exact ⟨0, Nat.zero_le _, rfl, Below.refl _ _⟩
  case round =>
    rename World => wr
    obtain ⟨k, hk, rfl, HB⟩ := hrel
    by_cases hlt : k < n
    · have hil : k < L.length := by have := HN.out; omega
      obtain ⟨b, off, hsa, -⟩ := HA.out.lies k hil
      obtain ⟨b2, off2, hsb, -⟩ := HB'.out.lies k hil
      have q0 : ∀ (q : Of (fun W => Below w.heap.size w W)), (Ix_.LoadF ⟨b, off + k * 7, none⟩).run Try.prog q.w = .ok (Ix_.v L[k]) q.w := fun q => it_load (HA.out.lies.below q.ok) hil hsa
      have q1 : ∀ (q : Of (fun W => Below w.heap.size w W)), (Ix_.LoadF ⟨b2, off2 + k * 7, none⟩).run Try.prog q.w = .ok (Ix_.v L[k]) q.w := fun q => it_load (HB'.out.lies.below q.ok) hil hsb
      subst hsa hsb
      have HLT := Lib.hid hlt
      have hk1 : k ≤ 1000 := by have := HL.out; omega
      generalize L[k] = x at *
      have NEx := Ix_.neq x
      have GUx := fun op a b => Ix_.guard op a b x x
      have i0 : (0 : Int) ≤ (k : Int) := by omega
      have i1 : (k : Int) < (n : Int) := by omega
      have _ne : Nonempty (Of (fun W => Below w.heap.size w W)) := ⟨⟨_, HB.out⟩⟩
      clear hil hlt
      go_wp2
      refine wp_region_of (fun W => Below w.heap.size w W) (by kernel_rfl) (Region.lexB_of_fast (by kernel_rfl)) (HB.out.trans ⟨rfl, rfl, rfl, Nat.le_refl _, fun _ _ => rfl⟩) ?_
      repeat (go_big_quiet_step (fail))
      refine wpQuiet_nil ?_
      rintro _ ⟨q, rfl⟩
      have HB2 := Lib.hid q.ok
      generalize q.w = w2 at *
      clear q0 q1 _ne
      go_wp2
      go_roundw
      case rel => exact ⟨k + 1, HLT.out, by go_num, HB2⟩
      case measure => have := HLT.out; simp [intOf]; omega
    · obtain rfl : k = n := by omega
      go_wp2
      go_returns
      exact ⟨rfl, HB.out⟩

set_option maxRecDepth 100000 in
set_option maxHeartbeats 1000000 in
theorem r23_expired_any (p : It) (now : Int) (w : World) (hp : Wf p) (h0 : -9223372036854775808 ≤ now) (h1 : now ≤ 9223372036854775807) :
    Calls Try.prog 43 #[Ix_.v p, .int .i64 now] w fun e w' => e = .returned (.bool (exps now p)) ∧ Below w.heap.size w w' := by
  obtain ⟨w1, hw1⟩ : ∃ w1, w.alloc (.cells (Ix_.C p) 28) = w1 := ⟨_, rfl⟩
  have hb : Ix_.Box w1 w.heap.size p := hw1 ▸ Ix_.Box.new w p
  have B1 : Hid (Below w.heap.size w w1) := hw1 ▸ (Below.refl _ _).alloc (Nat.le_refl _) _
  have e1 := hb.all
  have hE : exps now p = (decide (0 < p.li) && (decide (p.bo ≤ now) && decide (p.li ≤ now - p.bo))) := rfl
  rw [hE]
  clear hb hE
  by_cases hl : 0 < p.li
  · rw [decide_eq_true hl, Bool.true_and]
    by_cases hn : p.bo ≤ now
    · have hs := u64_sub h0 h1 hp.b0 hn
      have hu := u64_pos hl hp.l1
      rw [decide_eq_true hn, Bool.true_and]
      clear hp h0 h1
      go_enter Try.func43, Try.ntmps43
      go_wp2
      go_returns
      exact ⟨rfl, B1.out⟩
    · rw [decide_eq_false hn, Bool.false_and]
      clear hp h0 h1
      go_enter Try.func43, Try.ntmps43
      go_wp2
      go_returns
      exact ⟨rfl, B1.out⟩
  · rw [decide_eq_false hl, Bool.false_and]
    clear hp h0 h1
    go_enter Try.func43, Try.ntmps43
    go_wp2
    go_returns
    exact ⟨rfl, B1.out⟩

theorem OwnIt.sl {w w' : World} {v : Value} {l : List It} (h : OwnIt w w' v l) : ∃ sa c, v = .slice sa l.length c ∧ It_.Sl w' sa l c := by
  obtain ⟨sa, c, rfl⟩ := It_.slice_form h.1
  exact ⟨sa, c, rfl, It_.sl_owns h.1⟩

set_option maxRecDepth 100000 in
set_option maxHeartbeats 2000000 in
theorem r23_with_any (sa : Option Addr) (l : List It) (c : Nat) (x : It) (w : World) (hS : It_.Sl w sa l c) (hl : l.length ≤ 1000) :
    Calls Try.prog 39 #[.slice sa l.length c, Ix_.v x] w fun e w' => ∃ v, e = .returned v ∧ OwnIt w w' v (l ++ [x]) := by
  obtain ⟨w1, hw1⟩ : ∃ w1, w.alloc (.cells (Ix_.C x) 28) = w1 := ⟨_, rfl⟩
  have hb : Ix_.Box w1 w.heap.size x := hw1 ▸ Ix_.Box.new w x
  have B1 : Hid (Below w.heap.size w w1) := hw1 ▸ (Below.refl _ _).alloc (Nat.le_refl _) _
  have X1 := Lib.hid hb
  have HS := Lib.hid (hS.below B1.out)
  have HL := Lib.hid hl
  have HI := Lib.hid (info_parts It_.info)
  clear hb hS hl
  go_enter Try.func39, Try.ntmps39
  go_wp2_with (at_builtin; refine wpList_appIt _ rfl _ _ rfl w1.heap.size _ 0 [] rfl (World.ownsRow_nil _ _ _ _) sa l.length c l rfl rfl HS.out (by have := HL.out; omega) (Nat.le_refl _) ?_)
  intro v0 c' w2 hown hb2
  have HO : Hid (OwnIt w1 w2 (.slice v0 l.length c') l) := ⟨by simpa using hown, hb2⟩
  have l2 := (X1.out.below hb2 X1.out.lt).loadF
  clear hown hb2
  go_wp2_with (at_builtin; obtain ⟨i0, hi0, hz0, hz1, hz2⟩ := HI.out; refine wpList_append_own _ rfl _ _ 24 rfl w1.heap.size 28 i0 (.agg #[.int .i64 0, .int .i64 0, .int .u64 0, .int .u64 0, .string ⟨#[]⟩, .int .i64 0, .int .i64 0]) 7 64 Try.underlying24 hi0 hz0 hz1 hz2 rfl (by decide) _ _ _ rfl (HO.out.1.alloc _) ⟨w2.heap.size, 0, none⟩ 1 1 (It_.cs x) rfl rfl ?c1 ?c2 ?c3 ?c4 ?c5 ?_)
  case c1 => exact one_news w2 x
  case c2 => exact It_.flat_one x
  case c3 => have := HL.out; unfold maxLen; omega
  case c4 => have := HL.out; omega
  case c5 => have := HO.out.2.size; simp; omega
  intro v4 w4 hown4 hgrow _
  have R : Hid (OwnIt w w4 v4 (l ++ [x])) := ⟨by rw [It_.flat_snoc, List.length_append]; exact owns_up23 hown4 B1.out.size, (B1.out.trans ((HO.out.2.alloc HO.out.2.size _).grown hgrow (by simp; have := HO.out.2.size; omega) (fun k hk => (owns_blk23 HO.out.1 hk).1) |>.mono B1.out.size))⟩
  clear hown4 hgrow hi0 hz0 hz1 hz2
  go_wp2
  go_returns
  exact ⟨_, rfl, R.out⟩

set_option maxRecDepth 100000 in
set_option maxHeartbeats 2000000 in
theorem r23_without_any (sa : Option Addr) (l : List It) (c : Nat) (i : Nat) (w : World) (hi : i < l.length) (hS : It_.Sl w sa l c) (hl : l.length ≤ 1000) :
    Calls Try.prog 41 #[.slice sa l.length c, .int .i64 i] w fun e w' => ∃ v, e = .returned v ∧ OwnIt w w' v (without l i) := by
  have hle := hS.le
  have hnil := hS.nil
  have HT := Lib.hid (sl_take23 hS i)
  have HDr := Lib.hid (fun W (hW : Below w.heap.size w W) => sl_drop23 (hS.below (W' := W) hW) (i + 1) (by omega))
  have hd1 := fun W => head23 sa l.length c i (by omega) hnil W
  have hd2 : ∀ W, (Instr.slice 24 (.slice sa l.length c) (some (.int .i64 ((i : Int) + 1))) none none).run Try.prog W = .ok (.slice (cut23 sa (i + 1) c) (l.length - (i + 1)) (c - (i + 1))) W := fun W => tail23 sa l.length c (i + 1) (by omega) hnil hle W
  have HT1 : Hid ((l.take i).length = i) := by show _ = _; rw [List.length_take]; omega
  have HT2 : Hid ((l.drop (i + 1)).length = l.length - (i + 1)) := List.length_drop
  have hwa : wrap64 ((i : Int) + 1) = (i : Int) + 1 := IntWalk.wrap64_in _ (by omega)
  have hwb : IntKind.i64.wrap ((i : Int) + 1) = (i : Int) + 1 := IntWalk.i64_in _ (by omega)
  have hi' : (i : Int) < (l.length : Int) := by omega
  have HL := Lib.hid hl
  have HLE : Hid ((without l i).length = i + (l.length - (i + 1))) := by show (l.take i ++ l.drop (i + 1)).length = _; rw [List.length_append, HT1.out, HT2.out]
  have HF : Hid (without l i = l.take i ++ l.drop (i + 1)) := rfl
  have HI2 := Lib.hid hi
  generalize l.length = n at *
  clear hS hi
  go_enter Try.func41, Try.ntmps41
  go_wp2_with (at_builtin; refine wpList_appIt _ rfl _ _ rfl w.heap.size _ 0 [] rfl (World.ownsRow_nil _ _ _ _) sa i c (l.take i) rfl HT1.out HT.out (by have := HL.out; have := HI2.out; omega) (Nat.le_refl _) ?_)
  intro v0 c' w2 hown hb2
  have HO := Lib.hid (show w2.ownsRow w.heap.size 28 7 (.slice v0 i c') i (It_.flat (l.take i)) by simpa using hown)
  have HB := Lib.hid hb2
  clear hown hb2
  go_wp2_with (at_builtin; refine wpList_appIt _ rfl _ _ rfl w.heap.size _ i (l.take i) rfl HO.out (cut23 sa (i + 1) c) (n - (i + 1)) (c - (i + 1)) (l.drop (i + 1)) rfl HT2.out (HDr.out w2 HB.out) (by have := HL.out; have := HI2.out; omega) HB.out.size ?_)
  intro v1 c1 w3 hown hb3
  have R : Hid (OwnIt w w3 (.slice v1 (i + (n - (i + 1))) c1) (without l i)) := ⟨by rw [HLE.out, HF.out]; exact hown, HB.out.trans hb3⟩
  clear hown hb3
  go_wp2
  go_returns
  exact ⟨_, rfl, R.out⟩

set_option maxRecDepth 100000 in
set_option maxHeartbeats 2000000 in
theorem r23_push_any (sa : Option Addr) (l : List It) (c : Nat) (x : It) (m : Int) (w : World) (hx : Wf x) (hS : It_.Sl w sa l c) (hl : l.length ≤ 1000) :
    Calls Try.prog 16 #[.slice sa l.length c, Ix_.v x, .int .i64 m] w fun e w' => ∃ v, e = .returned (.tuple #[v, .int .i64 (psh l x m).2]) ∧ OwnIt w w' v (psh l x m).1 := by
  obtain ⟨w1, hw1⟩ : ∃ w1, w.alloc (.cells (Ix_.C x) 28) = w1 := ⟨_, rfl⟩
  have hb : Ix_.Box w1 w.heap.size x := hw1 ▸ Ix_.Box.new w x
  have B1 : Below w.heap.size w w1 := hw1 ▸ (Below.refl _ _).alloc (Nat.le_refl _) _
  have HB := Lib.hid (show Ps w x w1 from ⟨hb, B1⟩)
  have l1 := hb.loadF
  have CI := Lib.hid (fun W => r23_item_any x W hx)
  have CH := Lib.hid (fun W (h : Below w.heap.size w W) => r23_has_any sa l c x.id W (hS.below h) hl)
  have CW := Lib.hid (fun W (h : Below w.heap.size w W) => r23_with_any sa l c x W (hS.below h) hl)
  clear hb B1 hx hS
  by_cases hK : ierr x = 0
  case neg =>
    have HP := Lib.hid (psh_bad (l := l) (m := m) (show cnx l x ≠ 0 by rw [cnx_bad rfl hK]; exact hK))
    have HC := Lib.hid (cnx_bad (l := l) rfl hK)
    have hK' : (ierr x != 0) = true := by simpa using hK
    rw [HP.out, HC.out]
    generalize ierr x = K at *
    clear HP HC hK
    go_enter Try.func16, Try.ntmps16
    go_wp2_with (go_at_call 38; refine (CI.out _).mono ?_; rintro e w2 ⟨rfl, h⟩; replace HB := Lib.hid (HB.out.keep h); clear h)
    go_returns
    exact ⟨_, rfl, nil_own _ _ HB.out.bel⟩
  rw [hK] at CI
  cases hH : hasId l x.id
  case true =>
    have hc : cnx l x = 8 := by rw [cnx_ok hK, hH]; rfl
    rw [psh_bad (m := m) (by rw [hc]; decide), hc]
    rw [hH] at CH
    clear hK hH hc
    go_enter Try.func16, Try.ntmps16
    go_wp2_with (first
      | (go_at_call 38; refine (CI.out _).mono ?_; rintro e w2 ⟨rfl, h⟩; replace HB := Lib.hid (HB.out.keep h); have e2 := HB.out.bx.all; clear h)
      | (go_at_call 14; refine (CH.out _ HB.out.bel).mono ?_; rintro e w' ⟨rfl, rfl⟩))
    go_returns
    exact ⟨_, rfl, nil_own _ _ HB.out.bel⟩
  have hc : cnx l x = 0 := by rw [cnx_ok hK, hH]; rfl
  rw [hH] at CH
  by_cases hM : min m 64 ≤ l.length
  · rw [psh_full hc hM]
    have hM' : min m 64 ≤ (l.length : Int) := hM
    clear hK hM hH hc
    go_enter Try.func16, Try.ntmps16
    go_wp2_with (first
      | (go_at_call 38; refine (CI.out _).mono ?_; rintro e w2 ⟨rfl, h⟩; replace HB := Lib.hid (HB.out.keep h); have e2 := HB.out.bx.all; clear h)
      | (go_at_call 14; refine (CH.out _ HB.out.bel).mono ?_; rintro e w' ⟨rfl, rfl⟩))
    go_returns
    exact ⟨_, rfl, nil_own _ _ HB.out.bel⟩
  · rw [psh_ok hc hM]
    have hM' : ¬ min m 64 ≤ (l.length : Int) := hM
    clear hK hM hH hc
    go_enter Try.func16, Try.ntmps16
    go_wp2_with (first
      | (go_at_call 38; refine (CI.out _).mono ?_; rintro e w2 ⟨rfl, h⟩; replace HB := Lib.hid (HB.out.keep h); have e2 := HB.out.bx.all; have l2 := HB.out.bx.loadF; clear h)
      | (go_at_call 14; refine (CH.out _ HB.out.bel).mono ?_; rintro e w' ⟨rfl, rfl⟩)
      | (go_at_call 39; refine (CW.out _ HB.out.bel).mono ?_; rintro e w3 ⟨v, rfl, hO⟩; have HO : Hid (OwnIt w w3 v (l ++ [x])) := ⟨owns_up23 hO.1 HB.out.bel.size, HB.out.bel.trans (hO.2.mono HB.out.bel.size)⟩; clear hO))
    go_returns
    exact ⟨_, rfl, HO.out⟩
end Go.Proofs.Ytaljdjabppiglaa
