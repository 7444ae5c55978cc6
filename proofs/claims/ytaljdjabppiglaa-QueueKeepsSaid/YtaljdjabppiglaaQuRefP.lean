/-
  WALKS of the reference of layer 23: Purge, Expire, Count, Pop (its region 5 written by gen_branch.py with qu_conf.py by mkqu23.py).
-/
import Derived.Test.YtaljdjabppiglaaQuRef2
import Derived.Test.YtaljdjabppiglaaQuPop
namespace Go.Proofs.Ytaljdjabppiglaa
open Go.RowKit Go.Qu Go.Wr Go.Ad
attribute [local go_sem ↓ high] Ix_.loadF Ix_.storeF Ix_.v_cells Ix_.v_match
attribute [local go_sem] Ix_.C0 Ix_.C1 Ix_.C2 Ix_.C3 Ix_.C4 Ix_.C5 Ix_.C6 Ix_.loadF_new Ix_.storeF_zero Oper.semAt_some fold_c Ix_.Csize

set_option maxRecDepth 100000 in
set_option maxHeartbeats 4000000 in
theorem r23_purge_any (sa : Option Addr) (l : List It) (c : Nat) (a : Int) (w : World) (hS : It_.Sl w sa l c) (hl : l.length ≤ 1000) :
    Calls Try.prog 23 #[.slice sa l.length c, .int .u64 a] w fun e w' => ∃ v u, e = .returned (.tuple #[v, u]) ∧ Tw w v u (l.filter (neg (isTo a))) (l.filter (isTo a)) w' := by
  have HI := Lib.hid (info_parts It_.info)
  have HS := Lib.hid hS
  have HL := Lib.hid hl
  clear hS hl
  generalize hn : l.length = n at *
  have HN := Lib.hid hn
  clear hn
  go_enter Try.func23, Try.ntmps23
  go_wp2
  go_loopw [6, 7, 8] (fun v u z wr => ∃ i : Nat, z = .int .i64 i ∧ i ≤ n ∧ Hid (Tw w v u ((l.take i).filter (neg (isTo a))) ((l.take i).filter (isTo a)) wr)) (fun _ _ z _ => n - (intOf z).toNat)
  case atStart => exact ⟨0, rfl, Nat.zero_le _, Tw.nil w⟩
  case round =>
    rename World => wr
    obtain ⟨i, rfl, hi, HO⟩ := hrel
    by_cases hlt : i < n
    · have hil : i < l.length := by have := HN.out; omega
      have hlt' : (i : Int) < (n : Int) := by omega
      have i0 : (0 : Int) ≤ (i : Int) := by omega
      obtain ⟨b, off, hsa, hbl, -, -, c2, -⟩ := HS.out.lies i hil
      have ld := it_load (HS.out.lies.below HO.out.bel) hil hsa
      have k2 := (HO.out.bel.cell hbl).trans c2
      have HLD := Lib.hid (fun W (hW : Below w.heap.size w W) => it_load (HS.out.lies.below hW) hil hsa)
      subst hsa
      have HT1 := Lib.hid (filter_takeI (P := isTo a) hil)
      have HT2 := Lib.hid (filter_takeI (P := neg (isTo a)) hil)
      have HL1 : Hid (((l.take i).filter (isTo a)).length ≤ 1000) := by
        show ((l.take i).filter (isTo a)).length ≤ 1000
        have := List.length_filter_le (isTo a) (l.take i)
        have := HN.out; have := HL.out
        rw [List.length_take] at *; omega
      have HL2 : Hid (((l.take i).filter (neg (isTo a))).length ≤ 1000) := by
        show ((l.take i).filter (neg (isTo a))).length ≤ 1000
        have := List.length_filter_le (neg (isTo a)) (l.take i)
        have := HN.out; have := HL.out
        rw [List.length_take] at *; omega
      have HM := Lib.hid (List.getElem_mem hil)
      generalize l[i] = h at *
      generalize (l.take i).filter (isTo a) = L1 at *
      generalize (l.take i).filter (neg (isTo a)) = L2 at *
      have HNG : Hid (neg (isTo a) h = !(isTo a) h) := rfl
      have hi1 : i ≤ 1000 := by have := HL.out; omega
      have HLT := Lib.hid hlt
      have HO2 := Lib.hid HO.out
      clear hbl hil hlt c2 HO
      generalize neg (isTo a) h = np at *
      have HIT : Hid (isTo a h = (h.to == a)) := rfl
      by_cases ht : h.to = a
      · rw [show isTo a h = true by rw [HIT.out, ht]; simp] at HNG HT1
        rw [ht] at k2
        have HT3 := Lib.hid (show (l.take (i + 1)).filter (neg (isTo a)) = L2 by rw [HT2.out, HNG.out]; simp)
        have HT4 := Lib.hid (show (l.take (i + 1)).filter (isTo a) = L1 ++ [h] by rw [HT1.out]; simp)
        clear HT1 HT2 HNG
        go_wp2_with (first
          | (at_builtin; obtain ⟨i0, hi0, hz0, hz1, hz2⟩ := HI.out; refine wpList_append_own_at _ rfl _ _ 24 rfl w.heap.size 28 i0 (.agg #[.int .i64 0, .int .i64 0, .int .u64 0, .int .u64 0, .string ⟨#[]⟩, .int .i64 0, .int .i64 0]) 7 64 Try.underlying24 hi0 hz0 hz1 hz2 rfl (by decide) _ _ _ rfl (HO2.out.b.alloc _) ⟨wr.heap.size, 0, none⟩ 1 1 (It_.cs h) rfl rfl ?c1 ?c2 ?c3 ?c4 ?c5 ?_))
        case c1 => exact one_news wr h
        case c2 => exact It_.flat_one h
        case c3 => have := HL1.out; unfold maxLen; omega
        case c4 => have := HL1.out; omega
        case c5 => have := HO2.out.bel.size; simp; omega
        intro v4 w4 hown4 hgrow _ hat
        have R := Lib.hid (Tw.app (HO2.out.swap.alloc _) hown4 hgrow (by simpa using hat)).swap
        clear hown4 hgrow hat hi0 hz0 hz1 hz2
        go_wp2
        go_roundw
        case rel => exact ⟨i + 1, by go_num, HLT.out, by rw [HT3.out, HT4.out]; exact R⟩
        case measure => have := HLT.out; simp [intOf]; omega
      · have ht' : (h.to == a) = false := by rw [beq_eq_false_iff_ne]; exact ht
        rw [show isTo a h = false by rw [HIT.out, ht']] at HNG HT1
        have HT3 := Lib.hid (show (l.take (i + 1)).filter (neg (isTo a)) = L2 ++ [h] by rw [HT2.out, HNG.out]; rfl)
        have HT4 := Lib.hid (show (l.take (i + 1)).filter (isTo a) = L1 by rw [HT1.out]; simp)
        clear HT1 HT2 HNG
        go_wp2_with (first
          | (at_builtin; obtain ⟨i0, hi0, hz0, hz1, hz2⟩ := HI.out; refine wpList_append_own_at _ rfl _ _ 24 rfl w.heap.size 28 i0 (.agg #[.int .i64 0, .int .i64 0, .int .u64 0, .int .u64 0, .string ⟨#[]⟩, .int .i64 0, .int .i64 0]) 7 64 Try.underlying24 hi0 hz0 hz1 hz2 rfl (by decide) _ _ _ rfl (HO2.out.a.alloc _) ⟨wr.heap.size, 0, none⟩ 1 1 (It_.cs h) rfl rfl ?c1 ?c2 ?c3 ?c4 ?c5 ?_))
        case c1 => exact one_news wr h
        case c2 => exact It_.flat_one h
        case c3 => have := HL2.out; unfold maxLen; omega
        case c4 => have := HL2.out; omega
        case c5 => have := HO2.out.bel.size; simp; omega
        intro v4 w4 hown4 hgrow _ hat
        have R := Lib.hid (Tw.app (HO2.out.alloc _) hown4 hgrow (by simpa using hat))
        clear hown4 hgrow hat hi0 hz0 hz1 hz2
        go_wp2
        go_roundw
        case rel => exact ⟨i + 1, by go_num, HLT.out, by rw [HT3.out, HT4.out]; exact R⟩
        case measure => have := HLT.out; simp [intOf]; omega
    · obtain rfl : i = n := by omega
      rw [show l.take i = l by rw [← HN.out, List.take_length]] at HO
      go_wp2
      go_returns
      exact ⟨_, _, rfl, HO.out⟩

set_option maxRecDepth 100000 in
set_option maxHeartbeats 4000000 in
theorem r23_expire_any (sa : Option Addr) (l : List It) (c : Nat) (now : Int) (w : World) (hd : ∀ p ∈ l, Wf p) (h0 : -9223372036854775808 ≤ now) (h1 : now ≤ 9223372036854775807) (hS : It_.Sl w sa l c) (hl : l.length ≤ 1000) :
    Calls Try.prog 26 #[.slice sa l.length c, .int .i64 now] w fun e w' => ∃ v u, e = .returned (.tuple #[v, u]) ∧ Tw w v u (l.filter (neg (exps now))) (l.filter (exps now)) w' := by
  have HI := Lib.hid (info_parts It_.info)
  have HS := Lib.hid hS
  have HL := Lib.hid hl
  have HD := Lib.hid hd
  have H0 := Lib.hid h0
  have H1 := Lib.hid h1
  clear hS hl hd h0 h1
  generalize hn : l.length = n at *
  have HN := Lib.hid hn
  clear hn
  go_enter Try.func26, Try.ntmps26
  go_wp2
  go_loopw [6, 7, 8] (fun v u z wr => ∃ i : Nat, z = .int .i64 i ∧ i ≤ n ∧ Hid (Tw w v u ((l.take i).filter (neg (exps now))) ((l.take i).filter (exps now)) wr)) (fun _ _ z _ => n - (intOf z).toNat)
  case atStart => exact ⟨0, rfl, Nat.zero_le _, Tw.nil w⟩
  case round =>
    rename World => wr
    obtain ⟨i, rfl, hi, HO⟩ := hrel
    by_cases hlt : i < n
    · have hil : i < l.length := by have := HN.out; omega
      have hlt' : (i : Int) < (n : Int) := by omega
      have i0 : (0 : Int) ≤ (i : Int) := by omega
      obtain ⟨b, off, hsa, hbl, -, -, c2, -⟩ := HS.out.lies i hil
      have ld := it_load (HS.out.lies.below HO.out.bel) hil hsa
      have k2 := (HO.out.bel.cell hbl).trans c2
      have HLD := Lib.hid (fun W (hW : Below w.heap.size w W) => it_load (HS.out.lies.below hW) hil hsa)
      subst hsa
      have HT1 := Lib.hid (filter_takeI (P := exps now) hil)
      have HT2 := Lib.hid (filter_takeI (P := neg (exps now)) hil)
      have HL1 : Hid (((l.take i).filter (exps now)).length ≤ 1000) := by
        show ((l.take i).filter (exps now)).length ≤ 1000
        have := List.length_filter_le (exps now) (l.take i)
        have := HN.out; have := HL.out
        rw [List.length_take] at *; omega
      have HL2 : Hid (((l.take i).filter (neg (exps now))).length ≤ 1000) := by
        show ((l.take i).filter (neg (exps now))).length ≤ 1000
        have := List.length_filter_le (neg (exps now)) (l.take i)
        have := HN.out; have := HL.out
        rw [List.length_take] at *; omega
      have HM := Lib.hid (List.getElem_mem hil)
      generalize l[i] = h at *
      generalize (l.take i).filter (exps now) = L1 at *
      generalize (l.take i).filter (neg (exps now)) = L2 at *
      have HNG : Hid (neg (exps now) h = !(exps now) h) := rfl
      have CX := Lib.hid (fun W => r23_expired_any h now W (HD.out _ HM.out) H0.out H1.out)
      have hi1 : i ≤ 1000 := by have := HL.out; omega
      have HLT := Lib.hid hlt
      have HO2 := Lib.hid HO.out
      clear hbl hil hlt c2 HO
      generalize neg (exps now) h = np at *
      generalize exps now h = p at *
      cases p
      · skip
        have HT3 := Lib.hid (show (l.take (i + 1)).filter (neg (exps now)) = L2 ++ [h] by rw [HT2.out, HNG.out]; rfl)
        have HT4 := Lib.hid (show (l.take (i + 1)).filter (exps now) = L1 by rw [HT1.out]; simp)
        clear HT1 HT2 HNG
        go_wp2_with (first
          | (go_at_call 43; refine (CX.out _).mono ?_; rintro e w2 ⟨rfl, hw2⟩; replace HO2 := Lib.hid (HO2.out.keep hw2); have l2 := HLD.out _ HO2.out.bel; clear hw2)
          | (at_builtin; obtain ⟨i0, hi0, hz0, hz1, hz2⟩ := HI.out; refine wpList_append_own_at _ rfl _ _ 24 rfl w.heap.size 28 i0 (.agg #[.int .i64 0, .int .i64 0, .int .u64 0, .int .u64 0, .string ⟨#[]⟩, .int .i64 0, .int .i64 0]) 7 64 Try.underlying24 hi0 hz0 hz1 hz2 rfl (by decide) _ _ _ rfl (HO2.out.a.alloc _) ⟨w2.heap.size, 0, none⟩ 1 1 (It_.cs h) rfl rfl ?c1 ?c2 ?c3 ?c4 ?c5 ?_))
        case c1 => exact one_news w2 h
        case c2 => exact It_.flat_one h
        case c3 => have := HL2.out; unfold maxLen; omega
        case c4 => have := HL2.out; omega
        case c5 => have := HO2.out.bel.size; simp; omega
        intro v4 w4 hown4 hgrow _ hat
        have R := Lib.hid (Tw.app (HO2.out.alloc _) hown4 hgrow (by simpa using hat))
        clear hown4 hgrow hat hi0 hz0 hz1 hz2
        go_wp2
        go_roundw
        case rel => exact ⟨i + 1, by go_num, HLT.out, by rw [HT3.out, HT4.out]; exact R⟩
        case measure => have := HLT.out; simp [intOf]; omega
      · skip
        have HT3 := Lib.hid (show (l.take (i + 1)).filter (neg (exps now)) = L2 by rw [HT2.out, HNG.out]; simp)
        have HT4 := Lib.hid (show (l.take (i + 1)).filter (exps now) = L1 ++ [h] by rw [HT1.out]; simp)
        clear HT1 HT2 HNG
        go_wp2_with (first
          | (go_at_call 43; refine (CX.out _).mono ?_; rintro e w2 ⟨rfl, hw2⟩; replace HO2 := Lib.hid (HO2.out.keep hw2); have l2 := HLD.out _ HO2.out.bel; clear hw2)
          | (at_builtin; obtain ⟨i0, hi0, hz0, hz1, hz2⟩ := HI.out; refine wpList_append_own_at _ rfl _ _ 24 rfl w.heap.size 28 i0 (.agg #[.int .i64 0, .int .i64 0, .int .u64 0, .int .u64 0, .string ⟨#[]⟩, .int .i64 0, .int .i64 0]) 7 64 Try.underlying24 hi0 hz0 hz1 hz2 rfl (by decide) _ _ _ rfl (HO2.out.b.alloc _) ⟨w2.heap.size, 0, none⟩ 1 1 (It_.cs h) rfl rfl ?c1 ?c2 ?c3 ?c4 ?c5 ?_))
        case c1 => exact one_news w2 h
        case c2 => exact It_.flat_one h
        case c3 => have := HL1.out; unfold maxLen; omega
        case c4 => have := HL1.out; omega
        case c5 => have := HO2.out.bel.size; simp; omega
        intro v4 w4 hown4 hgrow _ hat
        have R := Lib.hid (Tw.app (HO2.out.swap.alloc _) hown4 hgrow (by simpa using hat)).swap
        clear hown4 hgrow hat hi0 hz0 hz1 hz2
        go_wp2
        go_roundw
        case rel => exact ⟨i + 1, by go_num, HLT.out, by rw [HT3.out, HT4.out]; exact R⟩
        case measure => have := HLT.out; simp [intOf]; omega
    · obtain rfl : i = n := by omega
      rw [show l.take i = l by rw [← HN.out, List.take_length]] at HO
      go_wp2
      go_returns
      exact ⟨_, _, rfl, HO.out⟩

theorem Tw.sl {w w' : World} {v u : Value} {l m : List It} (h : Tw w v u l m w') : ∃ sa c sb d, v = .slice sa l.length c ∧ u = .slice sb m.length d ∧ It_.Sl w' sa l c ∧ It_.Sl w' sb m d := by
  obtain ⟨sa, c, rfl⟩ := It_.slice_form h.a
  obtain ⟨sb, d, rfl⟩ := It_.slice_form h.b
  exact ⟨sa, c, sb, d, rfl, rfl, It_.sl_owns h.a, It_.sl_owns h.b⟩
set_option maxRecDepth 100000 in
set_option maxHeartbeats 1000000 in
theorem r23_count_any (sa : Option Addr) (l : List It) (c : Nat) (a : Int) (w : World) (hS : It_.Sl w sa l c) (hl : l.length ≤ 1000) :
    Calls Try.prog 25 #[.slice sa l.length c, .int .u64 a] w fun e w' => e = .returned (.int .i64 (l.filter (isTo a)).length) ∧ Below w.heap.size w w' := by
  have CP : Hid (Calls Try.prog 23 #[.slice sa l.length c, .int .u64 a] w fun e w' => ∃ s1 c1 s2 c2, e = .returned (.tuple #[.slice s1 (l.filter (neg (isTo a))).length c1, .slice s2 (l.filter (isTo a)).length c2]) ∧ Below w.heap.size w w') := by
    refine (r23_purge_any sa l c a w hS hl).mono ?_
    rintro e w' ⟨v, u, rfl, hT⟩
    obtain ⟨s1, c1, s2, c2, rfl, rfl, -⟩ := hT.sl
    exact ⟨s1, c1, s2, c2, rfl, hT.bel⟩
  clear hS hl
  generalize (l.filter (isTo a)).length = K at *
  generalize (l.filter (neg (isTo a))).length = J at *
  go_enter Try.func25, Try.ntmps25
  go_wp2_with (go_at_call 23; refine CP.out.mono ?_; rintro e w2 ⟨s1, c1, s2, c2, rfl, h⟩; have HB := Lib.hid h; clear h)
  go_returns
  exact ⟨rfl, HB.out⟩

/-- A list that lies behind a slice. -/
def LiesI (w w' : World) (v : Value) (l : List It) : Prop := (∃ sa c, v = .slice sa l.length c ∧ It_.Sl w' sa l c) ∧ Below w.heap.size w w'
theorem OwnIt.ends {w w' : World} {v : Value} {l : List It} (h : OwnIt w w' v l) : LiesI w w' v l := ⟨h.sl, h.2⟩
set_option maxRecDepth 100000 in
set_option maxHeartbeats 4000000 in
theorem r23_pop_any (sa : Option Addr) (l : List It) (c : Nat) (a : Int) (w : World) (hS : It_.Sl w sa l c) (hl : l.length ≤ 1000) :
    Calls Try.prog 19 #[.slice sa l.length c, .int .u64 a] w fun e w' => ∃ v, e = .returned (.tuple #[Ix_.v (popI a l), v, .bool (popB a l)]) ∧ LiesI w w' v (popL a l) := by
  obtain ⟨w1, hw1⟩ : ∃ w1, w.alloc (.cells (Ix_.C zit) 28) = w1 := ⟨_, rfl⟩
  have hw1' : w.alloc (.cells #[.int .i64 0, .int .i64 0, .int .u64 0, .int .u64 0, .string ⟨#[]⟩, .int .i64 0, .int .i64 0] 28) = w1 := hw1
  have HP0 := Lib.hid (show Pp w w1 from ⟨hw1 ▸ Ix_.Box.new w zit, hw1 ▸ (Below.refl _ _).alloc (Nat.le_refl _) _⟩)
  have HL := Lib.hid hl
  have HS := Lib.hid hS
  have CW := Lib.hid (fun W (hW : Below w.heap.size w W) i (hi : i < l.length) => r23_without_any sa l c i W hi (hS.below hW) hl)
  clear hS hl hw1
  obtain ⟨n, hn⟩ : ∃ n, l.length = n := ⟨_, rfl⟩
  have HN := Lib.hid hn
  rw [hn] at CW ⊢
  clear hn
  go_enter Try.func19, Try.ntmps19
  go_wp2
  go_loopw [7] (fun z wr => ∃ i : Nat, z = .int .i64 i ∧ i ≤ n ∧ Hid (∀ j (hj : j < l.length), j < i → isTo a l[j] = false) ∧ w1 = wr) (fun z _ => n - (intOf z).toNat)
  case atStart => exact ⟨0, rfl, Nat.zero_le _, fun j _ hj => absurd hj (Nat.not_lt_zero _), rfl⟩
  case round =>
    obtain ⟨i, rfl, hi, HA, rfl⟩ := hrel
    by_cases hlt : i < n
    · have hil : i < l.length := by have := HN.out; omega
      have hlt' : (i : Int) < (n : Int) := by omega
      have i0 : (0 : Int) ≤ (i : Int) := by omega
      obtain ⟨b, off, hsa, hbl, -, -, c2, -⟩ := HS.out.lies i hil
      have k2 := (HP0.out.bel.cell hbl).trans c2
      have HLD := Lib.hid (fun W (hW : Below w.heap.size w W) => it_load (HS.out.lies.below hW) hil hsa)
      have CWO := Lib.hid (fun W hW => CW.out W hW i (by have := HN.out; omega))
      subst hsa
      have HX := Lib.hid (fun (h0 : isTo a l[i] = false) => show ∀ j (hj : j < l.length), j < i + 1 → isTo a l[j] = false from fun j hj hji => by
        rcases Nat.lt_succ_iff_lt_or_eq.1 hji with h | h
        · exact HA.out j hj h
        · subst h; exact h0)
      have HY := Lib.hid (fun (h0 : isTo a l[i] = true) => show fidx (isTo a) l = i from fidx_lt hil h0 (fun j hj => HA.out j (by omega) hj))
      have HIA := Lib.hid (itAt_eq hil)
      have hi1 : i ≤ 1000 := by have := HL.out; have := HN.out; omega
      have HLT := Lib.hid hlt
      have HIL := Lib.hid hil
      have HIT : Hid (isTo a l[i] = (l[i].to == a)) := rfl
      generalize l[i] = x at *
      clear hbl hil hlt c2 HA
      by_cases ht : x.to = a
      · have HF := Lib.hid (HY.out (by rw [HIT.out, ht]; simp))
        have hfl : fidx (isTo a) l < l.length := by rw [HF.out]; exact HIL.out
        have HZ1 : Hid (popI a l = x) := by show _ = _; unfold popI; rw [if_pos hfl, HF.out, HIA.out]
        have HZ2 : Hid (popL a l = without l i) := by show _ = _; unfold popL; rw [if_pos hfl, HF.out]
        have HZ3 : Hid (popB a l = true) := decide_eq_true hfl
        generalize without l i = L2 at *
        rw [ht] at k2
        have HP := Lib.hid (HP0.out.keep (wj := w1.drew) ⟨rfl, rfl, rfl, Nat.le_refl _, fun _ _ => rfl⟩)
        clear HX HY HIT ht hfl HP0
        go_wp2
        refine wp_region_held_drew (S := (fun w' => (Ix_.LoadF ⟨b, off + i * 7, none⟩).run Try.prog w' = .ok (Ix_.v x) w')) (by kernel_rfl) ?_ (fun hHeld => ?_)
        · exact HLD.out _ HP.out.bel
        refine wpAnyH_take (i := 0) (oi := { dst := some 21, op := Op.move (Operand.tmp 0), type := 24, pos := "ref.go:86", after := #[], guard := none }) (v := ?v1) rfl (by kernel_rfl) (by kernel_rfl) (by kernel_rfl) (fun _ _ _ h => h) (Or.inl ⟨by rfl, ?y1⟩) hHeld ?r1
        case y1 => (intro w hSw; (try dsimp only at hSw); go_simp; try with_reducible rfl)
        try simp only [Act.put, List.setIfInBounds_toArray, List.set_cons_zero, List.set_cons_succ]
        refine wpAnyH_take (i := 1) (oi := { dst := some 22, op := Op.move (Operand.tmp 7), type := 3, pos := "ref.go:86", after := #[], guard := none }) (v := ?v2) rfl (by kernel_rfl) (by kernel_rfl) (by kernel_rfl) (fun _ _ _ h => h) (Or.inl ⟨by rfl, ?y2⟩) hHeld ?r2
        case y2 => (intro w hSw; (try dsimp only at hSw); go_simp; try with_reducible rfl)
        try simp only [Act.put, List.setIfInBounds_toArray, List.set_cons_zero, List.set_cons_succ]
        refine wpAnyH_take (i := 2) (oi := { dst := some 23, op := Op.indexAddr 24 (Operand.tmp 21) (Operand.tmp 22), type := 0, pos := "ref.go:86", after := #[{ on := 0, ground := Ground.data }, { on := 1, ground := Ground.data }], guard := none }) (v := ?v3) rfl (by kernel_rfl) (by kernel_rfl) (by kernel_rfl) (fun _ _ _ h => h) (Or.inl ⟨by rfl, ?y3⟩) hHeld ?r3
        case y3 => (intro w hSw; (try dsimp only at hSw); go_simp; try with_reducible rfl)
        try simp only [Act.put, List.setIfInBounds_toArray, List.set_cons_zero, List.set_cons_succ]
        refine wpAnyH_take (i := 3) (oi := { dst := some 24, op := Op.load 28 (Operand.tmp 23), type := 28, pos := "ref.go:86", after := #[{ on := 2, ground := Ground.data }], guard := none }) (v := ?v4) rfl (by kernel_rfl) (by kernel_rfl) (by kernel_rfl) (fun _ _ _ h => h) (Or.inl ⟨by rfl, ?y4⟩) hHeld ?r4
        case y4 => (intro w hSw; (try dsimp only at hSw); go_simp; try with_reducible rfl)
        try simp only [Act.put, List.setIfInBounds_toArray, List.set_cons_zero, List.set_cons_succ]
        refine wpAnyH_take (i := 4) (oi := { dst := some 25, op := Op.move (Operand.tmp 0), type := 24, pos := "ref.go:86", after := #[], guard := none }) (v := ?v5) rfl (by kernel_rfl) (by kernel_rfl) (by kernel_rfl) (fun _ _ _ h => h) (Or.inl ⟨by rfl, ?y5⟩) hHeld ?r5
        case y5 => (intro w hSw; (try dsimp only at hSw); go_simp; try with_reducible rfl)
        try simp only [Act.put, List.setIfInBounds_toArray, List.set_cons_zero, List.set_cons_succ]
        refine wpAnyH_take (i := 5) (oi := { dst := some 26, op := Op.move (Operand.tmp 7), type := 3, pos := "ref.go:86", after := #[], guard := none }) (v := ?v6) rfl (by kernel_rfl) (by kernel_rfl) (by kernel_rfl) (fun _ _ _ h => h) (Or.inl ⟨by rfl, ?y6⟩) hHeld ?r6
        case y6 => (intro w hSw; (try dsimp only at hSw); go_simp; try with_reducible rfl)
        try simp only [Act.put, List.setIfInBounds_toArray, List.set_cons_zero, List.set_cons_succ]
        refine wpAnyH_ready (rs := [6]) (by kernel_rfl) (by simp) ?_
        refine AllReadyH.cons (o := { dst := some 27, op := Op.call { callee := Callee.value (Operand.func 41), args := #[Operand.tmp 25, Operand.tmp 26], argTypes := #[24, 3] }, type := 24, pos := "ref.go:86", after := #[{ on := 4, ground := Ground.data }, { on := 5, ground := Ground.data }], guard := none }) rfl (fun K hK => ?_) ?_
        · clear hHeld
          go_simp
          go_at_call 41
          with_reducible refine (CWO.out _ HP.out.bel).mono ?_
          rintro e w2 ⟨v', rfl, hO⟩
          have HC := Lib.hid (HP.out.call hO)
          clear HP hO
          refine hK.out _ _ ?_ (fun hHeld => ?_)
          · first | exact HLD.out _ HP.out.bel | exact HLD.out _ HC.out.bel | exact HLD.out _ HD.out.bel
          clear hK K
          try simp only [Act.put, List.setIfInBounds_toArray, List.set_cons_zero, List.set_cons_succ]
          refine wpAnyH_ready (rs := [7]) (by kernel_rfl) (by simp) ?_
          refine AllReadyH.cons (o := { dst := none, op := Op.store 28 (Operand.tmp 4) (Operand.tmp 24), type := 0, pos := "ref.go:86", after := #[{ on := 3, ground := Ground.data }, { on := 6, ground := Ground.chain }, { on := 0, ground := Ground.phase }, { on := 1, ground := Ground.phase }, { on := 2, ground := Ground.phase }, { on := 3, ground := Ground.phase }, { on := 4, ground := Ground.textOnly Departure.lateStores }, { on := 5, ground := Ground.textOnly Departure.lateStores }, { on := 6, ground := Ground.textOnly Departure.lateStoresUnsure }], guard := none }) rfl (fun K hK => ?_) ?_
          · clear hHeld
            obtain ⟨w8, e1, hs⟩ := HC.out.store x
            go_simp
            have HD := Lib.hid hs
            clear hs e1 HC
            refine hK.out _ _ ?_ (fun hHeld => ?_)
            · first | exact HLD.out _ HP.out.bel | exact HLD.out _ HC.out.bel | exact HLD.out _ HD.out.bel
            clear hK K
            try simp only [Act.put, List.setIfInBounds_toArray, List.set_cons_zero, List.set_cons_succ]
            refine wpAnyH_take (i := 8) (oi := { dst := some 5, op := Op.assign (Operand.tmp 27), type := 24, pos := "ref.go:86", after := #[{ on := 6, ground := Ground.data }, { on := 7, ground := Ground.chain }, { on := 0, ground := Ground.phase }, { on := 1, ground := Ground.phase }, { on := 2, ground := Ground.phase }, { on := 3, ground := Ground.phase }, { on := 4, ground := Ground.phase }, { on := 5, ground := Ground.phase }, { on := 6, ground := Ground.phase }, { on := 7, ground := Ground.phase }], guard := none }) (v := ?v7) rfl (by kernel_rfl) (by kernel_rfl) (by kernel_rfl) (fun _ _ _ h => h) (Or.inl ⟨by rfl, ?y7⟩) hHeld ?r7
            case y7 => (intro w hSw; (try dsimp only at hSw); go_simp; try with_reducible rfl)
            try simp only [Act.put, List.setIfInBounds_toArray, List.set_cons_zero, List.set_cons_succ]
            refine wpAnyH_take (i := 9) (oi := { dst := some 6, op := Op.assign (Operand.const (Value.bool true)), type := 4, pos := "ref.go:86", after := #[{ on := 8, ground := Ground.chain }, { on := 0, ground := Ground.phase }, { on := 1, ground := Ground.phase }, { on := 2, ground := Ground.phase }, { on := 3, ground := Ground.phase }, { on := 4, ground := Ground.phase }, { on := 5, ground := Ground.phase }, { on := 6, ground := Ground.phase }, { on := 7, ground := Ground.phase }, { on := 8, ground := Ground.phase }], guard := none }) (v := ?v8) rfl (by kernel_rfl) (by kernel_rfl) (by kernel_rfl) (fun _ _ _ h => h) (Or.inl ⟨by rfl, ?y8⟩) hHeld ?r8
            case y8 => (intro w hSw; (try dsimp only at hSw); go_simp; try with_reducible rfl)
            try simp only [Act.put, List.setIfInBounds_toArray, List.set_cons_zero, List.set_cons_succ]
            refine wpAnyH_done (by kernel_rfl) ?_ _
            go_wp2_with fail
            exact ret_it3 Try.results19 rfl rfl rfl HD.out.bx rfl (by rw [HZ1.out, HZ2.out, HZ3.out]; exact ⟨v', rfl, HD.out.own.ends⟩)
          exact AllReadyH.nil
        exact AllReadyH.nil
      · have HZ := Lib.hid (HX.out (by rw [HIT.out, beq_eq_false_iff_ne]; exact ht))
        have ht' : (x.to == a) = false := by rw [beq_eq_false_iff_ne]; exact ht
        go_wp2
        go_roundw
        case rel => exact ⟨i + 1, by go_num, HLT.out, HZ, by first | rfl | trivial⟩
        case measure => have := HLT.out; simp [intOf]; omega
    · obtain rfl : i = n := by omega
      have hfl : ¬ fidx (isTo a) l < l.length := by rw [fidx_all (P := isTo a) (fun j hj => HA.out j hj (by have := HN.out; omega))]; omega
      have HZ1 : Hid (popI a l = zit) := if_neg hfl
      have HZ2 : Hid (popL a l = l) := if_neg hfl
      have HZ3 : Hid (popB a l = false) := decide_eq_false hfl
      obtain ⟨w2, e2, hb2, hbel⟩ : ∃ w2, (Ix_.StoreF ⟨w.heap.size, 0, none⟩ (Ix_.v zit)).run Try.prog w1 = .ok () w2 ∧ Ix_.Box w2 w.heap.size zit ∧ Below w.heap.size w w2 := ⟨_, HP0.out.rs.storeF zit, HP0.out.rs.setRow zit, below_row23 HP0.out.bel (Nat.le_refl _) _⟩
      have e2' : (Ix_.StoreF ⟨w.heap.size, 0, none⟩ (.agg #[.int .i64 0, .int .i64 0, .int .u64 0, .int .u64 0, .string ⟨#[]⟩, .int .i64 0, .int .i64 0])).run Try.prog w1 = .ok () w2 := e2
      have HB2 := Lib.hid hb2
      have HE2 := Lib.hid hbel
      have HE : Hid (LiesI w w2 (.slice sa i c) l) := ⟨⟨sa, c, by rw [HN.out], HS.out.below HE2.out⟩, HE2.out⟩
      clear hb2 hbel e2 hfl
      go_wp2
      exact ret_it3 Try.results19 rfl rfl rfl HB2.out rfl (by rw [HZ1.out, HZ2.out, HZ3.out]; exact ⟨_, rfl, HE.out⟩)
end Go.Proofs.Ytaljdjabppiglaa
