/-
  WALKS of package queue: separate, Expire, Purge, Count.
-/
import Derived.Test.YtaljdjabppiglaaQuChk
import Derived.Maps.AppendAt
namespace Go.Proofs.Ytaljdjabppiglaa
open Go.RowKit Go.Qu Go.Wr Go.Ad
attribute [local go_sem ↓ high] Ix_.loadF Ix_.storeF Ix_.v_cells Ix_.v_match
attribute [local go_sem] Ix_.C0 Ix_.C1 Ix_.C2 Ix_.C3 Ix_.C4 Ix_.C5 Ix_.C6 Ix_.loadF_new Ix_.storeF_zero Oper.semAt_some fold_c Ix_.Csize

theorem owns_below23 {w w' : World} {base size n : Nat} {e : TypeId} {v : Value} {xs : List Value} (h : w.ownsRow base e size v n xs) (hb : Below w.heap.size w w') : w'.ownsRow base e size v n xs := by
  obtain ⟨h0, h1 | ⟨g, cap, cur, h1, h2, h3, h4⟩⟩ := h
  · exact ⟨h0, .inl h1⟩
  · exact ⟨h0, .inr ⟨g, cap, cur, h1, h2, (hb.block g (Array.getElem?_eq_some_iff.1 h3).1).trans h3, h4⟩⟩
theorem owns_up23 {w : World} {base C size n : Nat} {e : TypeId} {v : Value} {xs : List Value} (h : w.ownsRow base e size v n xs) (hC : C ≤ base) : w.ownsRow C e size v n xs := by
  obtain ⟨h0, h1 | ⟨g, cap, cur, h1, h2, h3⟩⟩ := h
  · exact ⟨h0, .inl h1⟩
  · exact ⟨h0, .inr ⟨g, cap, cur, h1, by omega, h3⟩⟩
theorem owns_grown23 {w w' : World} {base size n : Nat} {e : TypeId} {u : Value} {xs : List Value} {o : Option Nat} (h : w.ownsRow base e size u n xs) (hg : w.grownBy w' o) (hne : ∀ g, o = some g → u.ownBlock ≠ some g) : w'.ownsRow base e size u n xs := by
  obtain ⟨h0, h1 | ⟨g, cap, cur, rfl, h2, h3, h4⟩⟩ := h
  · exact ⟨h0, .inl h1⟩
  · exact ⟨h0, .inr ⟨g, cap, cur, rfl, h2, (hg.block g (Array.getElem?_eq_some_iff.1 h3).1 (fun e => hne g e.symm rfl)).trans h3, h4⟩⟩
theorem owns_blk23 {w : World} {base size n : Nat} {e : TypeId} {u : Value} {xs : List Value} (h : w.ownsRow base e size u n xs) {g : Nat} (hg : u.ownBlock = some g) : base ≤ g ∧ g < w.heap.size := by
  obtain ⟨h0, ⟨rfl, -⟩ | ⟨g', cap, cur, rfl, h2, h3, h4⟩⟩ := h
  · cases hg
  · cases hg; exact ⟨h2, (Array.getElem?_eq_some_iff.1 h3).1⟩

/-- Two lists of items, each in a row of its own. -/
structure Tw (w : World) (v u : Value) (l m : List It) (wi : World) : Prop where
  a : wi.ownsRow w.heap.size 28 7 v l.length (It_.flat l)
  b : wi.ownsRow w.heap.size 28 7 u m.length (It_.flat m)
  ne : ∀ g, v.ownBlock = some g → u.ownBlock ≠ some g
  bel : Below w.heap.size w wi
theorem Tw.nil (w : World) : Tw w (.slice none 0 0) (.slice none 0 0) [] [] w := ⟨World.ownsRow_nil _ _ _ _, World.ownsRow_nil _ _ _ _, fun _ h => (nomatch h), Below.refl _ _⟩
theorem Tw.keep {w wi wj : World} {v u : Value} {l m : List It} (h : Tw w v u l m wi) (hb : Below wi.heap.size wi wj) : Tw w v u l m wj := ⟨owns_below23 h.a hb, owns_below23 h.b hb, h.ne, h.bel.trans (hb.mono h.bel.size)⟩
theorem Tw.alloc {w wi : World} {v u : Value} {l m : List It} (h : Tw w v u l m wi) (o : Obj) : Tw w v u l m (wi.alloc o) := h.keep ((Below.refl _ _).alloc (Nat.le_refl _) o)
theorem Tw.up {w w1 wi : World} {v u : Value} {l m : List It} (h : Tw w1 v u l m wi) (hb : Below w.heap.size w w1) : Tw w v u l m wi := ⟨owns_up23 h.a hb.size, owns_up23 h.b hb.size, h.ne, hb.trans (h.bel.mono hb.size)⟩
theorem Tw.swap {w wi : World} {v u : Value} {l m : List It} (h : Tw w v u l m wi) : Tw w u v m l wi := ⟨h.b, h.a, fun g hu hv => h.ne g hv hu, h.bel⟩
theorem Tw.app {w wi wj : World} {v u v4 : Value} {l m : List It} {x : It} (h : Tw w v u l m wi) (ho : wj.ownsRow w.heap.size 28 7 v4 (l.length + 1) (It_.flat l ++ It_.cs x)) (hg : wi.grownBy wj v.ownBlock) (hat : v4.ownBlock = v.ownBlock ∨ v4.ownBlock = some wi.heap.size) : Tw w v4 u (l ++ [x]) m wj := by
  refine ⟨?_, owns_grown23 h.b hg h.ne, fun g hv hu => ?_, h.bel.grown hg h.bel.size (fun k hk => (owns_blk23 h.a hk).1)⟩
  · rw [It_.flat_snoc, List.length_append]; exact ho
  · rcases hat with e | e
    · exact h.ne g (e ▸ hv) hu
    · have := (owns_blk23 h.b hu).2
      rw [e] at hv; cases hv; omega
theorem one_news (w : World) (x : It) : ∀ j u, (It_.cs x)[j]? = some u → (w.alloc (.cells (Ix_.C x) 28)).cell? ((⟨w.heap.size, 0, none⟩ : Addr).add j) = some u := by
  intro j u hj
  have e : (⟨w.heap.size, 0, none⟩ : Addr).add j = ⟨w.heap.size, j, none⟩ := by unfold Addr.add; split <;> simp_all
  rw [e, (Ix_.Box.new w x).all j]
  rw [← hj]
  show (Ix_.C x)[j]? = (Ix_.C x).toList[j]?
  simp

set_option maxRecDepth 100000 in
set_option maxHeartbeats 2000000 in
theorem qu_sep_any (S : World → Prop) (F : FuncId) (caps : Array Value) (P : It → Bool) (D : It → Prop) (T : TellsI S F caps P D) (sa : Option Addr) (l : List It) (c : Nat) (w : World) (hk : ∀ W, Below w.heap.size w W → S W) (hd : ∀ p ∈ l, D p) (hS : It_.Sl w sa l c) (hl : l.length ≤ 1000) :
    Calls Try.prog 35 #[.slice sa l.length c, .func (.func F) #[] caps] w fun e w' => ∃ v u, e = .returned (.tuple #[v, u]) ∧ Tw w v u (l.filter (neg P)) (l.filter P) w' := by
  have HI := Lib.hid (info_parts It_.info)
  have HS := Lib.hid hS
  have HL := Lib.hid hl
  have CK := Lib.hid T.call
  have HD := Lib.hid hd
  have eg := T.go
  have HK := Lib.hid hk
  clear hS hl T hk hd
  generalize hn : l.length = n at *
  have HN := Lib.hid hn
  clear hn
  go_enter Try.func35, Try.ntmps35
  go_wp2
  go_loopw [4, 5, 10] (fun v u z wr => ∃ i : Nat, z = .int .i64 i ∧ i ≤ n ∧ Hid (Tw w v u ((l.take i).filter (neg P)) ((l.take i).filter P) wr)) (fun _ _ z _ => n - (intOf z).toNat)
  case atStart => exact ⟨0, rfl, Nat.zero_le _, Tw.nil w⟩
  case round =>
    rename World => wr
    obtain ⟨i, rfl, hi, HO⟩ := hrel
    by_cases hlt : i < n
    · have hil : i < l.length := by have := HN.out; omega
      have hlt' : (i : Int) < (n : Int) := by omega
      have i0 : (0 : Int) ≤ (i : Int) := by omega
      obtain ⟨b, off, hsa, hbl, -⟩ := HS.out.lies i hil
      have ld := it_load (HS.out.lies.below HO.out.bel) hil hsa
      subst hsa
      have HT1 := Lib.hid (filter_takeI (P := P) hil)
      have HT2 := Lib.hid (filter_takeI (P := neg P) hil)
      have HL1 : Hid (((l.take i).filter P).length ≤ 1000) := by
        show ((l.take i).filter P).length ≤ 1000
        have := List.length_filter_le P (l.take i)
        have := HN.out; have := HL.out
        rw [List.length_take] at *; omega
      have HL2 : Hid (((l.take i).filter (neg P)).length ≤ 1000) := by
        show ((l.take i).filter (neg P)).length ≤ 1000
        have := List.length_filter_le (neg P) (l.take i)
        have := HN.out; have := HL.out
        rw [List.length_take] at *; omega
      have HDx := Lib.hid (HD.out _ (List.getElem_mem hil))
      generalize l[i] = h at *
      generalize (l.take i).filter P = L1 at *
      generalize (l.take i).filter (neg P) = L2 at *
      obtain ⟨w1, hw1⟩ : ∃ w1, wr.alloc (.cells (Ix_.C h) 28) = w1 := ⟨_, rfl⟩
      have hz := Ix_.storeF_zero wr h
      rw [hw1] at hz
      have b1 : Below wr.heap.size wr w1 := hw1 ▸ (Below.refl _ _).alloc (Nat.le_refl _) _
      have X1 := Lib.hid (show Ix_.Box w1 wr.heap.size h from hw1 ▸ Ix_.Box.new wr h)
      have lx := X1.out.loadF
      have HO1 := Lib.hid (HO.out.keep b1)
      have CH := Lib.hid (CK.out h w1 HDx.out (HK.out w1 HO1.out.bel))
      have HNG : Hid (neg P h = !P h) := rfl
      have hi1 : i ≤ 1000 := by have := HL.out; omega
      have HLT := Lib.hid hlt
      clear hbl hil b1 hw1 hlt HO
      generalize neg P h = np at *
      generalize P h = p at *
      cases p
      · have HT3 := Lib.hid (show (l.take (i + 1)).filter (neg P) = L2 ++ [h] by rw [HT2.out, HNG.out]; rfl)
        have HT4 := Lib.hid (show (l.take (i + 1)).filter P = L1 by rw [HT1.out]; simp)
        clear HT1 HT2 HNG
        go_wp2_with (first
          | (go_at_fn F; refine CH.out.mono ?_; rintro e w2 ⟨rfl, hw2⟩; have HO2 := Lib.hid (HO1.out.keep hw2); have l2 := (X1.out.below hw2 X1.out.lt).loadF; clear hw2)
          | (at_builtin; obtain ⟨i0, hi0, hz0, hz1, hz2⟩ := HI.out; refine wpList_append_own_at _ rfl _ _ 24 rfl w.heap.size 28 i0 (.agg #[.int .i64 0, .int .i64 0, .int .u64 0, .int .u64 0, .string ⟨#[]⟩, .int .i64 0, .int .i64 0]) 7 64 Try.underlying24 hi0 hz0 hz1 hz2 rfl (by decide) _ _ _ rfl (HO2.out.a.alloc _) ⟨w2.heap.size, 0, none⟩ 1 1 (It_.cs h) rfl rfl ?c1 ?c2 ?c3 ?c4 ?c5 ?_))
        case c1 => exact one_news w2 h
        case c2 => exact It_.flat_one h
        case c3 => have := HL2.out; unfold maxLen; omega
        case c4 => have := HL2.out; omega
        case c5 => have := HO2.out.bel.size; simp; omega
        intro v4 w4 hown4 hgrow _ hat
        have R := Lib.hid (Tw.app (HO2.out.alloc _) hown4 hgrow (by simpa using hat))
        clear hown4 hgrow hat hi0 hz0 hz1 hz2
        go_wp2
        go_roundw
        case rel => exact ⟨i + 1, by go_num, HLT.out, by rw [HT3.out, HT4.out]; exact R⟩
        case measure => have := HLT.out; simp [intOf]; omega
      · have HT3 := Lib.hid (show (l.take (i + 1)).filter (neg P) = L2 by rw [HT2.out, HNG.out]; simp)
        have HT4 := Lib.hid (show (l.take (i + 1)).filter P = L1 ++ [h] by rw [HT1.out]; simp)
        clear HT1 HT2 HNG
        go_wp2_with (first
          | (go_at_fn F; refine CH.out.mono ?_; rintro e w2 ⟨rfl, hw2⟩; have HO2 := Lib.hid (HO1.out.keep hw2); have l2 := (X1.out.below hw2 X1.out.lt).loadF; clear hw2)
          | (at_builtin; obtain ⟨i0, hi0, hz0, hz1, hz2⟩ := HI.out; refine wpList_append_own_at _ rfl _ _ 24 rfl w.heap.size 28 i0 (.agg #[.int .i64 0, .int .i64 0, .int .u64 0, .int .u64 0, .string ⟨#[]⟩, .int .i64 0, .int .i64 0]) 7 64 Try.underlying24 hi0 hz0 hz1 hz2 rfl (by decide) _ _ _ rfl (HO2.out.b.alloc _) ⟨w2.heap.size, 0, none⟩ 1 1 (It_.cs h) rfl rfl ?c1 ?c2 ?c3 ?c4 ?c5 ?_))
        case c1 => exact one_news w2 h
        case c2 => exact It_.flat_one h
        case c3 => have := HL1.out; unfold maxLen; omega
        case c4 => have := HL1.out; omega
        case c5 => have := HO2.out.bel.size; simp; omega
        intro v4 w4 hown4 hgrow _ hat
        have R := Lib.hid (Tw.app (HO2.out.swap.alloc _) hown4 hgrow (by simpa using hat)).swap
        clear hown4 hgrow hat hi0 hz0 hz1 hz2
        go_wp2
        go_roundw
        case rel => exact ⟨i + 1, by go_num, HLT.out, by rw [HT3.out, HT4.out]; exact R⟩
        case measure => have := HLT.out; simp [intOf]; omega
    · obtain rfl : i = n := by omega
      rw [show l.take i = l by rw [← HN.out, List.take_length]] at HO
      go_wp2
      go_returns
      exact ⟨_, _, rfl, HO.out⟩

set_option maxRecDepth 100000 in
set_option maxHeartbeats 1000000 in
theorem qu_expire_any (sa : Option Addr) (l : List It) (c : Nat) (now : Int) (w : World) (hd : ∀ p ∈ l, Wf p) (h0 : -9223372036854775808 ≤ now) (h1 : now ≤ 9223372036854775807) (hS : It_.Sl w sa l c) (hl : l.length ≤ 1000) :
    Calls Try.prog 10 #[.slice sa l.length c, .int .i64 now] w fun e w' => ∃ v u, e = .returned (.tuple #[v, u]) ∧ Tw w v u (l.filter (neg (exps now))) (l.filter (exps now)) w' := by
  obtain ⟨w1, hw1⟩ : ∃ w1, w.alloc (.cells #[.int .i64 now] 3) = w1 := ⟨_, rfl⟩
  have B1 : Hid (Below w.heap.size w w1) := hw1 ▸ (Below.refl _ _).alloc (Nat.le_refl _) _
  have N1 := Lib.hid (hw1 ▸ Nc.new w (.int .i64 now) 3)
  have CS := Lib.hid (qu_sep_any (Nc w.heap.size (.int .i64 now)) 36 #[.pointer (some ⟨w.heap.size, 0, none⟩)] (exps now) Wf (isOld_tells now w.heap.size h0 h1) sa l c w1 (fun W hW => N1.out.keep hW) hd (hS.below B1.out) hl)
  clear hd hS hl
  go_enter Try.func10, Try.ntmps10
  go_wp2_with (go_at_call 35; refine CS.out.mono ?_; rintro e w2 ⟨v, u, rfl, hT⟩; have HT := Lib.hid (hT.up B1.out); clear hT)
  go_returns
  exact ⟨v, u, rfl, HT.out⟩
set_option maxRecDepth 100000 in
set_option maxHeartbeats 1000000 in
theorem qu_purge_any (sa : Option Addr) (l : List It) (c : Nat) (a : Int) (w : World) (hS : It_.Sl w sa l c) (hl : l.length ≤ 1000) :
    Calls Try.prog 11 #[.slice sa l.length c, .int .u64 a] w fun e w' => ∃ v u, e = .returned (.tuple #[v, u]) ∧ Tw w v u (l.filter (neg (isTo a))) (l.filter (isTo a)) w' := by
  have CM := Lib.hid (mkFor_any a w)
  have CS := Lib.hid (fun b w1 (hN : Nc b (.int .u64 a) w1) (hb : Below w.heap.size w w1) => qu_sep_any (Nc b (.int .u64 a)) 49 #[.pointer (some ⟨b, 0, none⟩)] (isTo a) (fun _ => True) (isFor_tells a b) sa l c w1 (fun W hW => hN.keep hW) (fun _ _ => trivial) (hS.below hb) hl)
  clear hS hl
  go_enter Try.func11, Try.ntmps11
  go_wp2_with (first
    | (go_at_call 33; refine CM.out.mono ?_; rintro e w1 ⟨b, rfl, hN, hb⟩; have N1 := Lib.hid hN; have B1 := Lib.hid hb; clear hN hb)
    | (go_at_call 35; refine (CS.out b w1 N1.out B1.out).mono ?_; rintro e w2 ⟨v, u, rfl, hT⟩; have HT := Lib.hid (hT.up B1.out); clear hT))
  go_returns
  exact ⟨v, u, rfl, HT.out⟩

def cntTo (l : List It) (a : Int) (i : Nat) : Nat := ((l.take i).filter (isTo a)).length
theorem cntTo_le (l : List It) (a : Int) (i : Nat) : cntTo l a i ≤ l.length := by
  have h1 := List.length_filter_le (isTo a) (l.take i)
  unfold cntTo
  rw [List.length_take] at h1; omega
set_option maxRecDepth 100000 in
set_option maxHeartbeats 4000000 in
theorem qu_count_any (sa : Option Addr) (l : List It) (c : Nat) (a : Int) (w : World) (hS : It_.Sl w sa l c) (hl : l.length ≤ 1000) :
    Calls Try.prog 24 #[.slice sa l.length c, .int .u64 a] w fun e w' => e = .returned (.int .i64 (l.filter (isTo a)).length) ∧ Below w.heap.size w w' := by
  have HS := Lib.hid hS
  have HL := Lib.hid hl
  clear hS hl
  generalize hn : l.length = n at *
  have HN := Lib.hid hn
  clear hn
  go_enter Try.func24, Try.ntmps24
  go_wp2
  go_loopw [5, 10] (fun v z wr => ∃ i : Nat, z = .int .i64 i ∧ v = .int .i64 (cntTo l a i) ∧ i ≤ n ∧ Hid (Below w.heap.size w wr)) (fun _ z _ => n - (intOf z).toNat)
  case atStart => exact ⟨0, rfl, rfl, Nat.zero_le _, Below.refl _ _⟩
  case round =>
    rename World => wr
    obtain ⟨i, rfl, rfl, hi, HB⟩ := hrel
    by_cases hlt : i < n
    · have hil : i < l.length := by have := HN.out; omega
      have hlt' : (i : Int) < (n : Int) := by omega
      have i0 : (0 : Int) ≤ (i : Int) := by omega
      obtain ⟨b, off, hsa, hbl, -⟩ := HS.out.lies i hil
      have ld := it_load (HS.out.lies.below HB.out) hil hsa
      subst hsa
      have HT1 := Lib.hid (show cntTo l a (i + 1) = cntTo l a i + (if isTo a l[i] then 1 else 0) by
        unfold cntTo
        rw [filter_takeI (P := isTo a) hil, List.length_append]
        split <;> rfl)
      have hc : cntTo l a i ≤ 1000 := Nat.le_trans (cntTo_le l a i) (by have := HN.out; have := HL.out; omega)
      generalize l[i] = h at *
      obtain ⟨w1, hw1⟩ : ∃ w1, wr.alloc (.cells (Ix_.C h) 28) = w1 := ⟨_, rfl⟩
      have hz := Ix_.storeF_zero wr h
      rw [hw1] at hz
      have b1 : Below wr.heap.size wr w1 := hw1 ▸ (Below.refl _ _).alloc (Nat.le_refl _) _
      have e1 := (show Ix_.Box w1 wr.heap.size h from hw1 ▸ Ix_.Box.new wr h).all
      have HB1 := Lib.hid (HB.out.trans (b1.mono HB.out.size))
      have HIT : Hid (isTo a h = (h.to == a)) := rfl
      have hi1 : i ≤ 1000 := by have := HL.out; omega
      have HLT := Lib.hid hlt
      generalize hC : cntTo l a i = C at *
      clear hbl hil b1 hw1 hlt HB
      by_cases ht : h.to = a
      · have HT3 := Lib.hid (show cntTo l a (i + 1) = C + 1 by rw [HT1.out, HIT.out, ht]; simp)
        clear HT1 HIT
        go_wp2
        go_roundw
        case rel => exact ⟨i + 1, by go_num, by rw [HT3.out]; go_num, HLT.out, HB1⟩
        case measure => have := HLT.out; simp [intOf]; omega
      · have ht' : (h.to == a) = false := by rw [beq_eq_false_iff_ne]; exact ht
        have HT3 := Lib.hid (show cntTo l a (i + 1) = C by rw [HT1.out, HIT.out, ht']; simp)
        clear HT1 HIT
        go_wp2
        go_roundw
        case rel => exact ⟨i + 1, by go_num, by rw [HT3.out], HLT.out, HB1⟩
        case measure => have := HLT.out; simp [intOf]; omega
    · obtain rfl : i = n := by omega
      have HE : Hid (cntTo l a i = (l.filter (isTo a)).length) := by show _ = _; unfold cntTo; rw [show l.take i = l by rw [← HN.out, List.take_length]]
      generalize cntTo l a i = C at *
      go_wp2
      go_returns
      exact ⟨by rw [← HE.out]; rfl, HB.out⟩
end Go.Proofs.Ytaljdjabppiglaa
