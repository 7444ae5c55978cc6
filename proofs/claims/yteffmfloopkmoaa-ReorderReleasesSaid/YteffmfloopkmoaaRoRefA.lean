/-
  WALKS of the reference of layer 20: has, insert.
-/
import Derived.Test.YteffmfloopkmoaaRoApp
namespace Go.Proofs.Yteffmfloopkmoaa
open Go.RowKit Go.Ro Go.Sq Go.Wr
attribute [local go_sem ↓ high] Rw_.loadF Rw_.storeF Rw_.v_cells Rw_.v_match
attribute [local go_sem] Rw_.C0 Rw_.C1 Rw_.C2 Rw_.loadF_new Rw_.storeF_zero Oper.semAt_some

theorem any_no20 {l : List Hd} {i : Nat} (h : i < l.length) {p : Hd → Bool} (hp : p l[i] = true) : l.any p = true := by
  rw [List.any_eq_true]; exact ⟨_, List.getElem_mem h, hp⟩
theorem any_take20 {l : List Hd} {i : Nat} (h : i < l.length) (p : Hd → Bool) : (l.take (i + 1)).any p = ((l.take i).any p || p l[i]) := by
  rw [List.take_succ_eq_append_getElem h, List.any_append, List.any_cons, List.any_nil, Bool.or_false]

set_option maxRecDepth 100000 in
set_option maxHeartbeats 4000000 in
theorem r_has_any (x : Rw) (b : Bf) (q : Int) (w : World) (hL : Lies w x b) (hl : b.hs.length ≤ 1000) :
    Calls Try.prog 36 #[Rw_.v x, .int .i64 q] w fun e w' => e = .returned (.bool (has b q)) ∧ Below w.heap.size w w' := by
  obtain ⟨w1, hw1⟩ : ∃ w1, w.alloc (.cells (Rw_.C x) 25) = w1 := ⟨_, rfl⟩
  have hb : Rw_.Box w1 w.heap.size x := hw1 ▸ Rw_.Box.new w x
  have HBX := Lib.hid hb
  have B1 : Hid (Below w.heap.size w w1) := hw1 ▸ (Below.refl _ _).alloc (Nat.le_refl _) _
  obtain ⟨n, hn⟩ : ∃ n, b.hs.length = n := ⟨_, rfl⟩
  have hxn : x.n = n := hL.n.trans hn
  have hn1 : n ≤ 1000 := by omega
  have HN := Lib.hid hn
  have HL := Lib.hid hL
  have HH : Hid (has b q = b.hs.any (fun h => decide (h.q = q))) := rfl
  clear hb hL hn hl
  go_enter Try.func36, Try.ntmps36
  go_wp2
  go_loopw [5] (fun i wr => ∃ k : Nat, k ≤ n ∧ i = .int .i64 k ∧ Hid ((b.hs.take k).any (fun h => decide (h.q = q)) = false) ∧ Hid (Below w.heap.size w wr ∧ Rw_.Box wr w.heap.size x)) (fun i _ => n - (intOf i).toNat)
  case atStart => exact ⟨0, Nat.zero_le _, rfl, rfl, ⟨B1.out, HBX.out⟩⟩
  case round =>
    rename World => wr
    obtain ⟨k, hk, rfl, HA, HB⟩ := hrel
    have e1 := HB.out.2.all
    by_cases hlt : k < n
    · have hkl : k < b.hs.length := by have := HN.out; omega
      obtain ⟨b1, off, hsa, -, c0, -⟩ := (HL.out.sl.below HB.out.1).lies k hkl
      have HLT := Lib.hid hlt
      have HT := Lib.hid (any_take20 hkl (fun h => decide (h.q = q)))
      have HF := Lib.hid (fun hh => any_no20 hkl (p := fun h => decide (h.q = q)) hh)
      generalize b.hs[k] = z at *
      clear hkl
      by_cases hz : z.q = q
      · have hz' : (z.q == q) = true := by rw [beq_iff_eq]; exact hz
        have HRS := Lib.hid (HH.out.trans (HF.out (decide_eq_true hz)))
        clear hz
        go_wp2
        go_returns
        exact ⟨by rw [HRS.out]; rfl, HB.out.1⟩
      · have hz' : (z.q == q) = false := by rw [beq_eq_false_iff_ne]; exact hz
        have HRS : Hid ((b.hs.take (k + 1)).any (fun h => decide (h.q = q)) = false) := by
          show (b.hs.take (k + 1)).any (fun h => decide (h.q = q)) = false
          rw [HT.out, HA.out, decide_eq_false hz]; rfl
        go_wp2
        go_roundw
        case rel => exact ⟨k + 1, HLT.out, by go_num, HRS, HB⟩
        case measure => have := HLT.out; simp [intOf]; omega
    · obtain rfl : k = n := by omega
      have HRS : Hid (has b q = false) := by
        have h := HA.out
        rw [show b.hs.take k = b.hs by rw [← HN.out, List.take_length]] at h
        exact HH.out.trans h
      go_wp2
      go_returns
      exact ⟨by rw [HRS.out]; rfl, HB.out.1⟩

theorem own_zero20 {w : World} {base n : Nat} {v : Option Addr} {c : Nat} {l : List Hd} (h : w.ownsRow base 51 2 (.slice v (0 + n) c) (0 + n) (Hd_.flat ([] ++ l))) : w.ownsRow base 51 2 (.slice v n c) n (Hd_.flat l) := by
  rw [Nat.zero_add] at h; exact h

set_option maxRecDepth 100000 in
set_option maxHeartbeats 4000000 in
theorem r_insert_any (x : Rw) (b : Bf) (q : Int) (d : ByteArray) (w : World) (hL : Lies w x b) (ha : Asc b.st b.hs) (hl : b.hs.length ≤ 1000) :
    Calls Try.prog 38 #[Rw_.v x, .int .i64 q, .string d] w fun e w' => BfPost (ins b q d) w e w' := by
  obtain ⟨w1, hw1⟩ : ∃ w1, w.alloc (.cells (Rw_.C x) 25) = w1 := ⟨_, rfl⟩
  obtain ⟨w2, hw2⟩ : ∃ w2, w1.alloc (.cells (Rw_.C zr) 25) = w2 := ⟨_, rfl⟩
  have hw2' : w1.alloc (.cells #[.int .i64 0, .int .i64 0, .slice none 0 0] 25) = w2 := hw2
  have z1 : w1.heap.size = w.heap.size + 1 := by rw [← hw1]; simp
  have T2 := Lib.hid (Two.new hw1 hw2)
  have HI := Lib.hid (info_parts Hd_.info)
  obtain ⟨n, hn⟩ : ∃ n, b.hs.length = n := ⟨_, rfl⟩
  have hxn : x.n = n := hL.n.trans hn
  have hst := hL.st
  have hsz := hL.sz
  have hn1 : n ≤ 1000 := by omega
  have HN := Lib.hid hn
  have HL := Lib.hid hL
  have HNL : Hid (n0 b q ≤ n) := hn ▸ nb_le _ _ _
  have HLT0 : Hid (∀ i (h : i < b.hs.length), i < n0 b q → dist b.st b.hs[i].q < dist b.st q) := fun i h hi => nb_lt _ _ _ i h hi
  have HGE0 : Hid (∀ i (h : i < b.hs.length), n0 b q ≤ i → dist b.st q ≤ dist b.st b.hs[i].q) := fun i h hi => nb_ge _ _ _ ha i h hi
  have HINS : Hid ((ins b q d).hs = b.hs.take (n0 b q) ++ ⟨q, d⟩ :: b.hs.drop (n0 b q)) := rfl
  have HIL := Lib.hid (ins_len b q d)
  have CQ := Lib.hid (fun w => refDistance_any b.st q w)
  clear hL hn hl ha
  generalize n0 b q = N at *
  go_enter Try.func38, Try.ntmps38
  go_wp2
  go_loopw [7] (fun s7 wr => ∃ i : Nat, s7 = .int .i64 i ∧ Hid (i ≤ N) ∧ i ≤ n ∧ Hid (Two w x zr wr)) (fun s7 _ => n - (intOf s7).toNat)
  case atStart => exact ⟨0, rfl, Nat.zero_le _, Nat.zero_le _, T2⟩
  case round =>
    rename World => wr
    obtain ⟨i, rfl, HIN, hi, TW⟩ := hrel
    have e1 := TW.out.bx.all
    by_cases hgo : i < N
    · have hin : i < n := by have := HNL.out; omega
      have hil : i < b.hs.length := by have := HN.out; omega
      have hdd := HLT0.out i hil hgo
      obtain ⟨bb, off, hsa, -, c0, -⟩ := (HL.out.sl.below TW.out.bel).lies i hil
      generalize b.hs[i] = z at *
      have CZ := Lib.hid (fun w => refDistance_any b.st z.q w)
      generalize dist b.st z.q = D1 at *
      generalize dist b.st q = D2 at *
      have HGO := Lib.hid hgo
      clear hgo hil
      go_wp2
      go_quiet (first
        | (go_at_call 10; with_reducible exact Calls.quiet_of_same ((CZ.out _).mono fun _ _ q => ⟨q.1, q.2.symm⟩))
        | (go_at_call 10; with_reducible exact Calls.quiet_of_same ((CQ.out _).mono fun _ _ q => ⟨q.1, q.2.symm⟩)))
      go_wp2
      go_roundw
      case rel => exact ⟨i + 1, by go_num, HGO.out, hin, ⟨TW.out.bx, TW.out.rs, below_drewN20 TW.out.bel _⟩⟩
      case measure => simp [intOf]; omega
    · obtain rfl : i = N := by have := HIN.out; omega
      have hs1 := head20 x.sa n x.c i (by have := HL.out.sl.le; have := HN.out; omega) HL.out.sl.nil
      have hs2 := tail20 x.sa n x.c i hi HL.out.sl.nil (by have := HL.out.sl.le; have := HN.out; omega)
      have HT1 : Hid (∀ W, Below w.heap.size w W → Hd_.Sl W x.sa (b.hs.take i) x.c) := fun W hW => sl_take20 (HL.out.sl.below hW) i
      have HT2 : Hid (∀ W, Below w.heap.size w W → Hd_.Sl W (cut20 x.sa i x.c) (b.hs.drop i) (x.c - i)) := fun W hW => sl_drop20 (HL.out.sl.below hW) i (by have := HN.out; omega)
      have HE1 := Lib.hid (show (b.hs.take i).length = i by rw [List.length_take]; have := HN.out; omega)
      have HE2 := Lib.hid (show (b.hs.drop i).length = n - i by rw [List.length_drop]; have := HN.out; omega)
      have HM3 : Hid (i + 1 + (n - i) ≤ 3000 ∧ i + 1 ≤ 3000 ∧ 0 + i ≤ 3000) := by
        refine ⟨?_, ?_, ?_⟩ <;> omega
      have HFL : Hid ((b.hs.take i ++ [⟨q, d⟩]) ++ b.hs.drop i = (ins b q d).hs ∧ i + 1 + (n - i) = (ins b q d).hs.length) := ⟨by rw [HINS.out, List.append_assoc]; rfl, by rw [HIL.out, HN.out]; omega⟩
      have HQ : Hid (∀ h : i < n, ∃ bb off z, x.sa = some ⟨bb, off, none⟩ ∧ wr.cell? ⟨bb, off + i * 2, none⟩ = some (.int .i64 z) ∧ ¬ dist b.st z < dist b.st q) := fun h => by
        have hil : i < b.hs.length := by rw [HN.out]; exact h
        obtain ⟨bb, off, hsa, -, k0, -⟩ := (HL.out.sl.below TW.out.bel).lies i hil
        exact ⟨bb, off, _, hsa, k0, by have := HGE0.out i hil (Nat.le_refl _); omega⟩
      clear hgo
      by_cases hlt : i < n
      case' pos =>
        obtain ⟨bb, off, z, hsa, k0, hq⟩ := HQ.out hlt
        have CZ := Lib.hid (fun w => refDistance_any b.st z w)
        generalize dist b.st z = D1 at *
        generalize dist b.st q = D2 at *
        have hpc : i < x.c := by have := HL.out.sl.le; have := HN.out; omega
        have hpc' : ¬ x.c = i := by omega
        have hpc2 : i ≤ x.c := by omega
        have hcut : cut20 (some ⟨bb, off, none⟩) i x.c = some ⟨bb, off + i * 2, none⟩ := by
          unfold cut20
          rw [Option.map_some, if_neg hpc', Addr.add_lit]
        rw [hsa] at hs1 hs2 HT1 HT2
        rw [hcut] at hs2 HT2
        clear hcut hpc
        go_wp2
        go_quiet (first
          | (go_at_call 10; with_reducible exact Calls.quiet_of_same ((CZ.out _).mono fun _ _ q => ⟨q.1, q.2.symm⟩))
          | (go_at_call 10; with_reducible exact Calls.quiet_of_same ((CQ.out _).mono fun _ _ q => ⟨q.1, q.2.symm⟩)))
      case' neg =>
        go_wp2
        go_quiet (fail)
      all_goals
        rename_i nq
        have T3 : Hid (Two w x zr (wr.drewN nq)) := ⟨TW.out.bx, TW.out.rs, below_drewN20 TW.out.bel _⟩
        go_wp2_with (first
          | (at_builtin; refine wpList_appHd _ rfl _ _ rfl (w.heap.size + 2) _ 0 [] rfl (World.ownsRow_nil _ _ _ _) _ i _ (b.hs.take i) rfl HE1.out (HT1.out _ T3.out.bel) HM3.out.2.2 T3.out.size ?_; intro v1 c1 w4 h1 h2; have O4 := Lib.hid (own_zero20 h1); have T4 := Lib.hid (T3.out.keep h2 (Nat.le_refl _)); have e4 := T4.out.bx.all; clear h1 h2)
          | (at_builtin; refine wpList_appHd _ rfl _ _ rfl (w.heap.size + 2) _ i (b.hs.take i) rfl (O4.out.alloc _) _ 1 _ [Hd.mk q d] rfl rfl (Hd_.sl_lit w4 [⟨q, d⟩] (show 1 ≤ maxLen by unfold maxLen; decide)) HM3.out.2.1 (by have := T4.out.size; simp; omega) ?_; intro v2 c2 w5 h1 h2; have O5 := Lib.hid h1; have T5 := Lib.hid (T4.out.keep (((Below.refl _ w4).alloc T4.out.size _).trans h2) (Nat.le_refl _)); have e5 := T5.out.bx.all; clear h1 h2)
          | (at_builtin; refine wpList_appHd _ rfl _ _ rfl (w.heap.size + 2) _ (i + 1) (b.hs.take i ++ [Hd.mk q d]) rfl O5.out _ (n - i) _ (b.hs.drop i) rfl HE2.out (HT2.out _ T5.out.bel) HM3.out.1 T5.out.size ?_; intro v3 c3 w6 h1 h2; have O6 := Lib.hid h1; have T6 := Lib.hid (T5.out.keep h2 (Nat.le_refl _)); have e6 := T6.out.bx.all; have st6 : (Rw_.StoreF ⟨w.heap.size + 1, 0, none⟩ (.agg #[.int .i64 b.st, .int .i64 b.sz, .slice v3 (i + 1 + (n - i)) c3])).run Try.prog w6 = .ok () (w6.setRow (w.heap.size + 1) (Rw_.C ⟨b.st, b.sz, v3, i + 1 + (n - i), c3⟩)) := T6.out.rs.storeF ⟨b.st, b.sz, v3, i + 1 + (n - i), c3⟩; clear h1 h2))
        have X := Lib.hid (T6.out.setY ⟨b.st, b.sz, v3, i + 1 + (n - i), c3⟩)
        have F : Hid (BfPost (ins b q d) w (.returned (Rw_.v ⟨b.st, b.sz, v3, i + 1 + (n - i), c3⟩)) (w6.setRow (w.heap.size + 1) (Rw_.C ⟨b.st, b.sz, v3, i + 1 + (n - i), c3⟩))) := by
          have hO := O6.out
          rw [HFL.out.1] at hO
          rw [HFL.out.2] at hO ⊢
          exact ⟨_, rfl, lies_row ⟨rfl, rfl, rfl, Hd_.sl_owns hO⟩ (fun bb off e => by subst e; have := (hO.lt bb rfl).1; omega), (T6.out.setY _).bel, fun bb off e => by subst e; have := (hO.lt bb rfl).1; omega⟩
        exact ret_rw1 Try.results38 rfl X.out.rs rfl F.out
end Go.Proofs.Yteffmfloopkmoaa
