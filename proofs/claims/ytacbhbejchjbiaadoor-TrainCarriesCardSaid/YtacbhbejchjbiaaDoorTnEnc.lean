/-
  WALKS of package train: delimiter, join, Encode.
-/
import Derived.Test.YtacbhbejchjbiaaDoorTnProg
import Derived.Lib.AppendStr
namespace Go.Proofs.YtacbhbejchjbiaaDoor
open Go.RowKit Go.Tn Go.Wr Go.Ck

theorem zslice17 (n : Nat) (h : n < 4) (W : World) : (Instr.slice 9 (.string ⟨#[0, 0, 0]⟩) none (some (.int .i64 (n : Int))) none).run Tryd.prog W = .ok (.string ⟨(zs n).toArray⟩) W := by
  rw [run_slice_string_h W 9 ⟨#[0, 0, 0]⟩ Tryd.underlying9 .i64 (n : Int) (by omega) (by rw [show (⟨#[0, 0, 0]⟩ : ByteArray).size = 3 from rfl]; omega)]
  congr 2
  have key : ∀ m : Fin 4, ((⟨#[0, 0, 0]⟩ : ByteArray).extract 0 m.val).data.toList = zs m.val := by decide
  rw [Int.toNat_natCast]
  have k := key ⟨n, h⟩
  simp only at k
  rw [← k]

theorem wr_new17 (w : World) : Wr (w.alloc (.cells #[.int .i64 0, .pointer none, .string ⟨#[]⟩] 50)) w.heap.size [] := ⟨none, ⟨#[]⟩, [], Blk.new _ _ _ _ rfl, .nil, rfl⟩
/-- A Writer, all else as it was. -/
structure Ws (w : World) (L : List UInt8) (wi : World) : Prop where
  wr : Wr wi w.heap.size L
  bel : Below w.heap.size w wi
theorem Ws.put {w wi w' : World} {L L' : List UInt8} (h : Ws w L wi) (h1 : Wr w' w.heap.size L') (h2 : But w.heap.size wi w') : Ws w L' w' := ⟨h1, h.bel.trans (h2.below h.bel.size (Nat.le_refl _))⟩
theorem Ws.keep {w wi w' : World} {L : List UInt8} (h : Ws w L wi) (hb : Below wi.heap.size wi w') : Ws w L w' := ⟨h.wr.below hb, h.bel.trans (hb.mono h.bel.size)⟩
theorem Ws.new (w : World) : Ws w [] (w.alloc (.cells #[.int .i64 0, .pointer none, .string ⟨#[]⟩] 50)) := ⟨wr_new17 w, (Below.refl _ _).alloc (Nat.le_refl _) _⟩
theorem wrap_sum (q : Nat) (z : Int) (h1 : q ≤ 1000000) (h2 : 1 ≤ z) (h3 : z ≤ 2300) : wrap64 ((q : Int) + 4) = q + 4 ∧ wrap64 ((q : Int) + 4 + z) = q + 4 + z := ⟨IntWalk.wrap64_in _ (by omega), IntWalk.wrap64_in _ (by omega)⟩
theorem wrap_dif (q m : Nat) (h1 : q ≤ 1000000) (h2 : m ≤ q) : wrap64 ((q : Int) - m) = (q : Int) - m ∧ ((q - m : Nat) : Int) = (q : Int) - m := ⟨IntWalk.wrap64_in _ (by omega), by omega⟩
theorem up_small {m q : Nat} (h : m ≤ 147648) (h2 : q < m + 4) : q ≤ 1000000 := by omega
theorem le_one {c : Nat} (h : c < 256) : le c 1 = [UInt8.ofNat c] := by
  show [] ++ [UInt8.ofNat (c / pow 0 % 256)] = _
  rw [pow_zero, Nat.div_one, Nat.mod_eq_of_lt h]; rfl
theorem crc8_lt (l : List UInt8) : crc8 l < 256 := by unfold crc8; have := reg8_lt (show 255 < 256 by decide) l; omega
theorem del_eq (n : Nat) : le n 2 ++ le (crc8 (le n 2)) 1 ++ le 78 1 = del n := by
  unfold del
  rw [le_one (crc8_lt _), le_one (by decide), List.append_assoc]; rfl

set_option maxRecDepth 100000 in
set_option maxHeartbeats 4000000 in
theorem tnDel_any (n : Nat) (w : World) (hn : n < 65536) (ht : TnTab w) :
    Calls Tryd.prog 39 #[.int .i64 (n : Int)] w fun e w' => e = .returned (.string ⟨(del n).toArray⟩) ∧ Below w.heap.size w w' := by
  have HT := Lib.hid ht
  have S0 := Lib.hid (Ws.new w)
  have hln : (le n 2).length = 2 := le_len _ _
  have hc := crc8_lt (le n 2)
  have C1 : Hid (∀ wi, Ws w [] wi → Calls Tryd.prog 32 #[.pointer (some ⟨w.heap.size, 0, none⟩), .int .i64 (n : Int), .int .i64 2] wi fun e w' => e = .returned (.tuple #[]) ∧ Ws w (le n 2) w') := fun wi h1 => by
    have c := put_ok _ [] n 2 wi h1.wr (by decide) (by decide) (by rw [show pow 2 = 65536 from by decide]; exact hn) (by simp)
    exact c.mono fun _ _ q => ⟨q.1, h1.put q.2.1 q.2.2⟩
  have C2 : Hid (∀ wi, Ws w (le n 2) wi → Calls Tryd.prog 13 #[.pointer (some ⟨w.heap.size, 0, none⟩)] wi fun e w' => e = .returned (.tuple #[.string ⟨(le n 2).toArray⟩, .int .i64 0]) ∧ Ws w (le n 2) w') := fun wi h1 => by
    have c := done_ok _ (le n 2) wi h1.wr (by rw [hln]; decide)
    exact c.mono fun _ _ q => ⟨q.1, h1.keep q.2⟩
  have C3 : Hid (∀ wi, Ws w (le n 2) wi → Calls Tryd.prog 41 #[.string ⟨(le n 2).toArray⟩] wi fun e w' => e = .returned (.int .u8 (crc8 (le n 2) : Int)) ∧ wi = w') := fun wi h1 => by
    exact sum8_any ⟨(le n 2).toArray⟩ wi (by show (le n 2).toArray.size ≤ _; rw [List.size_toArray, hln]; decide) (HT.out.bel h1.bel).t8
  have C4 : Hid (∀ wi, Ws w (le n 2) wi → Calls Tryd.prog 32 #[.pointer (some ⟨w.heap.size, 0, none⟩), .int .i64 (crc8 (le n 2) : Int), .int .i64 1] wi fun e w' => e = .returned (.tuple #[]) ∧ Ws w (le n 2 ++ le (crc8 (le n 2)) 1) w') := fun wi h1 => by
    have c := put_ok _ (le n 2) (crc8 (le n 2)) 1 wi h1.wr (by decide) (by decide) (by rw [show pow 1 = 256 from by decide]; exact hc) (by rw [hln]; decide)
    exact c.mono fun _ _ q => ⟨q.1, h1.put q.2.1 q.2.2⟩
  have C5 : Hid (∀ wi, Ws w (le n 2 ++ le (crc8 (le n 2)) 1) wi → Calls Tryd.prog 32 #[.pointer (some ⟨w.heap.size, 0, none⟩), .int .i64 78, .int .i64 1] wi fun e w' => e = .returned (.tuple #[]) ∧ Ws w (del n) w') := fun wi h1 => by
    have c := put_ok _ (le n 2 ++ le (crc8 (le n 2)) 1) 78 1 wi h1.wr (by decide) (by decide) (by decide) (by rw [List.length_append, hln, le_len]; decide)
    exact c.mono fun _ _ q => ⟨q.1, h1.put (by rw [← del_eq]; exact q.2.1) q.2.2⟩
  have C6 : Hid (∀ wi, Ws w (del n) wi → Calls Tryd.prog 13 #[.pointer (some ⟨w.heap.size, 0, none⟩)] wi fun e w' => e = .returned (.tuple #[.string ⟨(del n).toArray⟩, .int .i64 0]) ∧ Ws w (del n) w') := fun wi h1 => by
    have c := done_ok _ (del n) wi h1.wr (by rw [del_len]; decide)
    exact c.mono fun _ _ q => ⟨q.1, h1.keep q.2⟩
  generalize crc8 (le n 2) = r at *
  generalize le n 2 = A at *
  generalize A ++ le r 1 = B at *
  generalize del n = D at *
  clear ht hn hln
  go_enter Tryd.func39, Tryd.ntmps39
  go_wp2_with (first
    | (go_at_call 13; with_reducible refine (C6.out _ S5.out).mono ?_; rintro e w6 ⟨rfl, h⟩; have S6 := Lib.hid h; clear h)
    | (go_at_call 32; with_reducible refine (C5.out _ S4.out).mono ?_; rintro e w5 ⟨rfl, h⟩; have S5 := Lib.hid h; clear h)
    | (go_at_call 32; with_reducible refine (C4.out _ S2.out).mono ?_; rintro e w4 ⟨rfl, h⟩; have S4 := Lib.hid h; clear h)
    | (go_at_call 41; refine (C3.out _ S2.out).mono ?_; rintro e w' ⟨rfl, rfl⟩)
    | (go_at_call 13; with_reducible refine (C2.out _ S1.out).mono ?_; rintro e w2 ⟨rfl, h⟩; have S2 := Lib.hid h; clear h)
    | (go_at_call 32; with_reducible refine (C1.out _ S0.out).mono ?_; rintro e w1 ⟨rfl, h⟩; have S1 := Lib.hid h; clear h))
  go_returns
  exact ⟨rfl, S6.out.bel⟩

set_option maxRecDepth 100000 in
set_option maxHeartbeats 4000000 in
theorem tnJoin_any (l : List ByteArray) (sa : Option Addr) (c : Nat) (w : World) (h : Ss_.At w sa l) (he : eE l = 0) (ht : TnTab w) :
    Calls Tryd.prog 16 #[.slice sa l.length c] w fun e w' => e = .returned (.tuple #[.string ⟨(ag 0 (fs l)).toArray⟩, .int .i64 0]) ∧ Below w.heap.size w w' := by
  have HA := Lib.hid h
  have HT := Lib.hid ht
  obtain ⟨-, h6, ha, -⟩ := mE_zero.1 he
  rw [sz_len] at h6
  have HP : Hid (∀ j (hj : j < l.length), 1 ≤ (l[j].size : Int) ∧ (l[j].size : Int) ≤ 2300) := fun j hj => pos_iff.1 (List.all_eq_true.1 ha _ (List.mem_map.2 ⟨l[j], List.getElem_mem hj, rfl⟩))
  have HL : Hid (∀ k, mL (sz (l.take k)) ≤ 147648) := fun k => by
    rw [sz_take]
    exact mL_le (fun j hj _ => List.all_eq_true.1 ha _ (List.getElem_mem hj)) (by rw [sz_len]; exact h6)
  have S0 := Lib.hid (Ws.new w)
  clear h he ha ht
  go_enter Tryd.func16, Tryd.ntmps16
  go_wp2
  go_loopw [5, 11] (fun z i wr => ∃ k : Nat, k ≤ l.length ∧ i = .int .i64 k ∧ z = .int .i64 ((mL (sz (l.take k)) : Nat) : Int) ∧ Ws w (ag 0 (fs (l.take k))) wr) (fun _ i _ => l.length - (intOf i).toNat)
  case atStart => exact ⟨0, Nat.zero_le _, rfl, rfl, S0.out⟩
  case round =>
    rename_i wr
    obtain ⟨k, hk, rfl, rfl, hs⟩ := hrel
    have HS := Lib.hid hs
    clear S0 hs
    by_cases hlt : k < l.length
    · obtain ⟨b, off, rfl, hbl, c0⟩ := HA.out.below HS.out.bel k hlt
      have HLT := Lib.hid hlt
      have HO := Lib.hid (ag_take hlt)
      have hn := HL.out k
      have hq := HP.out k hlt
      have HN : Hid (((mL (sz (l.take (k + 1))) : Nat) : Int) = (Tn.up (mL (sz (l.take k))) : Nat) + 4 + (l[k].size : Int)) := by
        rw [sz_take, sz_take]
        have := mL_take (l := sz l) (k := k) (by rw [sz_len]; exact hlt) (by unfold sz; rw [List.getElem_map]; exact pos_iff.2 hq)
        rw [this]; unfold sz; rw [List.getElem_map]; exact rfl
      have hag : (ag 0 (fs (l.take k))).length = mL (sz (l.take k)) := ag_size _
      have CU := Lib.hid fun w => tnUp_any (mL (sz (l.take k))) w (by omega)
      have CD := Lib.hid fun w h => tnDel_any l[k].size w (by omega) h
      have hge := Tn.up_ge (mL (sz (l.take k)))
      have hul := Tn.up_lt (mL (sz (l.take k)))
      have hzs := zslice17 (Tn.up (mL (sz (l.take k))) - mL (sz (l.take k))) (by omega)
      have hzl : (zs (Tn.up (mL (sz (l.take k))) - mL (sz (l.take k)))).length ≤ 4 := by rw [zs_len]; omega
      have hdl : (del l[k].size).length = 4 := del_len _
      generalize hp : l[k] = p at *
      generalize hK0 : ag 0 (fs (l.take k)) = K0 at *
      generalize mL (sz (l.take k)) = m at *
      generalize Tn.up m = q at *
      generalize zs (q - m) = Z at *
      generalize del p.size = D at *
      rw [← List.append_assoc, ← List.append_assoc] at HO
      obtain ⟨K1, hK1⟩ : ∃ K, K = K0 ++ Z := ⟨_, rfl⟩
      obtain ⟨K2, hK2⟩ : ∃ K, K = K1 ++ D := ⟨_, rfl⟩
      obtain ⟨K3, hK3⟩ : ∃ K, K = K2 ++ p.data.toList := ⟨_, rfl⟩
      rw [← hK1, ← hK2, ← hK3] at HO
      have l1 : K1.length ≤ 200000 := by rw [hK1, List.length_append]; omega
      have l2 : K2.length ≤ 300000 := by rw [hK2, List.length_append]; omega
      have C1 : Hid (∀ wi, Ws w K0 wi → Calls Tryd.prog 12 #[.pointer (some ⟨w.heap.size, 0, none⟩), .string ⟨Z.toArray⟩] wi fun e w' => e = .returned (.tuple #[]) ∧ Ws w K1 w') := fun wi h1 => by
        have c := text_ok _ K0 ⟨Z.toArray⟩ wi h1.wr (by rw [show (⟨Z.toArray⟩ : ByteArray).size = Z.length from List.size_toArray ..]; omega)
        exact c.mono fun _ _ q => ⟨q.1, h1.put (by rw [hK1]; exact q.2.1) q.2.2⟩
      have C2 : Hid (∀ wi, Ws w K1 wi → Calls Tryd.prog 12 #[.pointer (some ⟨w.heap.size, 0, none⟩), .string ⟨D.toArray⟩] wi fun e w' => e = .returned (.tuple #[]) ∧ Ws w K2 w') := fun wi h1 => by
        have c := text_ok _ K1 ⟨D.toArray⟩ wi h1.wr (by rw [show (⟨D.toArray⟩ : ByteArray).size = D.length from List.size_toArray ..]; omega)
        exact c.mono fun _ _ q => ⟨q.1, h1.put (by rw [hK2]; exact q.2.1) q.2.2⟩
      have C3 : Hid (∀ wi, Ws w K2 wi → Calls Tryd.prog 12 #[.pointer (some ⟨w.heap.size, 0, none⟩), .string p] wi fun e w' => e = .returned (.tuple #[]) ∧ Ws w K3 w') := fun wi h1 => by
        have c := text_ok _ K2 p wi h1.wr (by omega)
        exact c.mono fun _ _ q => ⟨q.1, h1.put (by rw [hK3]; exact q.2.1) q.2.2⟩
      have hqs : q ≤ 1000000 := up_small hn hul
      obtain ⟨hw0, hsub⟩ := wrap_dif q m hqs hge
      obtain ⟨hw1, hw2⟩ := wrap_sum q (p.size : Int) hqs hq.1 hq.2
      rw [hsub] at hzs
      clear hK0 hK1 hK2 hK3 l1 l2 hzl hdl hag hp hq hge hul hn hsub hqs
      go_wp2_with (first
        | (go_at_call 18; refine (CU.out _).mono ?_; rintro e w' ⟨rfl, rfl⟩)
        | (go_at_call 12; with_reducible refine (C3.out _ S3.out).mono ?_; rintro e w4 ⟨rfl, h⟩; have S4 := Lib.hid h; clear h)
        | (go_at_call 12; with_reducible refine (C2.out _ S2.out).mono ?_; rintro e w3 ⟨rfl, h⟩; have S3 := Lib.hid h; clear h)
        | (go_at_call 39; refine (CD.out _ (HT.out.bel S1.out.bel)).mono ?_; rintro e w2 ⟨rfl, h⟩; have S2 := Lib.hid (S1.out.keep h); clear h)
        | (go_at_call 12; with_reducible refine (C1.out _ HS.out).mono ?_; rintro e w1 ⟨rfl, h⟩; have S1 := Lib.hid h; clear h))
      go_roundw
      case rel => exact ⟨k + 1, HLT.out, by go_num, by rw [HN.out]; try go_num, by rw [HO.out]; exact S4.out⟩
      case measure => have := HLT.out; simp [intOf]; omega
    · obtain rfl : k = l.length := by omega
      have CD := Lib.hid (done_ok w.heap.size _ wr HS.out.wr (by rw [ag_size]; exact Nat.le_trans (HL.out l.length) (by decide)))
      rw [List.take_length] at CD
      go_wp2_with (go_at_call 13; refine CD.out.mono ?_; rintro e w' ⟨rfl, h⟩; have HB2 := Lib.hid (HS.out.bel.trans (h.mono HS.out.bel.size)); clear h)
      go_returns
      exact ⟨rfl, HB2.out⟩
end Go.Proofs.YtacbhbejchjbiaaDoor
