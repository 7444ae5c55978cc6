/-
  THE LAW TrainSurvives, walked.
-/
import Derived.Test.YtoobajcpfonllaaDoorTnLives2
import Derived.Test.YtoobajcpfonllaaDoorFmFlip
namespace Go.Proofs.YtoobajcpfonllaaDoor
open Go.RowKit Go.Tn Go.Wr Go.Ck

theorem fs_take (l : List ByteArray) (k : Nat) : fs (l.take k) = (fs l).take k := List.map_take ..
theorem ps_fs (l : List ByteArray) (k : Nat) : ps 0 (fs l) k = Tn.up (mL (sz (l.take k))) + 4 := by unfold ps; rw [mL_sz, fs_take]
theorem fs_get {l : List ByteArray} {k : Nat} (h : k < (fs l).length) (h2 : k < l.length) : (fs l)[k] = l[k].data.toList := List.getElem_map (fun s : ByteArray => s.data.toList)
theorem sv_wraps {p q : Nat} (h : p ≤ 147648) (hq : q = Tn.up p) : wrap64 ((p : Int) + 3) = p + 3 ∧ ((p : Int) + 3).tdiv 4 = ((p : Int) + 3) / 4 ∧ wrap64 (((p : Int) + 3) / 4) = ((p : Int) + 3) / 4 ∧
    wrap64 (((p : Int) + 3) / 4 * 4) = (q : Int) ∧ IntKind.i64.wrap (((p : Int) + 3) / 4 * 4) = (q : Int) ∧ wrap64 ((q : Int) + 4) = (q : Int) + 4 ∧ IntKind.i64.wrap ((q : Int) + 4) = (q : Int) + 4 := by
  have hu := up_walk p
  rw [← hq] at hu
  have hl : q ≤ 150000 := by subst hq; unfold Tn.up; omega
  refine ⟨IntWalk.wrap64_in _ (by omega), Int.tdiv_eq_ediv_of_nonneg (by omega), IntWalk.wrap64_in _ (by omega), ?_, ?_, IntWalk.wrap64_in _ (by omega), IntWalk.i64_in _ (by omega)⟩
  · rw [hu]; exact IntWalk.wrap64_in _ (by omega)
  · rw [hu]; exact IntWalk.i64_in _ (by omega)
theorem sv_sums {q k n : Nat} (h : q ≤ 150000) (hk : k ≤ 2300) (hn : n ≤ 2300) : wrap64 ((q : Int) + 4 + k) = ((q + 4 + k : Nat) : Int) ∧ wrap64 ((q : Int) + 4 + n) = ((q + 4 + n : Nat) : Int) :=
  ⟨by rw [IntWalk.wrap64_in _ (by omega)]; omega, by rw [IntWalk.wrap64_in _ (by omega)]; omega⟩
theorem sv_bit (m i : Nat) : ((m : Int) / 2 ^ i % 2 == 1) = m.testBit i := by
  have e : (m : Int) / 2 ^ i = ((m / 2 ^ i : Nat) : Int) := by rw [Int.natCast_ediv, Int.natCast_pow]; rfl
  rw [e, Nat.testBit_eq_decide_div_mod_eq]
  by_cases h : m / 2 ^ i % 2 = 1
  · rw [decide_eq_true h, beq_iff_eq]; omega
  · rw [decide_eq_false h, beq_eq_false_iff_ne]; omega
theorem sv_bit0 (m i : Nat) : ((m : Int) / 2 ^ i % 2 == 0) = !m.testBit i := by
  have e : (m : Int) / 2 ^ i = ((m / 2 ^ i : Nat) : Int) := by rw [Int.natCast_ediv, Int.natCast_pow]; rfl
  rw [e, Nat.testBit_eq_decide_div_mod_eq]
  by_cases h : m / 2 ^ i % 2 = 1
  · rw [decide_eq_true h, Bool.not_true, beq_eq_false_iff_ne]; omega
  · rw [decide_eq_false h, Bool.not_false, beq_iff_eq]; omega
theorem sv_nn (m i : Nat) : (0 : Int) ≤ (m : Int) / 2 ^ i := by
  have e : (m : Int) / 2 ^ i = ((m / 2 ^ i : Nat) : Int) := by rw [Int.natCast_ediv, Int.natCast_pow]; rfl
  rw [e]; exact Int.natCast_nonneg _
theorem sv_bitT (m i : Nat) : (((m : Int) / 2 ^ i).tmod 2 == 1) = m.testBit i := by rw [Int.tmod_eq_emod_of_nonneg (sv_nn m i)]; exact sv_bit m i
theorem sv_bitT0 (m i : Nat) : (((m : Int) / 2 ^ i).tmod 2 == 0) = !m.testBit i := by rw [Int.tmod_eq_emod_of_nonneg (sv_nn m i)]; exact sv_bit0 m i
theorem nat_u64 {a : Int} (h : (Lit.int .u64 a).wf = true) : ∃ n : Nat, a = n ∧ n < 18446744073709551616 := by
  simp [Lit.wf, IntKind.min, IntKind.max, IntKind.signed, IntKind.bits] at h
  exact ⟨a.toNat, by omega, by omega⟩
theorem nat_u8 {a : Int} (h : (Lit.int .u8 a).wf = true) : ∃ n : Nat, a = n ∧ n < 256 := by
  simp [Lit.wf, IntKind.min, IntKind.max, IntKind.signed, IntKind.bits] at h
  exact ⟨a.toNat, by omega, by omega⟩
/-- The octets in their block, some frames changed, all else as it was. -/
structure Sv (W : World) (l : List ByteArray) (g m : Nat) (wr : World) : Prop where
  bel : Below W.heap.size W wr
  oct : ∃ M, Mx (fs l) m M ∧ Oct wr g (ag 0 M)
theorem Sv.put {W wr : World} {l : List ByteArray} {g m i k v : Nat} (h : Sv W l g m wr) (hg : W.heap.size ≤ g) (hi : i < l.length) (hk : k < l[i].size) (hb : m.testBit i = true) (hv : v < 256) :
    Sv W l g m (wr.setCell ⟨g, Tn.up (mL (sz (l.take i))) + 4 + k, none⟩ (.int .u8 (v : Int))) := by
  obtain ⟨hbel, M, hm, ho⟩ := h
  have h1 : i < M.length := by rw [hm.n, fs_len]; exact hi
  have h2 : i < (fs l).length := by rw [fs_len]; exact hi
  have h3 : M[i].length = l[i].size := by rw [hm.at_len h1 h2, fs_get h2 hi]; exact Array.length_toList
  refine ⟨hbel.setCell hg _, M.set i (M[i].set k (UInt8.ofNat v)), hm.set h1 hb k _, ?_⟩
  have e := ag_set (UInt8.ofNat v) M 0 i k h1 (by rw [h3]; exact hk)
  rw [Nat.sub_zero, hm.ps, ps_fs] at e
  rw [← e]
  exact ho.set _ _ hv
theorem sv_lt {l : List ByteArray} {i k : Nat} (hi : i < l.length) (hk : k < l[i].size) : Tn.up (mL (sz (l.take i))) + 4 + k < mL (sz l) := by
  have e2 := ag_size (l.take (i + 1))
  rw [ag_take hi, List.length_append, List.length_append, List.length_append, zs_len, del_len, ag_size] at e2
  have e3 : l[i].data.toList.length = l[i].size := Array.length_toList
  have hge := Tn.up_ge (mL (sz (l.take i)))
  have hmono : mL (sz (l.take (i + 1))) ≤ mL (sz l) := by
    rw [mL_sz, mL_sz, fs_take]
    have : fs l = (fs l).take (i + 1) ++ (fs l).drop (i + 1) := (List.take_append_drop _ _).symm
    rw [this, List.map_append, ln_append, ← this]
    exact ln_ge _ _
  omega
theorem mx_len {l : List ByteArray} {m : Nat} {M : List (List UInt8)} (hm : Mx (fs l) m M) : (ag 0 M).length = mL (sz l) := by
  have a := ag_len M 0
  rw [hm.len, ← mL_sz] at a
  omega
/-- A cell of the octets that can be written. -/
theorem Sv.cell {W wr : World} {l : List ByteArray} {g m i k : Nat} (h : Sv W l g m wr) (hi : i < l.length) (hk : k < l[i].size) :
    (∃ z, wr.cell? ⟨g, Tn.up (mL (sz (l.take i))) + 4 + k, none⟩ = some (.int .u8 z)) ∧ wr.frozen? ⟨g, Tn.up (mL (sz (l.take i))) + 4 + k, none⟩ = false := by
  obtain ⟨hbel, M, hm, ho⟩ := h
  have hlt : Tn.up (mL (sz (l.take i))) + 4 + k < (ag 0 M).length := by rw [mx_len hm]; exact sv_lt hi hk
  exact ⟨⟨_, (ho _ hlt).1⟩, (ho _ hlt).2⟩
theorem sv_step {l : List ByteArray} {i : Nat} (hi : i < l.length) (hp : 1 ≤ (l[i].size : Int) ∧ (l[i].size : Int) ≤ 2300) : mL (sz (l.take (i + 1))) = Tn.up (mL (sz (l.take i))) + 4 + l[i].size := by
  have := mL_take (l := sz l) (k := i) (by rw [sz_len]; exact hi) (by rw [sz_get (by rw [sz_len]; exact hi) hi]; exact pos_iff.2 hp)
  rw [← sz_take, ← sz_take, sz_get (by rw [sz_len]; exact hi) hi] at this
  omega
theorem sv_car {l : List ByteArray} {m i : Nat} {M : List (List UInt8)} (hm : Mx (fs l) m M) (hi : i < l.length) : ∃ t : ByteArray, (cars 0 M)[i]? = some ⟨((Tn.up (mL (sz (l.take i))) + 4 : Nat) : Int), t⟩ ∧ (m.testBit i = false → t = l[i]) := by
  have h1 : i < M.length := by rw [hm.n, fs_len]; exact hi
  have h2 : i < (fs l).length := by rw [fs_len]; exact hi
  refine ⟨⟨M[i].toArray⟩, ?_, fun hb => ?_⟩
  · rw [cars_get M 0 i h1, hm.ps, ps_fs]
  · have := hm.same i hb
    rw [List.getElem?_eq_getElem h1, List.getElem?_eq_getElem h2] at this
    rw [Option.some.inj this, fs_get h2 hi]
theorem sv_small {m q : Nat} (h : m ≤ 147648) (hq : q = Tn.up m) : q ≤ 150000 := by subst hq; unfold Tn.up; omega

set_option maxRecDepth 100000 in
set_option maxHeartbeats 8000000 in
theorem trainSurvives_walk0 (l : List ByteArray) (sa : Option Addr) (c : Nat) {W : World} (h : Ss_.Sl W sa l c) (hl : l.length ≤ maxLen) (hz : ∀ x ∈ l, x.size ≤ 140737488351232) (a : Int) (ha : (Lit.int .u64 a).wf = true) (v0 : Int) (hv0 : (Lit.int .u8 v0).wf = true) (_W : World) (hL : LaidFacts W) :
    Calls Tryd.prog 3 #[.slice sa l.length c, .int .u64 a, .int .u8 v0] W fun e w' => e = .returned (.bool true) ∧ Below W.heap.size W w' := by
  obtain ⟨m, rfl, hm64⟩ := nat_u64 ha
  obtain ⟨v, rfl, hv⟩ := nat_u8 hv0
  have AW := Lib.hid lives17_any
  have HT := Lib.hid hL
  have CF := Lib.hid (few17_any l sa c W h.lies hl hz)
  clear ha hv0
  cases hf : fewB l
  · rw [hf] at CF
    clear hl h hz hf
    go_enter Tryd.func3, Tryd.ntmps3
    go_wp2_with (first
      | (go_at_call 8; refine CF.out.mono ?_; rintro e w' ⟨rfl, rfl⟩)
      | (go_at_call 9; refine (AW.out _ HT.out).mono ?_; rintro e w1 ⟨rfl, hb1⟩))
    go_returns
    exact ⟨rfl, hb1⟩
  rw [hf] at CF
  obtain ⟨h80, -⟩ := few_sz hf
  have H := Lib.hid h
  have C1 := Lib.hid (tnEncode_any l sa c W h.lies (by omega) hL)
  unfold EncPost at C1
  by_cases hr : eE l = 0
  case neg =>
    have hS := eS_bad hr
    rw [hS] at C1
    generalize eE l = r at *
    have hr2 : (r != 0) = true := by rw [bne_iff_ne]; exact hr
    clear h hl hz hf h80 hr hL hS
    go_enter Tryd.func3, Tryd.ntmps3
    go_wp2_with (first
      | (go_at_call 8; refine CF.out.mono ?_; rintro e w' ⟨rfl, rfl⟩)
      | (go_at_call 10; refine C1.out.mono ?_; rintro e w1 ⟨rfl, h⟩; have B1 := Lib.hid h; clear h)
      | (go_at_call 9; refine (AW.out _ (HT.out.bel B1.out)).mono ?_; rintro e w4 ⟨rfl, h⟩; have B4 := Lib.hid (B1.out.trans (h.mono B1.out.size)); clear h))
    go_returns
    exact ⟨rfl, B4.out⟩
  have hsz := eS_size hr
  have hln : lnI (sz l) = ((eS l).size : Int) := by unfold lnI; rw [if_pos (show mE (sz l) = 0 from hr), hsz]
  have hSd : (eS l).data.toList = ag 0 (fs l) := by rw [eS_ok hr]
  obtain ⟨hx, h64⟩ := fs_pos hr
  rw [fs_len] at h64
  have HX := Lib.hid hx
  have hse := eS_le l
  obtain ⟨-, -, hap, -⟩ := mE_zero.1 hr
  have HP : Hid (∀ j (hj : j < l.length), 1 ≤ (l[j].size : Int) ∧ (l[j].size : Int) ≤ 2300) := fun j hj => pos_iff.1 (List.all_eq_true.1 hap _ (List.mem_map.2 ⟨l[j], List.getElem_mem hj, rfl⟩))
  have HLm : Hid (∀ k, mL (sz (l.take k)) ≤ 147648) := fun k => by
    rw [sz_take]
    exact mL_le (fun j hj _ => List.all_eq_true.1 hap _ (List.getElem_mem hj)) (by rw [sz_len]; omega)
  have C2 := Lib.hid fun w h => lengths17_any l sa c w h h80
  have C3 := Lib.hid fun sa c w h => r17Length_any (sz l) sa c w h (by rw [sz_len]; unfold maxLen; omega)
  unfold LnPost at C3
  rw [hln] at C3
  rw [hr] at C1
  generalize eS l = S at *
  have HSS := Lib.hid hsz
  have HSE := Lib.hid hse
  have CB : Hid (∀ w : World, ∃ cap w', (convert 9 32 (.string S)).run Tryd.prog w = .ok (.slice (some ⟨w.heap.size, 0, none⟩) S.size cap) w' ∧ Oct w' w.heap.size (ag 0 (fs l)) ∧ Below w.heap.size w w') := fun w => by
    have hcv := run_bytes_of_string (P := Tryd.prog) w 9 32 5 S Tryd.underlying9 Tryd.underlying32 Tryd.underlying5
    have ho := Oct.new w.drew S (grownCap w S.size 0 5) 5
    rw [hSd] at ho
    exact ⟨_, _, hcv, ho, (Below.refl _ _).drew.alloc (Nat.le_refl _) _⟩
  have H64 := Lib.hid h64
  clear hL hx hap hsz hln hSd hl hz hf h80 hse hr
  go_enter Tryd.func3, Tryd.ntmps3
  go_wp2_with (first
    | (go_at_call 8; refine CF.out.mono ?_; rintro e w' ⟨rfl, rfl⟩)
    | (go_at_call 10; refine C1.out.mono ?_; rintro e w1 ⟨rfl, h⟩; have H1 := Lib.hid (H.out.below h); have B1 := Lib.hid h; clear h)
    | (go_at_call 12; refine (C2.out _ H1.out.lies).mono ?_; rintro e w2 ⟨v2, n2, rfl, hs, h⟩; have S2 := Lib.hid hs; have B2 := Lib.hid (B1.out.trans (h.mono B1.out.size)); clear h hs)
    | (go_at_call 11; refine (C3.out _ _ _ S2.out.lies).mono ?_; rintro e w3 ⟨rfl, h⟩; have B3 := Lib.hid (B2.out.trans (h.mono B2.out.size)); obtain ⟨cap, w4, hcv, ho, hb4⟩ := CB.out w3; have HO4 := Lib.hid ho; have HB4 := Lib.hid hb4; clear h ho hb4))
  have SV0 : Hid (Sv W l w3.heap.size m w4) := ⟨B3.out.trans (HB4.out.mono B3.out.size), _, Mx.refl _ _, HO4.out⟩
  have HG : Hid (W.heap.size ≤ w3.heap.size) := B3.out.size
  clear hcv HO4 CB C1 C2 C3 CF
  go_loopw [10, 11] (fun pv iv wr => ∃ i : Nat, i ≤ l.length ∧ iv = .int .i64 i ∧ pv = .int .i64 (mL (sz (l.take i)) : Nat) ∧ Sv W l w3.heap.size m wr) (fun _ iv _ => l.length - (intOf iv).toNat)
  case atStart => exact ⟨0, Nat.zero_le _, rfl, rfl, SV0.out⟩
  case round =>
    rename World => wr
    obtain ⟨i, hi, rfl, rfl, hsv⟩ := hrel
    have HS := Lib.hid hsv
    clear SV0 hsv
    by_cases hlt : i < l.length
    · obtain ⟨b, off, rfl, hbl, c0⟩ := H.out.lies i hlt
      have HLT := Lib.hid hlt
      have HPl := HLm.out i
      have hpi := HP.out i hlt
      have HST := Lib.hid (sv_step hlt hpi)
      obtain ⟨q, hq⟩ : ∃ q, q = Tn.up (mL (sz (l.take i))) := ⟨_, rfl⟩
      have hqs := sv_small HPl hq
      obtain ⟨q1, q2, q3, q4, q5, q6, q7⟩ := sv_wraps HPl hq
      have HLTS : Hid (∀ k, k < l[i].size → q + 4 + k < mL (sz l)) := fun k hk => by rw [hq]; exact sv_lt hlt hk
      have HCL : Hid (∀ wr k, k < l[i].size → Sv W l w3.heap.size m wr → (∃ z, wr.cell? ⟨w3.heap.size, q + 4 + k, none⟩ = some (.int .u8 z)) ∧ wr.frozen? ⟨w3.heap.size, q + 4 + k, none⟩ = false) := fun wr k hk hs => by rw [hq]; exact hs.cell hlt hk
      have HPT : Hid (∀ wr k, k < l[i].size → m.testBit i = true → Sv W l w3.heap.size m wr → Sv W l w3.heap.size m (wr.setCell ⟨w3.heap.size, q + 4 + k, none⟩ (.int .u8 (v : Int)))) := fun wr k hk hb hs => by rw [hq]; exact hs.put HG.out hlt hk hb hv
      have hbit := sv_bitT m i
      have hwi : IntKind.u64.wrap (i : Int) = i := IntWalk.u64_in _ (by have := H64.out; omega)
      rw [← hq] at HST
      have i0 : (0 : Int) ≤ (i : Int) := by omega
      have i1 : (i : Int) < (l.length : Int) := by omega
      have i6 : (i : Int) < 64 := by have := H64.out; omega
      have HC : Hid (∀ wr, Below W.heap.size W wr → wr.cell? ⟨b, off + i, none⟩ = some (.string l[i])) := fun wr hb => (hb.cell (by exact hbl)).trans c0
      generalize l[i] = x at *
      generalize mL (sz (l.take i)) = p at *
      have HQ := Lib.hid hqs
      have HX2 : Hid (x.size ≤ 2300) := Int.ofNat_le.1 hpi.2
      clear hbl c0 hq HPl hpi hqs
      go_wp2
      go_loopw [12] (fun kv wr => ∃ k : Nat, k ≤ x.size ∧ kv = .int .i64 k ∧ Sv W l w3.heap.size m wr) (fun kv _ => x.size - (intOf kv).toNat)
      case atStart => exact ⟨0, Nat.zero_le _, rfl, HS.out⟩
      case round =>
        rename World => wk
        obtain ⟨k, hk, rfl, hsv⟩ := hrel
        have HSV := Lib.hid hsv
        have g0 := HC.out wk hsv.bel
        obtain ⟨u1, u2⟩ := sv_sums (q := q) (k := k) (n := x.size) HQ.out (Nat.le_trans hk HX2.out) HX2.out
        clear HS
        by_cases hkx : k < x.size
        · have hkx' : (k : Int) < (x.size : Int) := Int.ofNat_lt.2 hkx
          have HK := Lib.hid hkx
          have hk23 : k ≤ 2300 := Nat.le_trans hk HX2.out
          cases hb : m.testBit i
          · rw [hb] at hbit
            clear hsv hkx u1 u2 hk
            go_wp2
            go_roundw
            case rel => exact ⟨k + 1, HK.out, by go_num, HSV.out⟩
            case measure => have := HK.out; simp [intOf]; omega
          · rw [hb] at hbit
            obtain ⟨⟨z, d0⟩, d1⟩ := HCL.out wk k hkx hsv
            have hin : q + 4 + k < S.size := by rw [HSS.out]; exact HLTS.out k hkx
            have hin' : ((q + 4 + k : Nat) : Int) < (S.size : Int) := Int.ofNat_lt.2 hin
            have hin0 : (0 : Int) ≤ ((q + 4 + k : Nat) : Int) := Int.natCast_nonneg _
            have HPUT := Lib.hid (HPT.out wk k hkx hb hsv)
            generalize q + 4 + k = ix at *
            clear hsv hkx u2 hk
            go_wp2
            go_roundw
            case rel => exact ⟨k + 1, HK.out, by go_num, HPUT.out⟩
            case measure => have := HK.out; simp [intOf]; omega
        · obtain rfl : k = x.size := Nat.le_antisymm hk (Nat.le_of_not_lt hkx)
          have hkx' : ¬ ((x.size : Int) < (x.size : Int)) := Int.lt_irrefl _
          have HU := Lib.hid u2
          clear hsv hkx u1 u2 hk hbit
          go_wp2
          go_roundw
          case rel => exact ⟨i + 1, HLT.out, by go_num, by rw [HST.out]; exact congrArg (Value.int .i64) HU.out, HSV.out⟩
          case measure => have := HLT.out; simp [intOf]; omega
    · obtain rfl : i = l.length := Nat.le_antisymm hi (Nat.le_of_not_lt hlt)
      obtain ⟨hbel, M, hm, ho⟩ := HS.out
      have hcl := ho.conv (cap := cap)
      rw [mx_len hm, ← HSS.out] at hcl
      have hTs : (⟨(ag 0 M).toArray⟩ : ByteArray).size ≤ 100000 := by
        rw [ba_size17, mx_len hm, ← HSS.out]; exact Nat.le_trans HSE.out (by decide)
      have CD := Lib.hid (tnDecode_any ⟨(ag 0 M).toArray⟩ wr hTs (HT.out.bel hbel))
      have hdec : dec (⟨(ag 0 M).toArray⟩ : ByteArray).data.toList = cars 0 M := dec_ag (hm.pos HX.out) (by rw [hm.n, fs_len]; exact H64.out)
      have hcn : (cars 0 M).length = l.length := by rw [cars_len, hm.n, fs_len]
      unfold DecPost at CD
      rw [hdec, hcn] at CD
      have HCN := Lib.hid hcn
      have HCAR := Lib.hid fun i hi => @sv_car l m i M hm hi
      have HBW := Lib.hid hbel
      generalize cars 0 M = CL at *
      generalize (⟨(ag 0 M).toArray⟩ : ByteArray) = T at *
      clear hbel hm ho hTs hdec hcn HS hi hlt hv hm64 h64
      go_wp2_with (go_at_call 13; refine CD.out.mono ?_; rintro e w5 ⟨v5, c5, rfl, hs, h⟩; have S5 := Lib.hid hs; have B5 := Lib.hid (HBW.out.trans (h.mono HBW.out.size)); clear h hs CD)
      go_loopw [10, 14] (fun pv iv wr => ∃ i : Nat, i ≤ l.length ∧ iv = .int .i64 i ∧ pv = .int .i64 (mL (sz (l.take i)) : Nat) ∧ Below w5.heap.size w5 wr) (fun _ iv _ => l.length - (intOf iv).toNat)
      case atStart => exact ⟨0, Nat.zero_le _, rfl, rfl, Below.refl _ _⟩
      case round =>
        rename World => wq
        obtain ⟨i, hi, rfl, rfl, hb⟩ := hrel
        have HB := Lib.hid hb
        by_cases hlt : i < l.length
        · obtain ⟨b, off, rfl, -, c0⟩ := ((H.out.below B5.out).below hb).lies i hlt
          obtain ⟨t, hct, htx⟩ := HCAR.out i hlt
          have hlc : i < CL.length := by rw [HCN.out]; exact hlt
          obtain ⟨b2, off2, rfl, -, d0, d1⟩ := (S5.out.below hb).lies i hlc
          have hget : CL[i] = ⟨((Tn.up (mL (sz (l.take i))) + 4 : Nat) : Int), t⟩ := by
            rw [List.getElem?_eq_getElem hlc] at hct; exact Option.some.inj hct
          rw [hget] at d0 d1
          have HLT := Lib.hid hlt
          have HPl := HLm.out i
          have hpi := HP.out i hlt
          have HST := Lib.hid (sv_step hlt hpi)
          obtain ⟨q, hq⟩ : ∃ q, q = Tn.up (mL (sz (l.take i))) := ⟨_, rfl⟩
          have hqs := sv_small HPl hq
          obtain ⟨q1, q2, q3, q4, q5, q6, q7⟩ := sv_wraps HPl hq
          rw [← hq] at HST d0
          rw [show ((q + 4 : Nat) : Int) = (q : Int) + 4 from rfl] at d0
          have hx23 : l[i].size ≤ 2300 := Int.ofNat_le.1 hpi.2
          obtain ⟨-, u2⟩ := sv_sums (q := q) (k := 0) (n := l[i].size) hqs (by decide) hx23
          have hb1 := sv_bit0 m i
          have hb2 := sv_bitT0 m i
          have hmin : min i 64 = i := Nat.min_eq_left (Nat.le_trans hi H64.out)
          have hwi : IntKind.u64.wrap (i : Int) = i := IntWalk.u64_in _ (by have := H64.out; omega)
          have i0 : (0 : Int) ≤ (i : Int) := Int.natCast_nonneg _
          have i1 : (i : Int) < (l.length : Int) := Int.ofNat_lt.2 hlt
          have e0 : (((q : Int) + 4) != ((q : Int) + 4)) = false := by simp
          have HU := Lib.hid u2
          generalize l[i] = x at *
          generalize mL (sz (l.take i)) = p at *
          have e1 : (x.toList == x.toList) = true := by simp
          clear hb hct hlc hget hq HPl hpi hqs hx23
          cases hbt : m.testBit i
          · obtain rfl := htx hbt
            rw [hbt] at hb1 hb2
            simp only [Bool.not_false] at hb1 hb2
            clear htx hbt
            go_wp2
            go_quiet (fail)
            go_wp2
            go_roundw
            case rel => exact ⟨i + 1, HLT.out, by go_num, by rw [HST.out]; exact congrArg (Value.int .i64) HU.out, belowN17 HB.out _⟩
            case measure => have := HLT.out; simp [intOf]; omega
          · rw [hbt] at hb1 hb2
            simp only [Bool.not_true] at hb1 hb2
            clear htx hbt e1
            go_wp2
            go_quiet (fail)
            go_wp2
            go_roundw
            case rel => exact ⟨i + 1, HLT.out, by go_num, by rw [HST.out]; exact congrArg (Value.int .i64) HU.out, belowN17 HB.out _⟩
            case measure => have := HLT.out; simp [intOf]; omega
        · obtain rfl : i = l.length := Nat.le_antisymm hi (Nat.le_of_not_lt hlt)
          have B6 := Lib.hid (B5.out.trans (HB.out.mono B5.out.size))
          clear hb hlt hi
          go_wp2_with (go_at_call 9; refine (AW.out _ (HT.out.bel B6.out)).mono ?_; rintro e w7 ⟨rfl, h⟩; have B7 := Lib.hid (B6.out.trans (h.mono B6.out.size)); clear h)
          go_returns
          exact ⟨rfl, B7.out⟩
end Go.Proofs.YtoobajcpfonllaaDoor
