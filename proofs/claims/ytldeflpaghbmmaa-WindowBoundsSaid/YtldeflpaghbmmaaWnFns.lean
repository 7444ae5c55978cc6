/-
  WALKS of package window: the functions that are passed as arguments.
-/
import Derived.Test.YtldeflpaghbmmaaWnPut
import Derived.Laws.BitsAllLaws
namespace Go.Proofs.Ytldeflpaghbmmaa
open Go.RowKit Go.Wn Go.Sq Go.Wr
attribute [local go_sem ↓ high] Ww_.loadF Ww_.storeF Ww_.v_cells Ww_.v_match
attribute [local go_sem] Ww_.C0 Ww_.C1 Ww_.C2 Ww_.C3 Ww_.loadF_new Ww_.storeF_zero Oper.semAt_some

theorem shr_big22 (x y : Int) (yk : IntKind) (h0 : 0 ≤ x) (h1 : x < 18446744073709551616) (h : 64 < y) : Op.shift .shr .u64 x yk y = pure (.int .u64 0) := by
  have hm : min y.toNat 64 = 64 := by omega
  have hy : ¬ (y < 0) := by omega
  have e : x.fdiv 18446744073709551616 = 0 := by rw [Int.fdiv_eq_ediv_of_nonneg _ (by decide)]; exact Int.ediv_eq_zero_of_lt h0 h1
  simp [Op.shift, IntKind.bits, hm, hy, e]
theorem shr_any22 (m : Nat) (D : Int) (hm : m < 18446744073709551616) (h0 : 0 ≤ D) : Op.shift .shr .u64 (m : Int) .i64 D = pure (.int .u64 ((m / 2 ^ D.toNat : Nat) : Int)) := by
  by_cases h : 64 < D
  · rw [shr_big22 _ _ _ (by omega) (by omega) h]
    have : m / 2 ^ D.toNat = 0 := Nat.div_eq_of_lt (Nat.lt_of_lt_of_le hm (by
      have : 2 ^ 64 ≤ 2 ^ D.toNat := Nat.pow_le_pow_right (by decide) (by omega)
      exact this))
    rw [this]; rfl
  · have hy : ¬ (D < 0) := by omega
    have hmn : min D.toNat 64 = D.toNat := by omega
    have hlt : m / 2 ^ D.toNat < 18446744073709551616 := Nat.lt_of_le_of_lt (Nat.div_le_self _ _) hm
    simp
theorem bit22 (m k : Nat) (hm : m < 18446744073709551616) : (bits .and .u64 ((m / 2 ^ k : Nat) : Int) 1 == 1) = m.testBit k := by
  have e2 : bits .and .u64 ((m / 2 ^ k : Nat) : Int) ((1 : Nat) : Int) = ((m / 2 ^ k &&& 1 : Nat) : Int) := u64_and_nat _ _ (Nat.lt_of_le_of_lt (Nat.div_le_self _ _) hm) (by decide)
  rw [show (1 : Int) = ((1 : Nat) : Int) from rfl, e2, Nat.and_one_is_mod, Nat.testBit_eq_decide_div_mod_eq]
  by_cases h : m / 2 ^ k % 2 = 1
  · rw [decide_eq_true h, beq_iff_eq]; omega
  · rw [decide_eq_false h, beq_eq_false_iff_ne]; omega

/-- The map's and the start's cells. -/
structure Sa (bm bs : Nat) (m : Nat) (st : Int) (W : World) : Prop where
  m : W.cell? ⟨bm, 0, none⟩ = some (.int .u64 (m : Int))
  s : W.cell? ⟨bs, 0, none⟩ = some (.int .i64 st)
  lm : bm < W.heap.size
  ls : bs < W.heap.size
theorem Sa.keep {bm bs m : Nat} {st : Int} (W W' : World) (h : Sa bm bs m st W) (hb : Below W.heap.size W W') : Sa bm bs m st W' :=
  ⟨(hb.cell h.lm).trans h.m, (hb.cell h.ls).trans h.s, Nat.lt_of_lt_of_le h.lm hb.size, Nat.lt_of_lt_of_le h.ls hb.size⟩
/-- That, and a packet in its cell. -/
structure Sap (w : World) (b : Nat) (p : Sn) (bm bs : Nat) (m : Nat) (st : Int) (W : World) : Prop where
  sa : Sa bm bs m st W
  bx : Sn_.Box W b p
  bel : Below w.heap.size w W
theorem Sap.keep {w : World} {b : Nat} {p : Sn} {bm bs m : Nat} {st : Int} (W W' : World) (h : Sap w b p bm bs m st W) (hb : Below W.heap.size W W') : Sap w b p bm bs m st W' :=
  ⟨h.sa.keep _ _ hb, h.bx.below hb h.bx.lt, h.bel.trans (hb.mono h.bel.size)⟩

set_option maxRecDepth 100000 in
set_option maxHeartbeats 4000000 in
theorem wn_isAcked_any (p : Sn) (bm bs m : Nat) (st : Int) (hm : m < 18446744073709551616) (w : World) (hS : Sa bm bs m st w) :
    Calls Try.prog 50 #[Sn_.v p, .pointer (some ⟨bm, 0, none⟩), .pointer (some ⟨bs, 0, none⟩)] w fun e w' => e = .returned (.bool (ak st m p)) ∧ Below w.heap.size w w' := by
  obtain ⟨w1, hw1⟩ : ∃ w1, w.alloc (.cells #[.int .i64 p.id, .int .i64 p.q, .int .i64 p.tr, .bool p.dn, .string p.da] 76) = w1 := ⟨_, rfl⟩
  have hb : Sn_.Box w1 w.heap.size p := hw1 ▸ Sn_.Box.new w p rfl
  have B1 : Below w.heap.size w w1 := hw1 ▸ (Below.refl _ _).alloc (Nat.le_refl _) _
  have S1 := Lib.hid (show Sap w w.heap.size p bm bs m st w1 from ⟨hS.keep _ _ B1, hb, B1⟩)
  have CO := Lib.hid (fun W => wn_isOpen_any p W)
  have CD := Lib.hid (fun w => distance_any st p.q w)
  have hD := (dist_in22 st p.q).1
  have hsh := shr_any22 m (dist st p.q) hm hD
  have hbit := bit22 m (dist st p.q).toNat hm
  have HH : Hid (ak st m p = (isOp p && m.testBit (dist st p.q).toNat)) := rfl
  rw [HH.out]
  generalize m.testBit (dist st p.q).toNat = TB at *
  generalize m / 2 ^ (dist st p.q).toNat = X at *
  generalize dist st p.q = D at *
  generalize isOp p = I at *
  have hw1' : w.alloc (.cells #[.int .i64 p.id, .int .i64 p.q, .int .i64 p.tr, .bool p.dn, .string p.da] 76) = w1 := hw1
  have q0 : ∀ (q : Of (Sap w w.heap.size p bm bs m st)), q.w.cell? ⟨w.heap.size, 0, none⟩ = some (.int .i64 p.id) ∧ q.w.cell? ⟨w.heap.size, 1, none⟩ = some (.int .i64 p.q) ∧ q.w.cell? ⟨w.heap.size, 2, none⟩ = some (.int .i64 p.tr) ∧ q.w.cell? ⟨w.heap.size, 3, none⟩ = some (.bool p.dn) ∧ q.w.cell? ⟨w.heap.size, 4, none⟩ = some (.string p.da) := fun q => q.ok.bx.cells
  have q1 : ∀ (q : Of (Sap w w.heap.size p bm bs m st)), (loadCellsFrom ⟨w.heap.size, 0, none⟩ 0 5 #[]).run Try.prog q.w = .ok #[.int .i64 p.id, .int .i64 p.q, .int .i64 p.tr, .bool p.dn, .string p.da] q.w := fun q => q.ok.bx.load
  have q2 : ∀ (q : Of (Sap w w.heap.size p bm bs m st)), q.w.cell? ⟨bm, 0, none⟩ = some (.int .u64 (m : Int)) := fun q => q.ok.sa.m
  have q3 : ∀ (q : Of (Sap w w.heap.size p bm bs m st)), q.w.cell? ⟨bs, 0, none⟩ = some (.int .i64 st) := fun q => q.ok.sa.s
  have _ne : Nonempty (Of (Sap w w.heap.size p bm bs m st)) := ⟨⟨_, S1.out⟩⟩
  clear hb hS HH hm hw1 B1
  cases I
  all_goals
    first | rw [Bool.false_and] | rw [Bool.true_and]
    unfold Sn_.v
    go_enter Try.func50, Try.ntmps50
    go_wp2_with fail
    refine wp_region_of (Sap w w.heap.size p bm bs m st) (by kernel_rfl) (Region.lexB_of_fast (by kernel_rfl)) (S1.out.keep _ _ ⟨rfl, rfl, rfl, Nat.le_refl _, fun _ _ => rfl⟩) ?_
    repeat (go_big_quiet_step (first
      | (go_at_call 49; exact Calls.of_below Sap.keep (CO.out _))
      | (go_at_call 51; exact Calls.of_same (CD.out _))))
    refine wpQuiet_nil ?_
    rintro _ ⟨q, rfl⟩
    have HB2 := Lib.hid q.ok.bel
    generalize q.w = w9 at *
    clear q0 q1 q2 q3
    go_wp2
    go_returns
    exact ⟨by simp [*], HB2.out⟩
theorem acked_tells (bm bs m : Nat) (st : Int) (hm : m < 18446744073709551616) : Tells (Sa bm bs m st) 50 #[.pointer (some ⟨bm, 0, none⟩), .pointer (some ⟨bs, 0, none⟩)] (ak st m) :=
  ⟨fun args w => by kernel_rfl, fun p W h => wn_isAcked_any p bm bs m st hm W h⟩

set_option maxHeartbeats 1000000 in
theorem wn_isNum_any (n : Int) (B : Nat) (p : Sn) (w : World) (hB : Sn_.Box w B p) :
    Calls Try.prog 59 #[.int .i64 n, .pointer (some ⟨B, 0, none⟩)] w fun e w' => e = .returned (.bool (decide (dist n p.q = 0))) ∧ w = w' := by
  have e1 := hB.cells
  have CD := Lib.hid (fun w => distance_any n p.q w)
  clear hB
  generalize dist n p.q = D at *
  have hd : (D == 0) = decide (D = 0) := rfl
  go_enter Try.func59, Try.ntmps59
  go_wp2_with (go_at_call 51; refine (CD.out _).mono ?_; rintro e w' ⟨rfl, rfl⟩)
  go_returns
  exact ⟨rfl, rfl⟩

theorem amg_take {l : List Int} {q : Int} {i : Nat} (h : i < l.length) : amg (l.take (i + 1)) q = (amg (l.take i) q || decide (dist l[i] q = 0)) := by
  unfold amg
  rw [List.take_succ_eq_append_getElem h, List.any_append]
  simp
theorem amg_mem {l : List Int} {q : Int} {i : Nat} (h : i < l.length) (hd : dist l[i] q = 0) : amg l q = true := by
  unfold amg
  rw [List.any_eq_true]
  exact ⟨_, List.getElem_mem h, decide_eq_true hd⟩

set_option maxRecDepth 100000 in
set_option maxHeartbeats 4000000 in
theorem wn_index_any (sa : Option Addr) (l : List Int) (c : Nat) (B : Nat) (p : Sn) (w : World) (hS : Is_.Sl w sa l c) (hl : l.length ≤ 1000) (hB : Sn_.Box w B p) :
    Calls Try.prog 66 #[.slice sa l.length c, .func (.func 59) #[] #[.pointer (some ⟨B, 0, none⟩)]] w fun e w' => ∃ k : Int, e = .returned (.int .i64 k) ∧ decide (0 ≤ k) = amg l p.q ∧ w = w' := by
  have HS := Lib.hid hS
  have HL := Lib.hid hl
  have HB := Lib.hid hB
  have CN := Lib.hid (fun n => wn_isNum_any n B p w hB)
  have eg : ∀ (args : Array Value) (w : World), (callFunc 59 args).run Try.prog w = .ok (.enter 59 args) w := fun args w => by kernel_rfl
  clear hS hl hB
  generalize hn : l.length = n at *
  have HN := Lib.hid hn
  clear hn
  go_enter Try.func66, Try.ntmps66
  go_wp2
  go_loopw [8, 5] (fun z _ wr => ∃ i : Nat, z = .int .i64 i ∧ i ≤ n ∧ Hid (amg (l.take i) p.q = false) ∧ wr = w) (fun z _ _ => n - (intOf z).toNat)
  case atStart => exact ⟨0, rfl, Nat.zero_le _, rfl, rfl⟩
  case round =>
    obtain ⟨i, rfl, hi, HA, rfl⟩ := hrel
    by_cases hlt : i < n
    · have hil : i < l.length := by have := HN.out; omega
      obtain ⟨b, off, hsa, hbl, k0⟩ := HS.out.lies i hil
      subst hsa
      have HT := Lib.hid (amg_take (q := p.q) hil)
      have HM := Lib.hid (amg_mem (q := p.q) hil)
      have CNi := Lib.hid (CN.out l[i])
      have hle : n ≤ c := by have := HS.out.le; have := HN.out; omega
      generalize l[i] = h at *
      have hi1 : i ≤ 1000 := by have := HL.out; omega
      clear hbl hil
      have HLT := Lib.hid hlt
      by_cases hd : dist h p.q = 0
      · rw [decide_eq_true hd] at CNi
        have HF := Lib.hid (HM.out hd)
        go_wp2_with (go_at_fn 59; refine CNi.out.mono ?_; rintro e w' ⟨rfl, rfl⟩)
        go_returns
        exact ⟨_, rfl, by rw [HF.out]; simp, rfl⟩
      · rw [decide_eq_false hd] at CNi
        have HF := Lib.hid (show amg (l.take (i + 1)) p.q = false by rw [HT.out, HA.out, decide_eq_false hd]; rfl)
        go_wp2_with (go_at_fn 59; refine CNi.out.mono ?_; rintro e w' ⟨rfl, rfl⟩)
        go_roundw
        case rel => exact ⟨i + 1, by go_num, HLT.out, HF, by first | rfl | trivial⟩
        case measure => have := HLT.out; simp [intOf]; omega
    · obtain rfl : i = n := by omega
      rw [show l.take i = l by rw [← HN.out, List.take_length]] at HA
      go_wp2
      go_returns
      exact ⟨_, rfl, by rw [HA.out]; rfl, rfl⟩

set_option maxRecDepth 100000 in
set_option maxHeartbeats 1000000 in
theorem wn_contains_any (sa : Option Addr) (l : List Int) (c : Nat) (B : Nat) (p : Sn) (w : World) (hS : Is_.Sl w sa l c) (hl : l.length ≤ 1000) (hB : Sn_.Box w B p) :
    Calls Try.prog 60 #[.slice sa l.length c, .func (.func 59) #[] #[.pointer (some ⟨B, 0, none⟩)]] w fun e w' => e = .returned (.bool (amg l p.q)) ∧ w = w' := by
  have CI := Lib.hid (wn_index_any sa l c B p w hS hl hB)
  clear hS hl hB
  go_enter Try.func60, Try.ntmps60
  go_wp2_with (go_at_call 66; refine CI.out.mono ?_; rintro e w' ⟨k, rfl, hk, rfl⟩; have HK := Lib.hid hk; clear hk)
  go_returns
  exact ⟨by rw [← HK.out]; rfl, rfl⟩
end Go.Proofs.Ytldeflpaghbmmaa
