/-
  THE LAW HistoryTables.
-/
import Derived.Test.YtacjdgglfeemcaaHiApart
import Derived.Test.YtacjdgglfeemcaaHiPeers
import Derived.Test.YtacjdgglfeemcaaHiSoI
namespace Go.Proofs.Ytacjdgglfeemcaa
open Go.RowKit Go.Hi
attribute [local go_sem ↓ high] Lw_.loadF Lw_.storeF Lw_.v_cells Lw_.v_match
attribute [local go_sem] Lw_.loadF_new Lw_.storeF_zero Lw_.guard Lw_.guard_lit

theorem runM_len (l : List Oq) : (runM l).length ≤ l.length := by
  have h : ∀ i, i ≤ l.length → (runM (l.take i)).length ≤ i := by
    intro i
    induction i with
    | zero => intro _; exact Nat.le_refl _
    | succ i ih =>
      intro hi
      rw [runM_take (by omega)]
      have := len_step (runM (l.take i)) (l[i]'(by omega))
      have := ih (by omega)
      omega
  have := h l.length (Nat.le_refl _)
  rwa [List.take_length] at this

theorem below_drewN {B : Nat} {w w' : World} (h : Below B w w') (n : Nat) : Below B w (w'.drewN n) := ⟨h.os, h.tape, h.output, h.size, h.block⟩

set_option maxRecDepth 100000 in
set_option maxHeartbeats 4000000 in
theorem tables_any (l : List Oq) (sa : Option Addr) (c : Nat) {W : World} (hs : Oq_.Sl W sa l c) (hw : ∀ x ∈ l, (Lit.int .u64 x.p).wf = true) (p k : Int) (hp : (Lit.int .u64 p).wf = true) :
    Calls Try.prog 5 #[.slice sa l.length c, .int .u64 p, .int .i64 k] W fun e W' => e = .returned (.bool true) ∧ Below W.heap.size W W' := by
  have CL := Lib.hid lives19_any
  by_cases h30 : l.length ≤ 30
  case neg =>
    have hd : decide ((30 : Int) < (l.length : Int)) = true := decide_eq_true (by omega)
    clear hs hw hp
    go_enter Try.func5, Try.ntmps5
    go_wp2_with (go_at_call 10; refine (CL.out _).mono ?_; rintro e w2 ⟨rfl, h⟩; have B2 := Lib.hid h; clear h)
    go_returns
    exact ⟨rfl, B2.out⟩
  have hd : ¬ (30 : Int) < (l.length : Int) := by omega
  have hd' : decide ((30 : Int) < (l.length : Int)) = false := decide_eq_false hd
  have CR := Lib.hid (run_new l sa c hs hw h30)
  have hmm := @run_makeMap Try.prog
  obtain ⟨b, hb⟩ : ∃ b, W.heap.size = b := ⟨_, rfl⟩
  rw [hb] at CR
  have HP := Lib.hid hp
  have hml := runM_len l
  obtain ⟨M, hM⟩ : ∃ M, runM l = M := ⟨_, rfl⟩
  rw [hM] at CR hml
  have hM30 : M.length ≤ 30 := by omega
  have q2 : ∀ v w, (binOp .neq 23 (Lw_.v v) (Lw_.v v)).run Try.prog w = .ok (.bool false) w := fun v w => by rw [Lw_.neq, decide_eq_true rfl]; rfl
  clear hs hw hp hM hml
  go_enter Try.func5, Try.ntmps5
  go_wp2_with fail
  refine CR.out.mono ?_
  rintro e w2 ⟨v0, c', rfl, ht, hsb, hbel⟩
  have T2 := Lib.hid ht
  have S2 := Lib.hid hsb
  have B2 := Lib.hid (show Below W.heap.size W w2 by rw [hb]; exact hbel)
  have CP := Lib.hid (hiPeers_any 30 (by omega) hM30 sort30 sort_nil w2 ht)
  clear ht hsb hbel CR
  go_wp2_with fail
  refine CP.out.mono ?_
  rintro e w3 ⟨v1, c1, rfl, hsl, hbel⟩
  have HM := Lib.hid T2.out.ok
  have T3 := Lib.hid (T2.out.below hbel)
  have S3 := Lib.hid (S2.out.below hbel)
  have P3 := Lib.hid hsl
  have B3 := Lib.hid (B2.out.trans (hbel.mono B2.out.size))
  clear hsl hbel CP T2 S2 B2
  obtain ⟨y, hy⟩ : ∃ y, get M p k = y := ⟨_, rfl⟩
  have D1 : Hid (∀ w, Below w3.heap.size w3 w → Calls Try.prog 13 #[.map (some b), .int .u64 p, .int .i64 k] w fun e w' => e = .returned (Lw_.v y) ∧ Below w.heap.size w w') := fun w h => by
    rw [← hy]; exact hiGet_any p k w (T3.out.below h) HP.out
  have D2 : Hid (∀ w, Below w3.heap.size w3 w → Calls Try.prog 14 #[.slice v0 M.length c', .int .u64 p, .int .i64 k] w fun e w' => e = .returned (Lw_.v y) ∧ Below w.heap.size w w') := fun w h => by
    rw [← hy]; exact ref19Get_any M v0 c' p k w (S3.out.lies.below h) HM.out.1 (by omega)
  clear hy
  go_wp2_with (first
    | (go_at_call 13; refine (D1.out _ (by first | exact Below.refl _ _ | exact (Below.refl _ _).drew)).mono ?_; rintro e w4 ⟨rfl, h⟩; have N4 := Lib.hid (show Below w3.heap.size w3 w4 from h); clear h)
    | (go_at_call 14; refine (D2.out _ (by first | exact N4.out | exact N4.out.drew)).mono ?_; rintro e w5 ⟨rfl, h⟩; have N5 := Lib.hid (show Below w3.heap.size w3 w5 from N4.out.trans (h.mono N4.out.size)); clear h N4))
  go_loopw [40] (fun v wr => ∃ i : Nat, v = .int .i64 i ∧ i ≤ M.length ∧ Below w3.heap.size w3 wr) (fun v _ => M.length - (intOf v).toNat)
  case atStart => exact ⟨0, rfl, Nat.zero_le _, by first | exact N5.out | exact N5.out.drew⟩
  case round =>
    clear D1 D2 N5
    obtain ⟨i, rfl, hi, hbw⟩ := hrel
    have HB := Lib.hid hbw
    clear hbw
    by_cases hlt : i < M.length
    · obtain ⟨g2, off2, hv0, hbl2, hc2⟩ := S3.out.lies i hlt
      obtain ⟨g1, off1, hv1, hbl1, hc1⟩ := P3.out.lies i (by rw [ks_len]; exact hlt)
      subst hv0
      subst hv1
      obtain ⟨x, hx⟩ : ∃ x, x = M[i] := ⟨_, rfl⟩
      have hxm : x ∈ M := hx ▸ List.getElem_mem hlt
      rw [show (ks M)[i]'(by rw [ks_len]; exact hlt) = x.1 by rw [hx]; exact List.getElem_map ..] at hc1
      rw [← hx] at hc2
      have K1 := Lib.hid (fun w (h : Below w3.heap.size w3 w) => show w.cell? ⟨g1, off1 + i, none⟩ = some (.int .u64 x.1) from (h.cell hbl1).trans hc1)
      have K2 := Lib.hid (fun w (h : Below w3.heap.size w3 w) (j : Nat) (hj : j < 16) => show w.cell? ⟨g2, off2 + i * 16 + j, none⟩ = (Ew_.C (Es_.e1 x))[j]? from (h.cell hbl2).trans (hc2 j hj))
      have KW := Lib.hid (HM.out.2 x hxm)
      have KG := Lib.hid (fun (r : Nat) (hr : r < 5) => show get M x.1 (r : Int) = x.2.get r by
        unfold Hi.get
        rw [if_pos (show isF (r : Int) = true from decide_eq_true ⟨by omega, by omega⟩), find_some HM.out.1 hxm, Int.toNat_natCast])
      have c1 := K1.out wr HB.out
      have c2 := Es_.peer (K2.out wr HB.out)
      clear hc1 hc2 hxm hx hbl1 hbl2
      go_wp2
      go_quiet (fail)
      go_wp2
      have HB2 := Lib.hid (below_drewN HB.out nq)
      clear c1 c2
      go_loopw [11] (fun v wr => ∃ r : Nat, v = .int .i64 r ∧ r ≤ 5 ∧ Below w3.heap.size w3 wr) (fun v _ => 5 - (intOf v).toNat)
      case atStart => exact ⟨0, rfl, Nat.zero_le _, HB2.out⟩
      case round =>
        clear HB2 HB
        obtain ⟨r, rfl, hr, hbw⟩ := hrel
        have HB := Lib.hid hbw
        clear hbw
        by_cases hr5 : r < 5
        · obtain ⟨y2, hy2⟩ : ∃ y2, x.2.get r = y2 := ⟨_, rfl⟩
          have E1 : Hid (∀ q : Of (fun w' => Below w3.heap.size w3 w'), Calls Try.prog 13 #[.map (some b), .int .u64 x.1, .int .i64 (r : Int)] q.w fun e w' => e = .returned (Lw_.v y2) ∧ Below q.w.heap.size q.w w') := fun q => by
            rw [← hy2, ← KG.out r hr5]; exact hiGet_any x.1 r q.w (T3.out.below q.ok) KW.out
          have c1 : ∀ q : Of (fun w' => Below w3.heap.size w3 w'), q.w.cell? ⟨g1, off1 + i, none⟩ = some (.int .u64 x.1) := fun q => K1.out q.w q.ok
          have lk : ∀ q : Of (fun w' => Below w3.heap.size w3 w'), (Lw_.LoadF ⟨g2, off2 + i * 16 + 1 + r * 3, none⟩).run Try.prog q.w = .ok (Lw_.v y2) q.w := fun q => by
            rw [← hy2]; exact Es_.last (K2.out q.w q.ok) r hr5
          have ix := fun w => Es_.ixo g2 (off2 + i * 16 + 1) r hr5 w
          have HKB : Hid (∀ w w', Below w3.heap.size w3 w → Below w.heap.size w w' → Below w3.heap.size w3 w') := fun _ _ h hb => h.trans (hb.mono h.size)
          have _ne : Nonempty (Of (fun w' => Below w3.heap.size w3 w')) := ⟨⟨_, Below.refl _ _⟩⟩
          clear hy2
          go_wp2
          refine wp_region_of (fun w' => Below w3.heap.size w3 w') (by kernel_rfl) (Region.lexB_of_fast (by kernel_rfl)) HB.out.drew ?_
          repeat (go_big_quiet_step (first
            | (go_at_call 13; with_reducible exact Calls.of_below HKB.out (E1.out _))))
          refine wpQuiet_nil ?_
          rintro _ ⟨q, rfl⟩
          have HQ := Lib.hid q.ok
          go_wp2
          go_roundw
          case rel => exact ⟨r + 1, by go_num, by omega, HQ.out⟩
          case measure => simp [intOf]; omega
        · go_wp2
          go_roundw
          case rel => exact ⟨i + 1, by go_num, hlt, HB.out⟩
          case measure => simp [intOf]; omega
    · go_wp2_with (go_at_call 10; refine (CL.out _).mono ?_; rintro e w6 ⟨rfl, h⟩; have B6 := Lib.hid h; clear h)
      go_returns
      exact ⟨rfl, B3.out.trans ((HB.out.trans (B6.out.mono HB.out.size)).mono B3.out.size)⟩
theorem historyTables_walk0 (l : List Oq) (sa : Option Addr) (c : Nat) {W : World} (h : Oq_.Sl W sa l c) (_ : l.length ≤ maxLen) (hw : ∀ x ∈ l, (Lit.int .i64 x.k).wf = true ∧ (Lit.int .u64 x.p).wf = true ∧ (Lit.int .i64 x.w).wf = true ∧ (Lit.int .i64 x.x.q).wf = true ∧ (Lit.int .i64 x.x.f).wf = true)
    (x : Int) (hx : (Lit.int .u64 x).wf = true) (k : Int) (_ : (Lit.int .i64 k).wf = true) :
    Calls Try.prog 5 #[.slice sa l.length c, .int .u64 x, .int .i64 k] W fun e W' => e = .returned (.bool true) ∧ Below W.heap.size W W' := tables_any l sa c h (fun z hz => (hw z hz).2.1) x k hx
end Go.Proofs.Ytacjdgglfeemcaa
