/-
  WALKS of package beacon: paramsData, elements, Encode.
-/
import Derived.Test.YtojiffpmmgjpjaaDoorBnProg
import Derived.Test.YtojiffpmmgjpjaaDoorElDoneC
import Derived.Test.YtojiffpmmgjpjaaDoorQuietOf
import Derived.Deep.RegionHeld3
import Derived.Deep.AppendLies
namespace Go.Bn
open Go.Wr
theorem els_chk {b : Bn} (h : Ok b) (hw : TmW b.tm) : Go.Em.chk (els b) = 0 := by
  have ht := (Go.Tm.enc_sizes b.tm.c b.tm.p b.tm.g (s := b.tm.m.toNat) (by have := hw.2; omega)).2
  have hn := h.nm
  have z1 := oz_size (le b.ch.toNat 1)
  have z2 := oz_size (le b.ld.toNat 2)
  have z3 := oz_size (psL b 4)
  have z4 := oz_size (le b.sc.toNat 1 ++ le b.sn.toNat 1)
  rw [le_len] at z1 z2
  rw [psL_len] at z3
  rw [List.length_append, le_len, le_len] at z4
  unfold Go.Em.chk els
  rw [if_neg (by split <;> simp [els5])]
  refine Go.Em.chkL_ok.2 fun e he => Go.Em.chkE_ok.2 ?_
  split at he
  · simp [els5] at he; rcases he with rfl | rfl | rfl | rfl | rfl <;> exact ⟨by simp, by simp only; omega⟩
  · simp [els5, elS] at he; rcases he with rfl | rfl | rfl | rfl | rfl | rfl <;> exact ⟨by simp, by simp only; omega⟩
theorem els_len (b : Bn) : (els b).length = 5 ∨ (els b).length = 6 := by
  unfold els; split
  · left; rfl
  · right; rfl
end Go.Bn

namespace Go.Proofs.YtojiffpmmgjpjaaDoor
open Go.RowKit Go.Bn Go.Wr
attribute [local go_sem ↓ high] Bn_.loadF Bn_.storeF Bn_.v_cells Bn_.v_match Bn_.loadT Bn_.loadS Bn_.loadQ Bn_.Q_match
attribute [local go_sem] Bn_.C0 Bn_.C1 Bn_.C2 Bn_.C3 Bn_.C4 Bn_.C9 Bn_.C10 Bn_.loadF_new Bn_.loadQ_new

theorem oz_add (s t : List UInt8) (h : s.length + t.length ≤ 1000000) (W : World) : (Op.stringOp .add (oz s) (oz t)).run Tryd.prog W = .ok (.string (oz (s ++ t))) W := by
  have := run_string_add_sum (P := Tryd.prog) W (oz s) (oz t) (by rw [oz_size, oz_size]; omega)
  rw [this]
  congr 2

/-- Parameters in a block of their own. -/
structure Pb (w : World) (B : Nat) (q : Pr) (wi : World) : Prop where
  c0 : wi.cell? ⟨B, 0, none⟩ = some (.int .i64 q.a)
  c1 : wi.cell? ⟨B, 1, none⟩ = some (.int .i64 q.i)
  c2 : wi.cell? ⟨B, 2, none⟩ = some (.int .i64 q.x)
  c3 : wi.cell? ⟨B, 3, none⟩ = some (.int .i64 q.t)
  lt : B < wi.heap.size
  bel : Below w.heap.size w wi
theorem Pb.keep {w : World} {B : Nat} {q : Pr} (wi w' : World) (h : Pb w B q wi) (hb : Below wi.heap.size wi w') : Pb w B q w' :=
  ⟨(hb.cell h.lt).trans h.c0, (hb.cell h.lt).trans h.c1, (hb.cell h.lt).trans h.c2, (hb.cell h.lt).trans h.c3, Nat.lt_of_lt_of_le h.lt hb.size, h.bel.trans (hb.mono h.bel.size)⟩
theorem Pb.new {w wi : World} (h : Below w.heap.size w wi) (q : Pr) : Pb w wi.heap.size q (wi.alloc (.cells #[.int .i64 q.a, .int .i64 q.i, .int .i64 q.x, .int .i64 q.t] 28)) :=
  ⟨by simp, by simp, by simp, by simp, by simp, h.alloc h.size _⟩
theorem Pb.drew {w wi : World} {B : Nat} {q : Pr} (h : Pb w B q wi) : Pb w B q wi.drew := ⟨h.c0, h.c1, h.c2, h.c3, h.lt, h.bel.drew⟩

set_option maxRecDepth 100000 in
set_option maxHeartbeats 2000000 in
theorem bnParamsData_any (b : Bn) (w : World) (ho : ∀ k, k < 4 → prOk (b.pr k) = true) :
    Calls Tryd.prog 37 #[Bn_.Q b] w fun e w' => e = .returned (.string (oz (psL b 4))) ∧ Below w.heap.size w w' := by
  have H0 : Hid (oz (psL b 0) = ⟨#[]⟩) := rfl
  go_enter Tryd.func37, Tryd.ntmps37
  go_wp2
  go_loopw [3, 7] (fun s i wr => ∃ k : Nat, k ≤ 4 ∧ i = .int .i64 k ∧ s = .string (oz (psL b k)) ∧ Below w.heap.size w wr) (fun _ i _ => 4 - (intOf i).toNat)
  case atStart => exact ⟨0, by omega, rfl, by rw [H0.out], (Below.refl _ _).alloc (Nat.le_refl _) _⟩
  case round =>
    rename_i wr
    obtain ⟨k, hk, rfl, rfl, hb⟩ := hrel
    by_cases h4 : k < 4
    · have hix := fun W => Bn_.q_at b k h4 W
      have hok := prOk_iff.1 (ho k h4)
      have HS : Hid (psL b (k + 1) = psL b k ++ prL (b.pr k)) := rfl
      have hpl := psL_len b k
      have S1 := Lib.hid (Pb.new hb (b.pr k))
      generalize b.pr k = q at *
      have N1 : Hid (∀ w, Calls Tryd.prog 22 #[.int .i64 q.a, .int .i64 1] w fun e w' => e = .returned (.string (oz (le q.a.toNat 1))) ∧ Below w.heap.size w w') := fun w => bnNumber_any q.a 1 w (by decide) (by rw [pow1]; omega)
      have N2 : Hid (∀ w, Calls Tryd.prog 22 #[.int .i64 q.i, .int .i64 1] w fun e w' => e = .returned (.string (oz (le q.i.toNat 1))) ∧ Below w.heap.size w w') := fun w => bnNumber_any q.i 1 w (by decide) (by rw [pow1]; omega)
      have N3 : Hid (∀ w, Calls Tryd.prog 22 #[.int .i64 q.x, .int .i64 1] w fun e w' => e = .returned (.string (oz (le q.x.toNat 1))) ∧ Below w.heap.size w w') := fun w => bnNumber_any q.x 1 w (by decide) (by rw [pow1]; omega)
      have N4 : Hid (∀ w, Calls Tryd.prog 22 #[.int .i64 q.t, .int .i64 2] w fun e w' => e = .returned (.string (oz (le q.t.toNat 2))) ∧ Below w.heap.size w w') := fun w => bnNumber_any q.t 2 w (by decide) (by rw [pow2]; omega)
      have a1 := oz_add (le q.a.toNat 1) (le q.i.toNat 1) (by simp [le_len])
      have a2 := oz_add (le q.a.toNat 1 ++ le q.i.toNat 1) (le q.x.toNat 1) (by simp [le_len])
      have a3 := oz_add (le q.a.toNat 1 ++ le q.i.toNat 1 ++ le q.x.toNat 1) (le q.t.toNat 2) (by simp [le_len])
      have a4 : ∀ W, (Op.stringOp .add (oz (psL b k)) (oz (le q.a.toNat 1 ++ le q.i.toNat 1 ++ le q.x.toNat 1 ++ le q.t.toNat 2))).run Tryd.prog W = .ok (.string (oz (psL b (k + 1)))) W := fun W => by
        rw [HS.out]; exact oz_add (psL b k) (prL q) (by rw [hpl, prL_len]; omega) W
      obtain ⟨s1, hs1⟩ : ∃ s, s = oz (psL b (k + 1)) := ⟨_, rfl⟩
      rw [← hs1] at a4
      have HS1 := Lib.hid hs1
      clear hs1
      generalize oz (psL b k) = s0 at *
      generalize oz (le q.a.toNat 1 ++ le q.i.toNat 1 ++ le q.x.toNat 1 ++ le q.t.toNat 2) = y3 at *
      generalize oz (le q.a.toNat 1 ++ le q.i.toNat 1 ++ le q.x.toNat 1) = y2 at *
      generalize oz (le q.a.toNat 1 ++ le q.i.toNat 1) = y1 at *
      generalize oz (le q.a.toNat 1) = n1 at *
      generalize oz (le q.i.toNat 1) = n2 at *
      generalize oz (le q.x.toNat 1) = n3 at *
      generalize oz (le q.t.toNat 2) = n4 at *
      clear ho hok HS hpl hb H0
      go_wp2
      have d0 : ∀ p : Of (Pb w wr.heap.size q), p.w.cell? ⟨wr.heap.size, 0, none⟩ = some (.int .i64 q.a) := fun p => p.ok.c0
      have d1 : ∀ p : Of (Pb w wr.heap.size q), p.w.cell? ⟨wr.heap.size, 1, none⟩ = some (.int .i64 q.i) := fun p => p.ok.c1
      have d2 : ∀ p : Of (Pb w wr.heap.size q), p.w.cell? ⟨wr.heap.size, 2, none⟩ = some (.int .i64 q.x) := fun p => p.ok.c2
      have d3 : ∀ p : Of (Pb w wr.heap.size q), p.w.cell? ⟨wr.heap.size, 3, none⟩ = some (.int .i64 q.t) := fun p => p.ok.c3
      have _ne : Nonempty (Of (Pb w wr.heap.size q)) := ⟨⟨_, S1.out⟩⟩
      refine wp_region_of (Pb w wr.heap.size q) (by kernel_rfl) (by kernel_rfl) S1.out.drew ?_
      repeat (quiet_step (first
        | (go_at_call 22; with_reducible exact Calls.of_below Pb.keep (N1.out _))
        | (go_at_call 22; with_reducible exact Calls.of_below Pb.keep (N2.out _))
        | (go_at_call 22; with_reducible exact Calls.of_below Pb.keep (N3.out _))
        | (go_at_call 22; with_reducible exact Calls.of_below Pb.keep (N4.out _))))
      refine wpQuiet_nil ?_
      rintro _ ⟨p, rfl⟩
      go_wp2
      go_roundw
      case rel => exact ⟨k + 1, by omega, by go_num, by rw [HS1.out], p.ok.bel⟩
      case measure => simp [intOf]; omega
    · obtain rfl : k = 4 := by omega
      go_wp2
      go_ret
      exact ⟨rfl, hb⟩

/-- What elements hands back. -/
def ElsPost (b : Bn) (w : World) (e : Ending) (w' : World) : Prop :=
  ∃ v0 c, e = .returned (.slice v0 (els b).length c) ∧ El_.Sl w' v0 (els b) c ∧ Below w.heap.size w w'
theorem elsPost_of {b : Bn} {w w' : World} {e : Ending} {L : List Go.Em.El} {v0 : Option Addr} {c : Nat} (h : els b = L) (he : e = .returned (.slice v0 L.length c)) (ha : El_.Sl w' v0 L c) (hb : Below w.heap.size w w') : ElsPost b w e w' :=
  ⟨v0, c, by rw [h, he], by rw [h]; exact ha, hb⟩
/-- A beacon in its block, and a slice of elements of the call's own. -/
structure Enb (w : World) (b : Bn) (v : Value) (L : List Go.Em.El) (wi : World) : Prop where
  st : Stb w b wi
  own : wi.ownsRow (w.heap.size + 1) 49 2 v L.length (El_.flat L)
theorem Enb.keep {w wi w' : World} {b : Bn} {v : Value} {L : List Go.Em.El} (h : Enb w b v L wi) (hb : Below wi.heap.size wi w') : Enb w b v L w' := ⟨h.st.keep hb, owns_below h.own hb⟩
theorem Enb.drew {w wi : World} {b : Bn} {v : Value} {L : List Go.Em.El} (h : Enb w b v L wi) : Enb w b v L wi.drew := h.keep (Below.refl _ _).drew
theorem Stb.lits {w wi : World} {b : Bn} (h : Stb w b wi) (L : List Go.Em.El) (hl : L.length ≤ 100) : Enb w b (.slice (some ⟨wi.heap.size, 0, none⟩) L.length L.length) L (wi.alloc (.cells (El_.flat L).toArray 49)) := by
  have hs := h.bel.size
  have hlt := h.box.lt
  exact ⟨h.keep ((Below.refl _ _).alloc (Nat.le_refl _) _), El_.owns_lit wi L (by omega) (by unfold maxLen; omega)⟩

theorem Stb.keep1 {w wi w' : World} {b : Bn} (h : Stb w b wi) (hb : Below (w.heap.size + 1) wi w') : Stb w b w' := ⟨h.box.below hb (Nat.lt_succ_self _), h.bel.trans (hb.mono (Nat.le_succ _))⟩
theorem tmEncode_bn (t : Go.Tm.Tm) (h : TmW t) (h0 : chkT t = 0) (w : World) :
    Calls Tryd.prog 36 #[.agg #[.int .i64 t.c, .int .i64 t.p, .bool t.g, .int .u64 t.m]] w fun e w' => e = .returned (.tuple #[.string (Go.Tm.enc t.c t.p t.g t.m.toNat), .int .i64 0]) ∧ Below w.heap.size w w' := by
  have := tmEncode_any t.c t.p t.g t.m.toNat w (by have := h.2; omega)
  rw [show Go.Tm.encR t.c t.p t.g t.m.toNat = Go.Tm.enc t.c t.p t.g t.m.toNat from if_pos h0, show Go.Tm.chk t.c t.p t.m.toNat = 0 from h0, Int.toNat_of_nonneg h.1] at this
  exact this

/-- Behind one element more in a block of its own. -/
theorem Enb.next {w wi : World} {b : Bn} {g : Nat} (h : Enb w b (.slice (some ⟨g, 0, none⟩) 5 5) (els5 b) wi) (z : ByteArray) :
    Stb w b (wi.alloc (.cells #[.int .i64 37, .string z] 49)) ∧
    (wi.alloc (.cells #[.int .i64 37, .string z] 49)).ownsRow (w.heap.size + 1) 49 2 (.slice (some ⟨g, 0, none⟩) 5 5) 5 (El_.flat (els5 b)) ∧
    (∀ j u, ([.int .i64 37, .string z] : List Value)[j]? = some u → (wi.alloc (.cells #[.int .i64 37, .string z] 49)).cell? ((⟨wi.heap.size, 0, none⟩ : Addr).add j) = some u) ∧
    w.heap.size + 1 ≤ (wi.alloc (.cells #[.int .i64 37, .string z] 49)).heap.size := by
  have hlt := h.st.box.lt
  refine ⟨h.st.keep ((Below.refl _ _).alloc (Nat.le_refl _) _), h.own.alloc _, ?_, by simp; omega⟩
  exact World.news_of_block (cs := #[.int .i64 37, .string z]) (t := 49) (fr := (0, 0)) (by show (wi.heap.push _)[wi.heap.size]? = _; rw [Array.getElem?_push, if_pos rfl])

set_option maxRecDepth 100000 in
set_option maxHeartbeats 8000000 in
theorem bnElements_any (b : Bn) (w : World) (hw : TmW b.tm) (hb : Ok b) :
    Calls Tryd.prog 21 #[Bn_.v b] w fun e w' => ElsPost b w e w' := by
  have HI := Lib.hid (info_parts El_.info)
  have hch := hb.ch
  have hld := hb.ld
  have hsw := hb.sw
  have CE := Lib.hid fun w => tmEncode_bn b.tm hw hb.tm w
  have CP := Lib.hid fun w => bnParamsData_any b w (oks_all.1 (oks_four.2 hb.ps))
  have CA := Lib.hid fun w => bnAnnounced_any b.sc b.sn w
  have N1 : Hid (∀ w, Calls Tryd.prog 22 #[.int .i64 b.ch, .int .i64 1] w fun e w' => e = .returned (.string (oz (le b.ch.toNat 1))) ∧ Below w.heap.size w w') := fun w => bnNumber_any b.ch 1 w (by decide) (by rw [pow1]; omega)
  have N2 : Hid (∀ w, Calls Tryd.prog 22 #[.int .i64 b.ld, .int .i64 2] w fun e w' => e = .returned (.string (oz (le b.ld.toNat 2))) ∧ Below w.heap.size w w') := fun w => bnNumber_any b.ld 2 w (by decide) (by rw [pow2]; omega)
  have N3 : Hid (∀ w, Calls Tryd.prog 22 #[.int .i64 b.sc, .int .i64 1] w fun e w' => e = .returned (.string (oz (le b.sc.toNat 1))) ∧ Below w.heap.size w w') := fun w => bnNumber_any b.sc 1 w (by decide) (by rw [pow1]; omega)
  have N4 : Hid (∀ w, Calls Tryd.prog 22 #[.int .i64 b.sn, .int .i64 1] w fun e w' => e = .returned (.string (oz (le b.sn.toNat 1))) ∧ Below w.heap.size w w') := fun w => bnNumber_any b.sn 1 w (by decide) (by rw [pow1]; omega)
  have a1 := oz_add (le b.sc.toNat 1) (le b.sn.toNat 1) (by simp [le_len])
  have HL : Hid ((El_.flat (els5 b)).toArray = #[.int .i64 0, .string b.nm, .int .i64 3, .string (oz (le b.ch.toNat 1)), .int .i64 5, .string (Go.Tm.enc b.tm.c b.tm.p b.tm.g b.tm.m.toNat), .int .i64 11, .string (oz (le b.ld.toNat 2)), .int .i64 12, .string (oz (psL b 4))]) := rfl
  have HS : Hid (elS b = ⟨37, oz (le b.sc.toNat 1 ++ le b.sn.toNat 1)⟩) := rfl
  have H5 : Hid ((els5 b).length = 5) := rfl
  have HE0 : Hid (b.sc = 0 → els b = els5 b) := fun h => if_pos h
  have HE1 : Hid (¬ b.sc = 0 → els b = els5 b ++ [elS b]) := fun h => if_neg h
  generalize Go.Tm.enc b.tm.c b.tm.p b.tm.g b.tm.m.toNat = m at *
  generalize oz (le b.sc.toNat 1 ++ le b.sn.toNat 1) = z at *
  generalize oz (le b.ch.toNat 1) = n1 at *
  generalize oz (le b.ld.toNat 2) = n2 at *
  generalize oz (le b.sc.toNat 1) = n3 at *
  generalize oz (le b.sn.toNat 1) = n4 at *
  generalize oz (psL b 4) = ps at *
  obtain ⟨w1, hw1⟩ : ∃ w1, w.alloc (.cells (Bn_.C b) 31) = w1 := ⟨_, rfl⟩
  have S1 := Lib.hid (show Stb w b w1 from hw1 ▸ Stb.new w b)
  have lt := S1.out.box.loadT
  clear hch hld hsw hb hw
  go_enter Tryd.func21, Tryd.ntmps21
  go_wp2_with (go_at_call 36; refine (CE.out _).mono ?_; rintro e w2 ⟨rfl, hb⟩; have S2 := Lib.hid (S1.out.keep hb); clear hb lt)
  have q0 := S2.out.box.drew.all
  have q1 := S2.out.box.drew.loadQ
  have q2 : Stb w b w2.drew := ⟨S2.out.box.drew, S2.out.bel.drew⟩
  go_region_held3 (fun w' => (∀ j : Nat, w'.cell? ⟨w.heap.size, j, none⟩ = (Bn_.C b)[j]?) ∧ (Bn_.LoadQ ⟨w.heap.size, 11, none⟩).run Tryd.prog w' = .ok (Bn_.Q b) w' ∧ Stb w b w') (first | exact ⟨by assumption, by assumption, by assumption⟩ | exact ⟨u3.box.all, u3.box.loadQ, u3⟩ | go_keep)
    (first
    | (go_at_call 22; with_reducible refine (N1.out _).mono ?_; rintro e w3 ⟨rfl, hb⟩; have r2 := q2.keep hb; have r0 := r2.box.all; have r1 := r2.box.loadQ)
    | (go_at_call 22; with_reducible refine (N2.out _).mono ?_; rintro e w4 ⟨rfl, hb⟩; have s2 := r2.keep hb; have s0 := s2.box.all; have s1 := s2.box.loadQ)
    | (go_at_call 37; refine (CP.out _).mono ?_; rintro e w5 ⟨rfl, hb⟩; have t2 := s2.keep hb; have t0 := t2.box.all; have t1 := t2.box.loadQ; have u := t2.lits (els5 b) (by rw [H5.out]; decide); rw [HL.out, H5.out] at u; have u3 := u.st))
  have E1 := Lib.hid u
  have ls := u3.box.loadS
  clear q0 q1 q2 r0 r1 r2 s0 s1 s2 t0 t1 t2 u u3 S1 S2 N1 N2
  by_cases hc : b.sc = 0
  · have hc' : (b.sc != 0) = false := by rw [hc]; rfl
    have HQ := Lib.hid (HE0.out hc)
    rw [hc'] at CA
    clear hc
    go_wp2_with (go_at_call 38; refine (CA.out _).mono ?_; rintro e w6 ⟨rfl, hb⟩; have E2 := Lib.hid (E1.out.keep hb); clear hb)
    go_ret
    exact elsPost_of HQ.out rfl (El_.sl_owns E2.out.own) E2.out.st.bel
  · have hc' : (b.sc != 0) = true := by simp [hc]
    have HQ := Lib.hid (HE1.out hc)
    rw [hc'] at CA
    clear hc
    go_wp2_with (go_at_call 38; refine (CA.out _).mono ?_; rintro e w6 ⟨rfl, hb⟩; have E2 := Lib.hid (E1.out.keep hb); clear hb)
    have q0 := E2.out.st.box.drew.all
    have q2 := E2.out.drew
    have q3 := q2.st
    obtain ⟨i0, hi, hz0, hz1, hz2⟩ := HI.out
    go_region_held3 (fun w' => (∀ j : Nat, w'.cell? ⟨w.heap.size, j, none⟩ = (Bn_.C b)[j]?) ∧ Stb w b w') (first | exact ⟨by assumption, by assumption⟩ | exact ⟨s4.box.all, s4⟩ | go_keep)
      (first
      | (go_at_call 22; with_reducible refine (N3.out _).mono ?_; rintro e w7 ⟨rfl, hb⟩; have r2 := q2.keep hb; have r3 := r2.st; have r0 := r3.box.all)
      | (go_at_call 22; with_reducible refine (N4.out _).mono ?_; rintro e w8 ⟨rfl, hb⟩; have s2 := r2.keep hb; have s3 := s2.st; have s0 := s3.box.all; obtain ⟨s4, own8, new8, le8⟩ := s2.next z)
      | (refine step_append_lies _ rfl (.tmp 33) (.tmp 44) 32 rfl (w.heap.size + 1) 49 i0 (.agg #[.int .i64 0, .string ⟨#[]⟩]) 2 24 Tryd.underlying32 hi hz0 hz1 hz2 rfl (by decide) (.slice (some ⟨w5.heap.size, 0, none⟩) 5 5) 5 (El_.flat (els5 b)) (by simp [Act.eval]) own8 ⟨w8.heap.size, 0, none⟩ 1 1 [.int .i64 37, .string z] (by simp [Act.eval]) rfl new8 (by intro u hu; simp at hu; rcases hu with rfl | rfl <;> rfl) (by decide) (by unfold maxLen; decide) (by decide) le8 _ rfl ?_; intro g cap w9 hown3 hgrow hat hlt3; have x4 := s4.keep1 (Below.grown (Below.refl (w.heap.size + 1) _) hgrow le8 (fun j hj => (own8.lt j hj).1)); have x0 := x4.box.all))
    go_wp2
    go_ret
    refine elsPost_of HQ.out ?_ (c := cap) (v0 := some ⟨g, 0, none⟩) (El_.sl_owns (base := w.heap.size + 1) ?_) x4.bel
    · rw [List.length_append, H5.out]; rfl
    · rw [List.length_append, H5.out, El_.flat_append, HS.out]
      exact hown3
end Go.Proofs.YtojiffpmmgjpjaaDoor
