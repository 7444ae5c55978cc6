/-
  WALKS of the reference of layer 22: with, bit, among, trim, SameSent, Same.
-/
import Derived.Test.YtldeflpaghbmmaaWnRef1
import Derived.Test.YtldeflpaghbmmaaWnEq
import Derived.Deep.LoopGhost
namespace Go.Proofs.Ytldeflpaghbmmaa
open Go.RowKit Go.Wn Go.Sq Go.Wr
attribute [local go_sem ↓ high] Wv_.loadF Wv_.storeF Wv_.v_cells Wv_.v_match
attribute [local go_sem] Wv_.C0 Wv_.C1 Wv_.C2 Wv_.C3 Wv_.loadF_new Wv_.storeF_zero Oper.semAt_some

theorem below_rowV {w wi : World} {r : Nat} (hb : Below w.heap.size w wi) (hr : w.heap.size ≤ r) (c : Array Value) : Below w.heap.size w (wi.setRow r c) := below_row22 hb hr c
/-- Results handed back out of a result's cell. -/
theorem ret_wv1 {fn : Func} {p : Tmp} (hr : fn.results = #[.cell p 24]) {tmps : Array Value} {ds : _} {w : World} {g : Nat} {y : Wn} {R : Ending → World → Prop} (hp : tmps.getD p undef = .pointer (some ⟨g, 0, none⟩)) (hb : Wv_.Box w g y) (hd : ds = []) (hR : R (.returned (Wv_.v y)) w) :
    bodyPost Try.prog fn R .ret ⟨tmps, ds⟩ w := by
  refine bodyPost_ret (v := Wv_.v y) ?_ hd hR
  have hp' : tmps[p]?.getD undef = .pointer (some ⟨g, 0, none⟩) := by simpa using hp
  have hl := run_loadVar_row w g 24 24 (Wv_.C y) (0, 0) _ hb Try.underlying24 rfl Wv_.sz
  simp [results, hr, hp', asAddr, hl]
  rfl
theorem ret_wv2 {fn : Func} {p q : Tmp} (hr : fn.results = #[.cell p 24, .tmp q]) {tmps : Array Value} {ds : _} {w : World} {g : Nat} {y : Wn} {vq : Value} {R : Ending → World → Prop} (hp : tmps.getD p undef = .pointer (some ⟨g, 0, none⟩)) (hq : tmps.getD q undef = vq) (hb : Wv_.Box w g y) (hd : ds = []) (hR : R (.returned (.tuple #[Wv_.v y, vq])) w) :
    bodyPost Try.prog fn R .ret ⟨tmps, ds⟩ w := by
  refine bodyPost_ret (v := .tuple #[Wv_.v y, vq]) ?_ hd hR
  have hp' : tmps[p]?.getD undef = .pointer (some ⟨g, 0, none⟩) := by simpa using hp
  have hq' : tmps[q]?.getD undef = vq := by simpa using hq
  have hl := run_loadVar_row w g 24 24 (Wv_.C y) (0, 0) _ hb Try.underlying24 rfl Wv_.sz
  simp [results, hr, hp', hq', asAddr, hl]
  rfl
theorem ret_wv3 {fn : Func} {p q r : Tmp} (hr : fn.results = #[.cell p 24, .tmp q, .tmp r]) {tmps : Array Value} {ds : _} {w : World} {g : Nat} {y : Wn} {vq vr : Value} {R : Ending → World → Prop} (hp : tmps.getD p undef = .pointer (some ⟨g, 0, none⟩)) (hq : tmps.getD q undef = vq) (hr' : tmps.getD r undef = vr) (hb : Wv_.Box w g y) (hd : ds = []) (hR : R (.returned (.tuple #[Wv_.v y, vq, vr])) w) :
    bodyPost Try.prog fn R .ret ⟨tmps, ds⟩ w := by
  refine bodyPost_ret (v := .tuple #[Wv_.v y, vq, vr]) ?_ hd hR
  have hp' : tmps[p]?.getD undef = .pointer (some ⟨g, 0, none⟩) := by simpa using hp
  have hq' : tmps[q]?.getD undef = vq := by simpa using hq
  have hr'' : tmps[r]?.getD undef = vr := by simpa using hr'
  have hl := run_loadVar_row w g 24 24 (Wv_.C y) (0, 0) _ hb Try.underlying24 rfl Wv_.sz
  simp [results, hr, hp', hq', hr'', asAddr, hl]
  rfl

/-- What came in in its cell, the result's cell, of the reference. -/
structure TwoV (w : World) (x y : Wn) (wi : World) : Prop where
  bx : Wv_.Box wi w.heap.size x
  rs : Wv_.Box wi (w.heap.size + 1) y
  bel : Below w.heap.size w wi
theorem TwoV.new {w w1 w2 : World} {x y : Wn} (h1 : w.alloc (.cells (Wv_.C x) 24) = w1) (h2 : w1.alloc (.cells (Wv_.C y) 24) = w2) : TwoV w x y w2 := by
  subst h1 h2
  refine ⟨(Wv_.Box.new w x).allocC _, ?_, ((Below.refl _ _).alloc (Nat.le_refl _) _).alloc (by simp) _⟩
  have := Wv_.Box.new (w.alloc (.cells (Wv_.C x) 24)) y
  rwa [show (w.alloc (.cells (Wv_.C x) 24)).heap.size = w.heap.size + 1 by simp] at this
theorem TwoV.size {w wi : World} {x y : Wn} (h : TwoV w x y wi) : w.heap.size + 2 ≤ wi.heap.size := h.rs.lt
theorem TwoV.below {w wi wj : World} {x y : Wn} (h : TwoV w x y wi) (hb : Below wi.heap.size wi wj) : TwoV w x y wj :=
  ⟨h.bx.below hb h.bx.lt, h.rs.below hb h.rs.lt, h.bel.trans (hb.mono h.bel.size)⟩
theorem TwoV.drew {w wi : World} {x y : Wn} (h : TwoV w x y wi) : TwoV w x y wi.drew := ⟨h.bx, h.rs, ⟨h.bel.os, h.bel.tape, h.bel.output, h.bel.size, h.bel.block⟩⟩
theorem TwoV.setY {w wi : World} {x y : Wn} (h : TwoV w x y wi) (y' : Wn) : TwoV w x y' (wi.setRow (w.heap.size + 1) (Wv_.C y')) :=
  ⟨(Wv_.setRow_other (by omega) _).trans h.bx, h.rs.setRow y', below_rowV h.bel (Nat.le_succ _) _⟩
theorem TwoV.set1 {w wi : World} {x y : Wn} (h : TwoV w x y wi) (u : Int) : TwoV w { x with sz := u } y (wi.setCell ⟨w.heap.size, 1, none⟩ (.int .i64 u)) :=
  ⟨h.bx.set1 u, h.rs.other (by show w.heap.size + 1 ≠ w.heap.size; omega) _, below_set22 h.bel (Nat.le_refl _) _⟩
theorem TwoV.set2 {w wi : World} {x y : Wn} (h : TwoV w x y wi) (sa : Option Addr) (n c : Nat) : TwoV w { x with sa := sa, n := n, c := c } y (wi.setCell ⟨w.heap.size, 2, none⟩ (.slice sa n c)) :=
  ⟨h.bx.set2 sa n c, h.rs.other (by show w.heap.size + 1 ≠ w.heap.size; omega) _, below_set22 h.bel (Nat.le_refl _) _⟩

set_option maxRecDepth 100000 in
set_option maxHeartbeats 2000000 in
theorem r22_with_any (x : Wn) (sa : Option Addr) (n c : Nat) (w : World) : Calls Try.prog 47 #[Wv_.v x, .slice sa n c] w fun e w' => e = .returned (Wv_.v { x with sa := sa, n := n, c := c }) ∧ Below w.heap.size w w' := by
  obtain ⟨w1, hw1⟩ : ∃ w1, w.alloc (.cells (Wv_.C x) 24) = w1 := ⟨_, rfl⟩
  obtain ⟨w2, hw2⟩ : ∃ w2, w1.alloc (.cells (Wv_.C zw) 24) = w2 := ⟨_, rfl⟩
  have hw2' : w1.alloc (.cells #[.int .i64 0, .int .i64 0, .slice none 0 0, .bool false] 24) = w2 := hw2
  have z1 : w1.heap.size = w.heap.size + 1 := by rw [← hw1]; simp
  have T2 := Lib.hid (TwoV.new hw1 hw2)
  have e1 := T2.out.bx.all
  have f1 := T2.out.bx.frozen
  have T3 := Lib.hid (T2.out.set2 sa n c)
  have l3 := T3.out.bx.loadF
  have t3 := T3.out.rs.storeF { x with sa := sa, n := n, c := c }
  have T4 := Lib.hid (T3.out.setY { x with sa := sa, n := n, c := c })
  clear hw2
  go_enter Try.func47, Try.ntmps47
  go_wp2
  exact ret_wv1 Try.results47 rfl T4.out.rs rfl ⟨rfl, T4.out.bel⟩

set_option maxRecDepth 100000 in
set_option maxHeartbeats 2000000 in
theorem r22_trim_any (sa : Option Addr) (l : List Sn) (c : Nat) (w : World) (hS : Sn_.Sl w sa l c) (hl : l.length ≤ 1000) :
    Calls Try.prog 57 #[.slice sa l.length c] w fun e w' => ∃ sa' c', e = .returned (.slice sa' (trimL l).length c') ∧ Sn_.Sl w sa' (trimL l) c' ∧ Sib sa' sa ∧ w = w' := by
  obtain ⟨x, hx⟩ : ∃ x : Wn, x = ⟨0, 0, sa, l.length, c, false⟩ := ⟨_, rfl⟩
  have R0 := Lib.hid (show Tr w x ⟨0, 0, l, false⟩ x l by subst hx; exact ⟨rfl, rfl, rfl, rfl, hS, rfl, fun bb off e => ⟨off, e⟩⟩)
  have HX := Lib.hid hx
  have HLN := Lib.hid hl
  clear hS hl hx
  go_enter Try.func57, Try.ntmps57
  go_wp2
  go_loopg [0] l.length (fun k v wr => ∃ (y : Wn) (L : List Sn), v = .slice y.sa y.n y.c ∧ L.length = k ∧ k ≤ 1000 ∧ Hid (Tr w x ⟨0, 0, l, false⟩ y L) ∧ wr = w)
  case atStart => exact ⟨x, l, by rw [HX.out], rfl, HLN.out, R0, rfl⟩
  case round =>
    obtain ⟨y, L, rfl, hLk, hk, HR, rfl⟩ := hrel
    by_cases h0 : L.length = 0
    · have hn : y.n = 0 := HR.out.n.trans h0
      have HF := Lib.hid (show trimL l = L by rw [← HR.out.eq, List.eq_nil_of_length_eq_zero h0]; rfl)
      clear hLk hk h0
      go_wp2
      go_returns
      rw [HF.out]
      exact ⟨y.sa, y.c, by rw [← HR.out.n]; rfl, HR.out.sl, by have h := HR.out.sib; rw [HX.out] at h; exact h, rfl⟩
    · have hl0 : 0 < L.length := by omega
      obtain ⟨b, off, hsa, hbl, -, -, -, k3, -⟩ := HR.out.sl.lies 0 hl0
      have c3 := k3
      rw [Nat.zero_mul, Nat.add_zero] at c3
      have hn : 0 < y.n := by rw [HR.out.n]; exact hl0
      have hn2 : (0 : Int) < (y.n : Int) := by omega
      have hn3 : ¬ (y.n = 0) := by omega
      have hle : y.n ≤ y.c := by rw [HR.out.n]; exact HR.out.sl.le
      cases hd : L[0].dn
      · rw [hd] at c3
        have HF := Lib.hid (show trimL l = L by rw [← HR.out.eq]; exact trimL_open hl0 hd)
        have HSA := Lib.hid hsa
        clear hLk hk h0 k3 hbl hl0 hd
        go_wp2
        go_returns
        rw [HF.out]
        exact ⟨y.sa, y.c, by rw [← HR.out.n, HSA.out]; rfl, HR.out.sl, by have h := HR.out.sib; rw [HX.out] at h; exact h, rfl⟩
      · rw [hd] at c3
        have HR2 := Lib.hid (HR.out.step hl0 hd)
        have hLd : Hid ((L.drop 1).length < gk ∧ (L.drop 1).length ≤ 1000) := by
          show _ ∧ _
          rw [List.length_drop]; omega
        by_cases hc : y.c = 1
        · have hcu : cut22 y.sa 1 y.c = some ⟨b, off, none⟩ := by
            unfold cut22
            rw [hsa, Option.map_some, if_pos hc]
          have hn1 : y.n = 1 := by omega
          rw [hcu] at HR2
          simp only [hc, hn1, Nat.sub_self] at HR2
          clear hn hn2 hn3 hle
          clear hLk hk h0 k3 hbl hl0 hd hcu
          go_wp2
          go_roundg ((L.drop 1).length)
          case measure => exact hLd.out.1
          case rel => exact ⟨_, L.drop 1, rfl, rfl, hLd.out.2, HR2, by first | rfl | trivial⟩
        · have hcu : cut22 y.sa 1 y.c = some ⟨b, off + 5, none⟩ := by
            unfold cut22
            rw [hsa, Option.map_some, if_neg hc, Addr.add_lit]
          rw [hcu] at HR2
          have hc2 : 1 < y.c := by omega
          clear hLk hk h0 k3 hbl hl0 hd hcu
          go_wp2
          go_roundg ((L.drop 1).length)
          case measure => exact hLd.out.1
          case rel => exact ⟨_, L.drop 1, rfl, rfl, hLd.out.2, HR2, by first | rfl | trivial⟩

theorem amg_ref {l : List Int} {q : Int} (hq : 0 ≤ q ∧ q < 4096) : amg l q = l.any (fun n => decide (md n = q)) := by
  unfold amg
  congr 1
  funext n
  rw [decide_eq_decide]
  unfold dist md
  omega
theorem any_take22 {l : List Int} {p : Int → Bool} {i : Nat} (h : i < l.length) : (l.take (i + 1)).any p = ((l.take i).any p || p l[i]) := by
  rw [List.take_succ_eq_append_getElem h, List.any_append]
  simp

set_option maxRecDepth 100000 in
set_option maxHeartbeats 4000000 in
theorem r22_among_any (sa : Option Addr) (l : List Int) (c : Nat) (q : Int) (w : World) (hS : Is_.Sl w sa l c) (hl : l.length ≤ 1000) (hq : 0 ≤ q ∧ q < 4096) :
    Calls Try.prog 64 #[.slice sa l.length c, .int .i64 q] w fun e w' => e = .returned (.bool (amg l q)) ∧ w = w' := by
  rw [amg_ref hq]
  have HS := Lib.hid hS
  have HL := Lib.hid hl
  have CM := Lib.hid r22_mod_any
  clear hS hl hq
  generalize hn : l.length = n at *
  have HN := Lib.hid hn
  clear hn
  go_enter Try.func64, Try.ntmps64
  go_wp2
  go_loopw [5] (fun z wr => ∃ i : Nat, z = .int .i64 i ∧ i ≤ n ∧ Hid ((l.take i).any (fun n => decide (md n = q)) = false) ∧ wr = w) (fun z _ => n - (intOf z).toNat)
  case atStart => exact ⟨0, rfl, Nat.zero_le _, rfl, rfl⟩
  case round =>
    obtain ⟨i, rfl, hi, HA, rfl⟩ := hrel
    by_cases hlt : i < n
    · have hil : i < l.length := by have := HN.out; omega
      obtain ⟨b, off, hsa, hbl, k0⟩ := HS.out.lies i hil
      subst hsa
      have HT := Lib.hid (any_take22 (p := fun n => decide (md n = q)) hil)
      have HM := Lib.hid (fun (h : md l[i] = q) => show l.any (fun n => decide (md n = q)) = true from List.any_eq_true.2 ⟨_, List.getElem_mem hil, decide_eq_true h⟩)
      have CNi := Lib.hid (CM.out l[i])
      have hle : n ≤ c := by have := HS.out.le; have := HN.out; omega
      generalize l[i] = h at *
      have hi1 : i ≤ 1000 := by have := HL.out; omega
      clear hbl hil
      have HLT := Lib.hid hlt
      by_cases hd : md h = q
      · have HF := Lib.hid (HM.out hd)
        clear HT HM
        have HD : Hid ((md h == q) = true) := by show _ = _; rw [beq_iff_eq]; exact hd
        have hd2 := HD.out
        generalize md h = m at *
        clear hd
        go_wp2_with (go_at_call 16; refine (CNi.out _).mono ?_; rintro e w' ⟨rfl, rfl⟩)
        go_returns
        exact ⟨by rw [HF.out]; rfl, rfl⟩
      · have HF : Hid ((l.take (i + 1)).any (fun n => decide (md n = q)) = false) := by
          show _ = _
          rw [HT.out, HA.out]
          show (false || decide (md h = q)) = false
          rw [decide_eq_false hd]; rfl
        clear HT HM
        have HD : Hid ((md h == q) = false) := by show _ = _; rw [beq_eq_false_iff_ne]; exact hd
        have hd2 := HD.out
        generalize md h = m at *
        clear hd
        go_wp2_with (go_at_call 16; refine (CNi.out _).mono ?_; rintro e w' ⟨rfl, rfl⟩)
        go_roundw
        case rel => exact ⟨i + 1, by go_num, HLT.out, HF, by first | rfl | trivial⟩
        case measure => have := HLT.out; simp [intOf]; omega
    · obtain rfl : i = n := by omega
      rw [show l.take i = l by rw [← HN.out, List.take_length]] at HA
      go_wp2
      go_returns
      exact ⟨by rw [HA.out]; rfl, rfl⟩
end Go.Proofs.Ytldeflpaghbmmaa
