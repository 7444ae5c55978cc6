/-
  WALKS of the reference of layer 22: bit, SameSent, Same.
-/
import Derived.Test.YtldeflpaghbmmaaWnRef2
namespace Go.Proofs.Ytldeflpaghbmmaa
open Go.RowKit Go.Wn Go.Sq Go.Wr
attribute [local go_sem ↓ high] Wv_.loadF Wv_.storeF Wv_.v_cells Wv_.v_match
attribute [local go_sem] Wv_.C0 Wv_.C1 Wv_.C2 Wv_.C3 Wv_.loadF_new Wv_.storeF_zero Oper.semAt_some

theorem half22 (m i : Nat) : m / 2 ^ i / 2 = m / 2 ^ (i + 1) := by rw [Nat.div_div_eq_div_mul, Nat.pow_succ]
theorem bitEq22 (m k : Nat) : (((m / 2 ^ k : Nat) : Int) % 2 == 1) = m.testBit k := by
  rw [Nat.testBit_eq_decide_div_mod_eq]
  generalize m / 2 ^ k = X
  by_cases h : X % 2 = 1
  · rw [decide_eq_true h, beq_iff_eq]; omega
  · rw [decide_eq_false h, beq_eq_false_iff_ne]; omega

set_option maxRecDepth 100000 in
set_option maxHeartbeats 2000000 in
theorem r22_bit_any (m : Nat) (d : Int) (w : World) (hm : m < 18446744073709551616) (h0 : 0 ≤ d) (h1 : d < 64) :
    Calls Try.prog 56 #[.int .u64 m, .int .i64 d] w fun e w' => e = .returned (.bool (bt m d)) ∧ w = w' := by
  obtain ⟨D, rfl⟩ : ∃ D : Nat, d = (D : Int) := ⟨d.toNat, by omega⟩
  have HB : Hid (bt m (D : Int) = m.testBit D) := by unfold bt; rw [Int.toNat_natCast]; exact rfl
  rw [HB.out]
  have HM := Lib.hid hm
  have hD : D < 64 := by omega
  clear h0 h1 hm
  go_enter Try.func56, Try.ntmps56
  go_wp2
  go_loopw [0, 5] (fun v z wr => ∃ i : Nat, v = .int .u64 ((m / 2 ^ i : Nat) : Int) ∧ z = .int .i64 i ∧ i ≤ D ∧ wr = w) (fun _ z _ => D - (intOf z).toNat)
  case atStart => exact ⟨0, by rw [Nat.pow_zero, Nat.div_one], rfl, Nat.zero_le _, rfl⟩
  case round =>
    obtain ⟨i, rfl, rfl, hi, rfl⟩ := hrel
    have hX : m / 2 ^ i < 18446744073709551616 := Nat.lt_of_le_of_lt (Nat.div_le_self _ _) HM.out
    by_cases hlt : i < D
    · have HH := Lib.hid (half22 m i)
      have HLT := Lib.hid hlt
      generalize m / 2 ^ i = X at *
      go_wp2
      go_roundw
      case rel => exact ⟨i + 1, by rw [← HH.out]; rfl, by go_num, HLT.out, by first | rfl | trivial⟩
      case measure => have := HLT.out; simp [intOf]; omega
    · obtain rfl : i = D := by omega
      have HE := Lib.hid (bitEq22 m i)
      generalize m / 2 ^ i = X at *
      go_wp2
      go_returns
      exact ⟨by rw [← HE.out]; rfl, rfl⟩

theorem below_drewN22 {B : Nat} {w wi : World} (h : Below B w wi) (n : Nat) : Below B w (wi.drewN n) := ⟨h.os, h.tape, h.output, h.size, h.block⟩

set_option maxRecDepth 100000 in
set_option maxHeartbeats 4000000 in
theorem r22_sameSent_any (L : List Sn) (sa sb : Option Addr) (c c' : Nat) (w : World) (h : Sn_.Sl w sa L c) (h' : Sn_.Sl w sb L c') (hl : L.length ≤ 1000) :
    Calls Try.prog 24 #[.slice sa L.length c, .slice sb L.length c'] w fun e w' => e = .returned (.bool true) ∧ Below w.heap.size w w' := by
  have HA := Lib.hid h.lies
  have HB' := Lib.hid h'.lies
  have NE : ∀ (x : Sn) (w : World), (binOp .neq 76 (.agg #[.int .i64 x.id, .int .i64 x.q, .int .i64 x.tr, .bool x.dn, .string x.da]) (.agg #[.int .i64 x.id, .int .i64 x.q, .int .i64 x.tr, .bool x.dn, .string x.da])).run Try.prog w = .ok (.bool false) w := Sn_.neq
  have GU : ∀ (op : BinOp) (a b : Operand) (x : Sn) (w : World), (eqGuard op 76 a b (.agg #[.int .i64 x.id, .int .i64 x.q, .int .i64 x.tr, .bool x.dn, .string x.da]) (.agg #[.int .i64 x.id, .int .i64 x.q, .int .i64 x.tr, .bool x.dn, .string x.da])).run Try.prog w = .ok () w := fun op a b x w => Sn_.guard op a b x x w
  clear h h'
  go_enter Try.func24, Try.ntmps24
  go_wp2
  go_loopw [5] (fun i wr => ∃ k : Nat, k ≤ L.length ∧ i = .int .i64 k ∧ Below w.heap.size w wr) (fun i _ => L.length - (intOf i).toNat)
  case atStart => exact ⟨0, Nat.zero_le _, rfl, Below.refl _ _⟩
  case round =>
    rename World => wr
    obtain ⟨k, hk, rfl, hb⟩ := hrel
    have HB := Lib.hid hb
    by_cases hlt : k < L.length
    · obtain ⟨b, off, rfl, -, c0, c1, c2, c3, c4⟩ := HA.out.below hb k hlt
      obtain ⟨b2, off2, rfl, -, d0, d1, d2, d3, d4⟩ := HB'.out.below hb k hlt
      have HLT := Lib.hid hlt
      generalize L[k] = x at *
      have NEx := NE x
      have GUx := fun op a b => GU op a b x
      have i0 : (0 : Int) ≤ (k : Int) := by omega
      have i1 : (k : Int) < (L.length : Int) := by omega
      clear hb NE GU
      go_wp2
      go_quiet (fail)
      go_wp2
      go_roundw
      case rel => exact ⟨k + 1, HLT.out, by go_num, below_drewN22 HB.out _⟩
      case measure => have := HLT.out; simp [intOf]; omega
    · obtain rfl : k = L.length := by omega
      clear hb
      go_wp2
      go_returns
      exact ⟨rfl, HB.out⟩

set_option maxRecDepth 100000 in
set_option maxHeartbeats 4000000 in
theorem r22_same_any (x y : Wn) (s : St) (w : World) (h : Lies w x s) (h' : Lies w y s) (hl : s.l.length ≤ 1000) :
    Calls Try.prog 44 #[Wv_.v x, Wv_.v y] w fun e w' => e = .returned (.bool true) ∧ Below w.heap.size w w' := by
  obtain ⟨w1, hw1⟩ : ∃ w1, w.alloc (.cells (Wv_.C x) 24) = w1 := ⟨_, rfl⟩
  obtain ⟨w2, hw2⟩ : ∃ w2, w1.alloc (.cells (Wv_.C y) 24) = w2 := ⟨_, rfl⟩
  have z1 : w1.heap.size = w.heap.size + 1 := by rw [← hw1]; simp
  have T2 := Lib.hid (TwoV.new hw1 hw2)
  have e1 := T2.out.bx.all
  have e2 := T2.out.rs.all
  have q1 := h.nx
  have q2 := h.sz
  have q3 := h'.nx
  have q4 := h'.sz
  have q5 := h.rq
  have q6 := h'.rq
  have CS := Lib.hid (r22_sameSent_any s.l x.sa y.sa x.c y.c w2 (h.sl.below T2.out.bel) (h'.sl.below T2.out.bel) hl)
  obtain ⟨n, hn⟩ : ∃ n, s.l.length = n := ⟨_, rfl⟩
  have hxn : x.n = n := h.n.trans hn
  have hyn : y.n = n := h'.n.trans hn
  rw [hn] at CS
  have e3 : (s.rq == s.rq) = true := by simp
  clear h h' hl hn
  go_enter Try.func44, Try.ntmps44
  go_wp2_with (go_at_call 24; refine CS.out.mono ?_; rintro e w3 ⟨rfl, hw3⟩; have B3 := Lib.hid (T2.out.bel.trans (hw3.mono T2.out.bel.size)); clear hw3)
  go_returns
  exact ⟨rfl, B3.out⟩
end Go.Proofs.Ytldeflpaghbmmaa
