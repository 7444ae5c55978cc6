/-
  THE LAW TimTurns of layer 13.
-/
import Derived.Test.YtkmbcfkagniaaaaTmLaws
namespace Go.Proofs.Ytkmbcfkagniaaaa
open Go.RowKit Go.Bs Go.Tm

theorem TmB.set {W : World} {b : Nat} {c p : Int} {g : Bool} {s : Int} (h : TmB W b c p g s) (c' p' : Int) (g' : Bool) (s' : Int) : TmB ((((W.setCell ⟨b, 0, none⟩ (.int .i64 c')).setCell ⟨b, 1, none⟩ (.int .i64 p')).setCell ⟨b, 2, none⟩ (.bool g')).setCell ⟨b, 3, none⟩ (.int .u64 s')) b c' p' g' s' := by
  obtain ⟨k0, k1, k2, k3⟩ := set4 (.int .i64 c') (.int .i64 p') (.bool g') (.int .u64 s') h.c0 h.c1 h.c2 h.c3
  exact ⟨k0, k1, k2, k3, by have := h.lt; simpa using this, fun j => by rw [World.frozen?_setCell, World.frozen?_setCell, World.frozen?_setCell, World.frozen?_setCell]; exact h.z j⟩
theorem TmB.other {W : World} {b b' : Nat} {c p : Int} {g : Bool} {s : Int} (h : TmB W b c p g s) (hn : b < b') (v0 v1 v2 v3 : Value) : TmB ((((W.setCell ⟨b', 0, none⟩ v0).setCell ⟨b', 1, none⟩ v1).setCell ⟨b', 2, none⟩ v2).setCell ⟨b', 3, none⟩ v3) b c p g s :=
  h.keep hn (bel_set4 (Below.refl _ _) (Nat.le_refl _) _ _ _ _)

set_option maxRecDepth 100000 in
set_option maxHeartbeats 4000000 in
theorem timTurns_walk0 (x : Tm) (hw : (Lit.int .i64 x.c).wf = true ∧ (Lit.int .i64 x.p).wf = true ∧ (Lit.int .u64 x.m).wf = true) (W : World) :
    Calls Try.prog 7 #[Tm_.v x] W fun e W' => e = .returned (.bool true) ∧ Below W.heap.size W W' := by
  obtain ⟨c, p, g, m⟩ := x
  obtain ⟨-, -, hm⟩ := hw
  obtain ⟨s, rfl, hs⟩ := set_nat hm
  show Calls Try.prog 7 #[.agg #[.int .i64 c, .int .i64 p, .bool g, .int .u64 (s : Int)]] W fun e W' => e = .returned (.bool true) ∧ Below W.heap.size W W'
  have CR := Lib.hid fun w => refCheck13_any c p g s w hs
  have HX0 := Lib.hid (TmB.new W c p g (s : Int))
  have HB0 : Hid (Below W.heap.size W (W.alloc (.cells #[.int .i64 c, .int .i64 p, .bool g, .int .u64 (s : Int)] 24))) := (Below.refl _ _).alloc (Nat.le_refl _) _
  by_cases hk : chk c p s = 0
  case neg =>
    have hk' : (chk c p s != 0) = true := by simp [hk]
    generalize chk c p s = r at *
    clear hk hs hm
    go_enter Try.func7, Try.ntmps7
    go_wp2_with (first
      | (go_at_call 9; refine (CR.out _).mono ?_; rintro e w1 ⟨rfl, hb⟩; have HB1 := Lib.hid (HB0.out.trans (hb.mono HB0.out.size)); clear hb)
      | (go_at_call 11; refine (lives13_any _).mono ?_; rintro e w9 ⟨rfl, hb⟩; have HB9 := Lib.hid (HB1.out.trans (hb.mono HB1.out.size)); clear hb))
    go_ret
    exact ⟨rfl, HB9.out⟩
  obtain ⟨hc, h0⟩ := chk_ok.1 hk
  rw [hk] at CR
  have HC := Lib.hid hc
  have CN := Lib.hid fun k w => tmNext_any (cu c p k) p g s w (cu_cnt hc k)
  have CK : Hid (∀ k w, Calls Try.prog 10 #[.agg #[.int .i64 (cu c p k), .int .i64 p, .bool g, .int .u64 (s : Int)]] w fun e w' => e = .returned (.int .i64 0) ∧ Below w.heap.size w w') := fun k w => by
    have := tmCheck_any (cu c p k) p g s w hs
    rw [chk_ok.2 ⟨cu_cnt hc k, h0⟩] at this
    exact this
  obtain ⟨c0, c1, p255⟩ := cnt_iff.1 hc
  have hp0 : 0 < p := by omega
  have HP255 := Lib.hid p255
  have HP0 := Lib.hid hp0
  clear hk hs hm hc h0 c0 c1 p255 hp0
  go_enter Try.func7, Try.ntmps7
  go_wp2_with (go_at_call 9; refine (CR.out _).mono ?_; rintro e w1 ⟨rfl, hb⟩; have HX1 := Lib.hid (HX0.out.below hb); have HB1 := Lib.hid (HB0.out.trans (hb.mono HB0.out.size)); obtain ⟨d0, d1, d2, d3, dl, -⟩ := HX1.out; clear hb)
  have HDL := Lib.hid dl
  clear d0 d1 d2 d3 dl
  go_loopg [4] p.toNat (fun n i wx => ∃ k : Nat, k + n = p.toNat ∧ i = .int .i64 (k : Int) ∧ TmB wx W.heap.size c p g (s : Int) ∧ TmB wx w1.heap.size (cu c p k) p g (s : Int) ∧ Below W.heap.size W wx)
  case atStart => exact ⟨0, by omega, rfl, HX1.out.alloc _, by rw [cu_zero HC.out]; exact TmB.new w1 _ _ _ _, HB1.out.alloc HB1.out.size _⟩
  case round =>
    obtain ⟨k, hkn, rfl, hX, hU, hB⟩ := hrel
    have HX := Lib.hid hX
    have HU := Lib.hid hU
    have HB := Lib.hid hB
    obtain ⟨d0, d1, d2, d3, dl, -⟩ := hX
    clear hU hB HX1 HB1 HX0 HB0 CR
    cases gk with
    | zero =>
      have hkp : (k : Int) = p := by have := HP0.out; omega
      have hlt : ¬ (k : Int) < p := by omega
      rw [cu_end HC.out hkp] at HU
      obtain ⟨u0, u1, u2, u3, ul, -⟩ := HU.out
      clear hkp
      go_wp2_with (go_at_call 11; refine (lives13_any _).mono ?_; rintro e w9 ⟨rfl, hb⟩; have HB9 := Lib.hid (HB.out.trans (hb.mono HB.out.size)); clear hb)
      go_ret
      exact ⟨rfl, HB9.out⟩
    | succ n =>
      have hlt : (k : Int) < p := by have := HP0.out; omega
      have CN1 := Lib.hid (CN.out k)
      have CK1 := Lib.hid (CK.out (k + 1))
      have HS := Lib.hid (cu_succ HC.out k)
      rw [HS.out] at CN1
      have hcu := cnt_iff.1 (cu_cnt HC.out k)
      have hq0 := hcu.1
      have hq1 := hcu.2.1
      have hp255 := HP255.out
      have hnx := (nx_eq (cu_cnt HC.out k)).trans HS.out
      have HKn := Lib.hid hkn
      obtain ⟨u0, u1, u2, u3, ul, -⟩ := HU.out
      clear hcu hkn
      obtain ⟨q1, hE⟩ : ∃ q1, q1 = cu c p (k + 1) := ⟨_, rfl⟩
      rw [← hE] at CN1 CK1 HS hnx
      have HE := Lib.hid hE
      clear hE
      generalize cu c p k = q at *
      go_wp2_with (first
        | (go_at_call 16; refine (CN1.out _).mono ?_; rintro e w2 ⟨rfl, hb⟩; have HX2 := Lib.hid (HX.out.below hb); have HU2 := Lib.hid (HU.out.below hb); have HB2 := Lib.hid (HB.out.trans (hb.mono HB.out.size)); obtain ⟨d0, d1, d2, d3, dl, -⟩ := HX2.out; obtain ⟨u0, u1, u2, u3, ul, -⟩ := HU2.out; clear hb)
        | (go_at_call 10; refine (CK1.out _).mono ?_; rintro e w3 ⟨rfl, hb⟩; have HX3 := Lib.hid (((HX2.out.alloc _).alloc _).below hb); have HU3 := Lib.hid (((HU2.out.alloc _).alloc _).below hb); have HV3 := Lib.hid (((TmB.new w2 q1 p g (s : Int)).alloc _).below hb); have HB3 := Lib.hid (((HB2.out.alloc HB2.out.size _).alloc (HB2.out.alloc HB2.out.size _).size _).trans (hb.mono ((HB2.out.alloc HB2.out.size _).alloc (HB2.out.alloc HB2.out.size _).size _).size)); obtain ⟨u0, u1, u2, u3, ul, z⟩ := HU3.out; have z0 := z 0; have z1 := z 1; have z2 := z 2; have z3 := z 3; obtain ⟨v0, v1, v2, v3, vl, -⟩ := HV3.out; clear hb z))
      go_roundg n
      case measure => omega
      case rel => exact ⟨k + 1, by have := HKn.out; omega, by go_num, HX3.out.other HDL.out _ _ _ _, by rw [← HE.out]; exact HU3.out.set _ _ _ _, bel_set4 HB3.out (Nat.le_of_lt HDL.out) _ _ _ _⟩
end Go.Proofs.Ytkmbcfkagniaaaa
