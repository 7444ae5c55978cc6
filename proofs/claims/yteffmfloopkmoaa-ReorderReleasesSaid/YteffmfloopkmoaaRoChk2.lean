/-
  WALKS: the reference's Check; New, of package reorder and of the reference.
-/
import Derived.Test.YteffmfloopkmoaaRoChk
namespace Go.Proofs.Yteffmfloopkmoaa
open Go.RowKit Go.Ro Go.Sq Go.Wr
attribute [local go_sem ↓ high] Rw_.loadF Rw_.storeF Rw_.v_cells Rw_.v_match
attribute [local go_sem] Rw_.C0 Rw_.C1 Rw_.C2 Rw_.loadF_new Rw_.storeF_zero Oper.semAt_some

theorem below_drewN20 {B : Nat} {w wi : World} (h : Below B w wi) (n : Nat) : Below B w (wi.drewN n) := ⟨h.os, h.tape, h.output, h.size, h.block⟩

set_option maxRecDepth 100000 in
set_option maxHeartbeats 4000000 in
theorem r_check_any (x : Rw) (b : Bf) (w : World) (hL : Lies w x b) (hl : b.hs.length ≤ 1000) :
    Calls Try.prog 16 #[Rw_.v x] w fun e w' => e = .returned (.int .i64 (chk b)) ∧ Below w.heap.size w w' := by
  obtain ⟨w1, hw1⟩ : ∃ w1, w.alloc (.cells (Rw_.C x) 25) = w1 := ⟨_, rfl⟩
  have hb : Rw_.Box w1 w.heap.size x := hw1 ▸ Rw_.Box.new w x
  have HBX := Lib.hid hb
  have B1 : Hid (Below w.heap.size w w1) := hw1 ▸ (Below.refl _ _).alloc (Nat.le_refl _) _
  have e1 := hb.all
  have hn := not20
  have CV := Lib.hid (fun w => refValid_any b.st w)
  have hst := hL.st
  have hsz := hL.sz
  have HL := Lib.hid hL
  have HN := Lib.hid hl
  have HE : Hid (chk b = if hdOk b.st b.sz then chkL b.st b.sz 0 b.hs else 4) := rfl
  obtain ⟨n, hn1⟩ : ∃ n, b.hs.length = n := ⟨_, rfl⟩
  have hxn : x.n = n := hL.n.trans hn1
  have HLEN := Lib.hid hn1
  clear hb hL hl hn1
  cases hv : vl b.st
  · have HR := Lib.hid (show chk b = 4 by rw [HE.out, hdOk_f (.inl hv)]; rfl)
    rw [HR.out]
    rw [hv] at CV
    go_enter Try.func16, Try.ntmps16
    go_wp2_with (go_at_call 25; refine (CV.out _).mono ?_; rintro e w' ⟨rfl, rfl⟩)
    go_returns
    exact ⟨rfl, B1.out⟩
  by_cases h1 : b.sz < 1
  · have HR := Lib.hid (show chk b = 4 by rw [HE.out, hdOk_f (.inr (.inl h1))]; rfl)
    rw [HR.out]
    rw [hv] at CV
    go_enter Try.func16, Try.ntmps16
    go_wp2_with (go_at_call 25; refine (CV.out _).mono ?_; rintro e w' ⟨rfl, rfl⟩)
    go_returns
    exact ⟨rfl, B1.out⟩
  by_cases h2 : 64 < b.sz
  · have HR := Lib.hid (show chk b = 4 by rw [HE.out, hdOk_f (.inr (.inr h2))]; rfl)
    rw [HR.out]
    rw [hv] at CV
    go_enter Try.func16, Try.ntmps16
    go_wp2_with (go_at_call 25; refine (CV.out _).mono ?_; rintro e w' ⟨rfl, rfl⟩)
    go_returns
    exact ⟨rfl, B1.out⟩
  have HR := Lib.hid (show chk b = chkL b.st b.sz 0 b.hs by rw [HE.out, hdOk_t hv (by omega) (by omega)]; rfl)
  rw [HR.out]
  rw [hv] at CV
  clear HR HE
  go_enter Try.func16, Try.ntmps16
  go_wp2_with (go_at_call 25; refine (CV.out _).mono ?_; rintro e w' ⟨rfl, rfl⟩)
  clear hw1 e1
  go_loopw [3, 4] (fun s3 s4 wr => ∃ (last : Int) (i : Nat), s3 = .int .i64 last ∧ s4 = .int .i64 i ∧ i ≤ n ∧ Hid (chkL b.st b.sz 0 b.hs = chkL b.st b.sz last (b.hs.drop i)) ∧ Hid (Below w.heap.size w wr ∧ Rw_.Box wr w.heap.size x)) (fun _ s4 _ => n - (intOf s4).toNat)
  case atStart => exact ⟨0, 0, rfl, rfl, Nat.zero_le _, rfl, ⟨B1.out, HBX.out⟩⟩
  case round =>
    rename World => wr
    obtain ⟨last, i, rfl, rfl, hi, HC, HB⟩ := hrel
    have e2 := HB.out.2.all
    have hi1 : i ≤ 1000 := by have := HN.out; have := HLEN.out; omega
    by_cases hlt : i < n
    · have hil : i < b.hs.length := by have := HLEN.out; omega
      obtain ⟨bb, off, hsa, hbl, k0, k1⟩ := HL.out.sl.lies i hil
      have c0 := (HB.out.1.cell hbl).trans k0
      have c1 := (HB.out.1.cell hbl).trans k1
      have HDC := Lib.hid (drop_cons hil)
      generalize b.hs[i] = h at *
      have hD := Lib.hid (dist_in b.st h.q)
      have CDh := Lib.hid (fun w => refDistance_any b.st h.q w)
      have CVh := Lib.hid (fun w => refValid_any h.q w)
      have HCK : Hid (chkL b.st b.sz 0 b.hs = chkL b.st b.sz last (h :: b.hs.drop (i + 1))) := by
        show chkL b.st b.sz 0 b.hs = _
        rw [HC.out, HDC.out]
      have HLT := Lib.hid hlt
      have HK1 := Lib.hid (fun (e : dist b.st h.q < 1) => HCK.out.trans (ck_1 e))
      have HK2 := Lib.hid (fun (e : vl h.q = false ∨ b.sz ≤ dist b.st h.q) => HCK.out.trans (ck_2 (by unfold inn; rcases e with e | e; (· rw [e]; rfl); (· rw [decide_eq_false (show ¬ dist b.st h.q < b.sz by omega), Bool.and_false]))))
      have HK3 := Lib.hid (fun (e0 : ¬ dist b.st h.q < 1) (e : vl h.q = true) (e' : dist b.st h.q < b.sz) => HCK.out.trans (ck_in e0 (by unfold inn; rw [e, decide_eq_true e']; rfl)))
      clear k0 k1 hbl hil
      generalize dist b.st h.q = D at *
      generalize vl h.q = A at *
      cases A
      · have HRS := Lib.hid (HK2.out (.inl rfl))
        go_wp2
        go_quiet (first | (go_at_call 10; exact Calls.quiet_of_same ((CDh.out _).mono fun _ _ q => ⟨q.1, q.2.symm⟩)))
        go_wp2_with (go_at_call 25; refine (CVh.out _).mono ?_; rintro e w' ⟨rfl, rfl⟩)
        go_returns
        exact ⟨by rw [HRS.out]; rfl, below_drewN20 HB.out.1 _⟩
      by_cases h0 : D < 1
      · have HRS := Lib.hid (HK1.out h0)
        go_wp2
        go_quiet (first | (go_at_call 10; exact Calls.quiet_of_same ((CDh.out _).mono fun _ _ q => ⟨q.1, q.2.symm⟩)))
        go_wp2_with (go_at_call 25; refine (CVh.out _).mono ?_; rintro e w' ⟨rfl, rfl⟩)
        go_returns
        exact ⟨by rw [HRS.out]; rfl, below_drewN20 HB.out.1 _⟩
      by_cases h5 : b.sz ≤ D
      · have HRS := Lib.hid (HK2.out (.inr h5))
        go_wp2
        go_quiet (first | (go_at_call 10; exact Calls.quiet_of_same ((CDh.out _).mono fun _ _ q => ⟨q.1, q.2.symm⟩)))
        go_wp2_with (go_at_call 25; refine (CVh.out _).mono ?_; rintro e w' ⟨rfl, rfl⟩)
        go_returns
        exact ⟨by rw [HRS.out]; rfl, below_drewN20 HB.out.1 _⟩
      have HRS := Lib.hid (HK3.out h0 rfl (by omega))
      clear HK1 HK2 HK3
      by_cases h3 : D ≤ last
      · have HRT := Lib.hid (HRS.out.trans (if_pos h3))
        go_wp2
        go_quiet (first | (go_at_call 10; exact Calls.quiet_of_same ((CDh.out _).mono fun _ _ q => ⟨q.1, q.2.symm⟩)))
        go_wp2_with (go_at_call 25; refine (CVh.out _).mono ?_; rintro e w' ⟨rfl, rfl⟩)
        go_returns
        exact ⟨by rw [HRT.out]; rfl, below_drewN20 HB.out.1 _⟩
      by_cases h4 : 2048 < h.d.size
      · have HRT := Lib.hid (HRS.out.trans ((if_neg h3).trans (if_pos h4)))
        have h4' : (2048 : Int) < (h.d.size : Int) := by omega
        go_wp2
        go_quiet (first | (go_at_call 10; exact Calls.quiet_of_same ((CDh.out _).mono fun _ _ q => ⟨q.1, q.2.symm⟩)))
        go_wp2_with (go_at_call 25; refine (CVh.out _).mono ?_; rintro e w' ⟨rfl, rfl⟩)
        go_returns
        exact ⟨by rw [HRT.out]; rfl, below_drewN20 HB.out.1 _⟩
      · have HRT := Lib.hid (HRS.out.trans (by rw [if_neg h3, if_neg h4]))
        have h4' : ¬ (2048 : Int) < (h.d.size : Int) := by omega
        go_wp2
        go_quiet (first | (go_at_call 10; exact Calls.quiet_of_same ((CDh.out _).mono fun _ _ q => ⟨q.1, q.2.symm⟩)))
        go_wp2_with (go_at_call 25; refine (CVh.out _).mono ?_; rintro e w' ⟨rfl, rfl⟩)
        go_roundw
        case rel => exact ⟨D, i + 1, rfl, by go_num, HLT.out, HRT.out, ⟨below_drewN20 HB.out.1 _, HB.out.2⟩⟩
        case measure => have := HLT.out; simp [intOf]; omega
    · have HRS := Lib.hid (show chkL b.st b.sz 0 b.hs = 0 by rw [HC.out, List.drop_of_length_le (by have := HLEN.out; omega)]; rfl)
      go_wp2
      go_returns
      exact ⟨by rw [HRS.out]; rfl, HB.out.1⟩

/-- A buffer and an error, handed back. -/
theorem ret_rwe {fn : Func} {p q : Tmp} (hr : fn.results = #[.cell p 25, .tmp q]) {tmps : Array Value} {ds : _} {w : World} {g : Nat} {y : Rw} {vq : Value} {R : Ending → World → Prop} (hp : tmps.getD p undef = .pointer (some ⟨g, 0, none⟩)) (hq : tmps.getD q undef = vq) (hb : Rw_.Box w g y) (hd : ds = []) (hR : R (.returned (.tuple #[Rw_.v y, vq])) w) :
    bodyPost Try.prog fn R .ret ⟨tmps, ds⟩ w := ret_rw2 hr hp hq hb hd hR
/-- What New hands back: the packets of an empty buffer are nil. -/
def NewPost (s z : Int) (w : World) (e : Ending) (w' : World) : Prop :=
  e = .returned (.tuple #[Rw_.v ⟨(new s z).1.st, (new s z).1.sz, none, 0, 0⟩, .int .i64 (new s z).2]) ∧ Below w.heap.size w w'
theorem new_t {s z : Int} (h : hdOk s z = true) : new s z = (⟨s, z, []⟩, 0) := if_pos h
theorem new_f {s z : Int} (h : hdOk s z = false) : new s z = (⟨0, 0, []⟩, 4) := if_neg (by rw [h]; decide)
theorem chk_new {s z : Int} : chk ⟨s, z, []⟩ = if hdOk s z then 0 else 4 := rfl

set_option maxRecDepth 100000 in
set_option maxHeartbeats 4000000 in
theorem r_new_any (s z : Int) (w : World) :
    Calls Try.prog 13 #[.int .i64 s, .int .i64 z] w fun e w' => NewPost s z w e w' := by
  obtain ⟨w1, hw1⟩ : ∃ w1, w.alloc (.cells (Rw_.C zr) 25) = w1 := ⟨_, rfl⟩
  have hw1' : w.alloc (.cells #[.int .i64 0, .int .i64 0, .slice none 0 0] 25) = w1 := hw1
  have X1 := Lib.hid (show Rw_.Box w1 w.heap.size zr from hw1 ▸ Rw_.Box.new w zr)
  have B1 : Hid (Below w.heap.size w w1) := hw1 ▸ (Below.refl _ _).alloc (Nat.le_refl _) _
  have st0 : (Rw_.StoreF ⟨w.heap.size, 0, none⟩ (.agg #[.int .i64 0, .int .i64 0, .slice none 0 0])).run Try.prog w1 = .ok () (w1.setRow w.heap.size (Rw_.C zr)) := X1.out.storeF zr
  have st1 : (Rw_.StoreF ⟨w.heap.size, 0, none⟩ (.agg #[.int .i64 s, .int .i64 z, .slice none 0 0])).run Try.prog w1 = .ok () (w1.setRow w.heap.size (Rw_.C ⟨s, z, none, 0, 0⟩)) := X1.out.storeF ⟨s, z, none, 0, 0⟩
  have hn := not20
  have CV := Lib.hid (fun w => refValid_any s w)
  unfold NewPost
  cases hv : vl s
  case' true => by_cases h1 : z < 1
  case' neg => by_cases h2 : 64 < z
  all_goals
    first
      | rw [new_t (hdOk_t hv (by omega) (by omega))]
      | rw [new_f (hdOk_f (.inl hv))]
      | rw [new_f (hdOk_f (.inr (.inl h1)))]
      | rw [new_f (hdOk_f (.inr (.inr h2)))]
    rw [hv] at CV
    go_enter Try.func13, Try.ntmps13
    go_wp2_with (go_at_call 25; refine (CV.out _).mono ?_; rintro e w' ⟨rfl, rfl⟩)
    first
      | exact ret_rw2 Try.results13 rfl rfl (X1.out.setRow ⟨s, z, none, 0, 0⟩) rfl ⟨rfl, below_row B1.out (Nat.le_refl _) _⟩
      | exact ret_rw2 Try.results13 rfl rfl (X1.out.setRow zr) rfl ⟨rfl, below_row B1.out (Nat.le_refl _) _⟩

set_option maxRecDepth 100000 in
set_option maxHeartbeats 4000000 in
theorem ro_new_any (s z : Int) (w : World) :
    Calls Try.prog 7 #[.int .i64 s, .int .i64 z] w fun e w' => NewPost s z w e w' := by
  obtain ⟨w1, hw1⟩ : ∃ w1, w.alloc (.cells (Rw_.C zr) 25) = w1 := ⟨_, rfl⟩
  obtain ⟨w2, hw2⟩ : ∃ w2, w1.alloc (.cells (Rw_.C ⟨s, z, none, 0, 0⟩) 25) = w2 := ⟨_, rfl⟩
  have hw1' : w.alloc (.cells #[.int .i64 0, .int .i64 0, .slice none 0 0] 25) = w1 := hw1
  have z1 : w1.heap.size = w.heap.size + 1 := by rw [← hw1]; simp
  have X1 : Rw_.Box w1 w.heap.size zr := hw1 ▸ Rw_.Box.new w zr
  have b2 : Below w1.heap.size w1 w2 := hw2 ▸ (Below.refl _ _).alloc (Nat.le_refl _) _
  have B2 : Hid (Below w.heap.size w w2) := (show Below w.heap.size w w1 from hw1 ▸ (Below.refl _ _).alloc (Nat.le_refl _) _).trans (b2.mono (by omega))
  have X2 := Lib.hid (X1.below b2 X1.lt)
  have Y2 := Lib.hid (show Rw_.Box w2 (w.heap.size + 1) ⟨s, z, none, 0, 0⟩ by rw [← hw2, ← z1]; exact Rw_.Box.new w1 _)
  have st0 : (Rw_.StoreF ⟨w.heap.size + 1, 0, none⟩ (.agg #[.int .i64 s, .int .i64 z, .slice none 0 0])).run Try.prog (w1.alloc (.cells #[.int .i64 0, .int .i64 0, .slice none 0 0] 25)) = .ok () w2 := by
    rw [← hw2, ← z1]; exact Rw_.storeF_new w1 zr ⟨s, z, none, 0, 0⟩
  have l2 := Y2.out.loadF
  have CC := Lib.hid (ro_check_any ⟨s, z, none, 0, 0⟩ ⟨s, z, []⟩ w2 ⟨rfl, rfl, rfl, Hd_.Sl.none _⟩ (Nat.zero_le _))
  rw [chk_new] at CC
  unfold NewPost
  clear X1 b2 hw1 hw2
  cases hv : hdOk s z
  · rw [new_f hv]
    rw [hv] at CC
    go_enter Try.func7, Try.ntmps7
    go_wp2_with (go_at_call 15; refine CC.out.mono ?_; rintro e w3 ⟨rfl, hw3⟩; have X3 := Lib.hid (X2.out.below hw3 X2.out.lt); have B3 := Lib.hid (B2.out.trans (hw3.mono B2.out.size)); have st3 : (Rw_.StoreF ⟨w.heap.size, 0, none⟩ (.agg #[.int .i64 0, .int .i64 0, .slice none 0 0])).run Try.prog w3 = .ok () (w3.setRow w.heap.size (Rw_.C zr)) := X3.out.storeF zr; clear hw3)
    exact ret_rw2 Try.results7 rfl rfl (X3.out.setRow zr) rfl ⟨rfl, below_row B3.out (Nat.le_refl _) _⟩
  · rw [new_t hv]
    rw [hv] at CC
    go_enter Try.func7, Try.ntmps7
    go_wp2_with (go_at_call 15; refine CC.out.mono ?_; rintro e w3 ⟨rfl, hw3⟩; have X3 := Lib.hid (X2.out.below hw3 X2.out.lt); have B3 := Lib.hid (B2.out.trans (hw3.mono B2.out.size)); have l3 := (Y2.out.below hw3 Y2.out.lt).loadF; have st3 := X3.out.storeF ⟨s, z, none, 0, 0⟩; clear hw3)
    exact ret_rw2 Try.results7 rfl rfl (X3.out.setRow ⟨s, z, none, 0, 0⟩) rfl ⟨rfl, below_row B3.out (Nat.le_refl _) _⟩
end Go.Proofs.Yteffmfloopkmoaa
