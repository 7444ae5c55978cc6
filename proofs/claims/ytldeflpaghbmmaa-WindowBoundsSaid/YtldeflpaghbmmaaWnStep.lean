/-
  WALKS of law 22: step, waiting.
-/
import Derived.Test.YtldeflpaghbmmaaWnPut2
import Derived.Test.YtldeflpaghbmmaaWnMiss
import Derived.Test.YtldeflpaghbmmaaWnAck
import Derived.Test.YtldeflpaghbmmaaWnReset
import Derived.Test.YtldeflpaghbmmaaWnInv
import Derived.Test.YtldeflpaghbmmaaWnOo
namespace Go.Proofs.Ytldeflpaghbmmaa
open Go.RowKit Go.Wn Go.Sq Go.Wr
attribute [local go_sem ↓ high] Ww_.loadF Ww_.storeF Ww_.v_cells Ww_.v_match Ow_.loadF Ow_.storeF Ow_.v_cells Ow_.v_match
attribute [local go_sem] Ww_.C0 Ww_.C1 Ww_.C2 Ww_.C3 Ww_.loadF_new Ww_.storeF_zero Ow_.C0 Ow_.C1 Ow_.C2 Ow_.C3 Ow_.C4 Ow_.C5 Ow_.loadF_new Ow_.storeF_zero Oper.semAt_some

/-- The state and the call that came in; the result's cell. -/
structure Sp3 (w : World) (x : Wn) (o : Oq) (wi : World) : Prop where
  bx : Ww_.Box wi w.heap.size x
  ob : Ow_.Box wi (w.heap.size + 1) o
  rs : Ww_.Box wi (w.heap.size + 2) zw
  bel : Below w.heap.size w wi
theorem Sp3.new {w w1 w2 w3 : World} {x : Wn} {o : Oq} (h1 : w.alloc (.cells (Ww_.C x) 29) = w1) (h2 : w1.alloc (.cells (Ow_.C o) 68) = w2) (h3 : w2.alloc (.cells (Ww_.C zw) 29) = w3) : Sp3 w x o w3 := by
  have z1 : w1.heap.size = w.heap.size + 1 := by rw [← h1]; simp
  have z2 : w2.heap.size = w.heap.size + 2 := by rw [← h2]; simp [z1]
  have b1 : Below w.heap.size w w1 := h1 ▸ (Below.refl _ _).alloc (Nat.le_refl _) _
  have b2 : Below w1.heap.size w1 w2 := h2 ▸ (Below.refl _ _).alloc (Nat.le_refl _) _
  have b3 : Below w2.heap.size w2 w3 := h3 ▸ (Below.refl _ _).alloc (Nat.le_refl _) _
  have X1 : Ww_.Box w1 w.heap.size x := h1 ▸ Ww_.Box.new w x
  have X2 : Ow_.Box w2 (w.heap.size + 1) o := z1 ▸ h2 ▸ Ow_.Box.new w1 o
  have X3 : Ww_.Box w3 (w.heap.size + 2) zw := z2 ▸ h3 ▸ Ww_.Box.new w2 zw
  exact ⟨(X1.below b2 X1.lt).below b3 (X1.below b2 X1.lt).lt, X2.below b3 X2.lt, X3, (b1.trans (b2.mono b1.size)).trans (b3.mono (Nat.le_trans b1.size b2.size))⟩
theorem Sp3.keep {w wi wj : World} {x : Wn} {o : Oq} (h : Sp3 w x o wi) (hb : Below wi.heap.size wi wj) : Sp3 w x o wj :=
  ⟨h.bx.below hb h.bx.lt, h.ob.below hb h.ob.lt, h.rs.below hb h.rs.lt, h.bel.trans (hb.mono h.bel.size)⟩
theorem Sp3.size {w wi : World} {x : Wn} {o : Oq} (h : Sp3 w x o wi) : w.heap.size + 3 ≤ wi.heap.size := h.rs.lt

/-- What step hands back. -/
structure StepPost (s : St) (n : Nat) (x : Wn) (w : World) (x' : Wn) (sa : Option Addr) (g : List Int) (c : Nat) (put : Bool) (t : St) (w' : World) : Prop where
  af : After s n t g put
  lies : Lies w' x' t
  ids : Is_.Sl w' sa g c
  bel : Below w.heap.size w w'
  fx : (x' = x ∧ t = s) ∨ Fr w.heap.size x'.sa
  fg : Fr w.heap.size sa
/-- The result is laid into its cell: nothing new lies there. -/
theorem Sp3.fin {s t : St} {n : Nat} {w wa : World} {x x' : Wn} {o : Oq} {sa : Option Addr} {g : List Int} {c : Nat} {put : Bool} (T : Sp3 w x o wa) (af : After s n t g put) (hl : Lies wa x' t) (hi : Is_.Sl wa sa g c) (hf : Fr (w.heap.size + 3) x'.sa) (hg : Fr (w.heap.size + 3) sa) :
    Hid (StepPost s n x w x' sa g c put t (wa.setRow (w.heap.size + 2) (Ww_.C x'))) :=
  ⟨af, ⟨hl.nx, hl.sz, hl.rq, hl.n, sl_row22 hl.sl hf (by omega)⟩, ⟨hi.lies.block (by simp [World.setRow]) (fun bb off e => Ww_.setRow_other (by have := hg bb off e; omega) _), hi.le, hi.nil⟩, below_row22 T.bel (by omega) _, .inr (hf.up (by omega)), hg.up (by omega)⟩
/-- The same where the state that came in is handed back. -/
theorem Sp3.fin0 {s : St} {n : Nat} {w wa : World} {x : Wn} {o : Oq} (T : Sp3 w x o wa) (hI : Inv s n) (hl : Lies w x s) : Hid (StepPost s n x w x none [] 0 false s (wa.setRow (w.heap.size + 2) (Ww_.C x))) :=
  ⟨after_same hI, hl.below (below_row22 T.bel (by omega) _), Is_.Sl.none _, below_row22 T.bel (by omega) _, .inl ⟨rfl, rfl⟩, Fr.none _⟩

def d22 : ByteArray := ⟨#[120]⟩
theorem d22_size : d22.size ≤ 2048 := by decide

set_option maxRecDepth 100000 in
set_option maxHeartbeats 16000000 in
theorem step22_any (x : Wn) (s : St) (o : Oq) (Q : List Int) (n : Nat) (w : World) (hL : Lies w x s) (hO : Wa_.Ao w o.a Q) (hQ : Q.length ≤ 1000) (hI : Inv s n) :
    Calls Try.prog 36 #[Ww_.v x, Ow_.v o, .int .i64 n] w fun e w' => ∃ x' sa g c put t, e = .returned (.tuple #[Ww_.v x', .slice sa g.length c, .bool put]) ∧ StepPost s n x w x' sa g c put t w' := by
  obtain ⟨w1, hw1⟩ : ∃ w1, w.alloc (.cells (Ww_.C x) 29) = w1 := ⟨_, rfl⟩
  obtain ⟨w2, hw2⟩ : ∃ w2, w1.alloc (.cells (Ow_.C o) 68) = w2 := ⟨_, rfl⟩
  obtain ⟨w3, hw3⟩ : ∃ w3, w2.alloc (.cells (Ww_.C zw) 29) = w3 := ⟨_, rfl⟩
  have hw3' : w2.alloc (.cells #[.int .i64 0, .int .i64 0, .slice none 0 0, .bool false] 29) = w3 := hw3
  have z1 : w1.heap.size = w.heap.size + 1 := by rw [← hw1]; simp
  have z2 : w2.heap.size = w.heap.size + 2 := by rw [← hw2]; simp [z1]
  have T3 := Lib.hid (Sp3.new hw1 hw2 hw3)
  have l3 := T3.out.bx.loadF
  have e3 := T3.out.ob.all
  have L3 := Lib.hid (hL.below T3.out.bel)
  have A3 := Lib.hid (hO.below T3.out.bel)
  have hl : s.l.length ≤ 1000 := Nat.le_trans hI.len (by decide)
  have hk := chk_iff.1 hI.ok
  have hall := chk_all hI.ok
  have hwid : wid s.sz ≤ 9223372036854775807 := by have := hk.1.2; unfold wid; split <;> omega
  obtain ⟨k, hm, hkk⟩ := hO.m
  have hqn := hO.n
  have HL := Lib.hid hL
  have HI := Lib.hid hI
  by_cases h1 : o.kd = 1
  · have CP := Lib.hid (wn_put_any x s n d22 w3 L3.out hl hwid)
    unfold PutPost at CP
    by_cases hz : (put s n d22).2.2 = 0
    · have AF := Lib.hid (after_put hI d22 d22_size hz)
      rw [hz] at CP
      generalize put s n d22 = P at *
      clear hL hO hl hk hall hwid hm hkk hqn hQ hI hw3 hz
      go_enter Try.func36, Try.ntmps36
      go_wp2_with fail
      refine CP.out.mono ?_
      rintro e w4 ⟨x', rfl, hO4⟩
      obtain ⟨w5, hw5⟩ : ∃ w5, w4.alloc (.cells (Ww_.C x') 29) = w5 := ⟨_, rfl⟩
      have hz5 := Ww_.storeF_zero w4 x'
      rw [hw5] at hz5
      have b45 : Below w4.heap.size w4 w5 := hw5 ▸ (Below.refl _ _).alloc (Nat.le_refl _) _
      have T5 := Lib.hid (T3.out.keep (hO4.bel.trans (b45.mono hO4.bel.size)))
      have l5 : (Ww_.LoadF ⟨w4.heap.size, 0, none⟩).run Try.prog w5 = .ok (Ww_.v x') w5 := hw5 ▸ Ww_.loadF_new w4 x'
      have t5 := T5.out.rs.storeF x'
      have F5 := T5.out.fin AF.out (hO4.lies.below b45) (Is_.Sl.none _) (hO4.fr.up T3.out.size) (Fr.none _)
      have R5 := Lib.hid (T5.out.rs.setRow x')
      clear hO4 b45
      go_wp2_with fail
      exact ret_wn3 Try.results36 rfl rfl rfl R5.out rfl ⟨x', none, [], 0, true, _, rfl, F5.out⟩
    · have hz' : ((put s n d22).2.2 == 0) = false := by rw [beq_eq_false_iff_ne]; exact hz
      generalize put s n d22 = P at *
      clear hL hO hl hk hall hwid hm hkk hqn hQ hI hw3 hz
      go_enter Try.func36, Try.ntmps36
      go_wp2_with fail
      refine CP.out.mono ?_
      rintro e w4 ⟨x', rfl, hO4⟩
      obtain ⟨w5, hw5⟩ : ∃ w5, w4.alloc (.cells (Ww_.C x') 29) = w5 := ⟨_, rfl⟩
      have hz5 := Ww_.storeF_zero w4 x'
      rw [hw5] at hz5
      have b45 : Below w4.heap.size w4 w5 := hw5 ▸ (Below.refl _ _).alloc (Nat.le_refl _) _
      have T5 := Lib.hid (T3.out.keep (hO4.bel.trans (b45.mono hO4.bel.size)))
      have l5 := T5.out.bx.loadF
      have t5 := T5.out.rs.storeF x
      have F5 := T5.out.fin0 HI.out HL.out
      have R5 := Lib.hid (T5.out.rs.setRow x)
      clear hO4 b45
      go_wp2_with fail
      exact ret_wn3 Try.results36 rfl rfl rfl R5.out rfl ⟨x, none, [], 0, false, s, rfl, F5.out⟩
  · by_cases h2 : o.kd = 2
    · have CQ : Calls Try.prog 27 #[Ww_.v x, .int .i64 o.st, .int .u64 o.m] w3 fun e w' => StIds (acked s o.st k) w3 e w' := by rw [show o.m = k from hm]; exact wn_acked_any x s o.st k hkk w3 L3.out hl
      have CP := Lib.hid CQ
      clear CQ
      unfold StIds at CP
      have AF := Lib.hid (after_acked hI o.st k)
      generalize acked s o.st k = P at *
      clear hL hO hl hk hall hwid hm hkk hqn hQ hI hw3
      go_enter Try.func36, Try.ntmps36
      go_wp2_with fail
      refine CP.out.mono ?_
      rintro e w4 ⟨x', sa, c, rfl, hO4, hI4, hF4⟩
      obtain ⟨w5, hw5⟩ : ∃ w5, w4.alloc (.cells (Ww_.C x') 29) = w5 := ⟨_, rfl⟩
      have hz5 := Ww_.storeF_zero w4 x'
      rw [hw5] at hz5
      have b45 : Below w4.heap.size w4 w5 := hw5 ▸ (Below.refl _ _).alloc (Nat.le_refl _) _
      have T5 := Lib.hid (T3.out.keep (hO4.bel.trans (b45.mono hO4.bel.size)))
      have l5 : (Ww_.LoadF ⟨w4.heap.size, 0, none⟩).run Try.prog w5 = .ok (Ww_.v x') w5 := hw5 ▸ Ww_.loadF_new w4 x'
      have t5 := T5.out.rs.storeF x'
      have F5 := T5.out.fin AF.out (hO4.lies.below b45) (hI4.below b45) (hO4.fr.up T3.out.size) (hF4.up T3.out.size)
      have R5 := Lib.hid (T5.out.rs.setRow x')
      clear hO4 b45 hI4 hF4
      go_wp2_with fail
      exact ret_wn3 Try.results36 rfl rfl rfl R5.out rfl ⟨x', sa, P.2, c, false, P.1, rfl, F5.out⟩
    · by_cases h3 : o.kd = 3
      · have CQ : Calls Try.prog 29 #[Ww_.v x, .slice o.sa o.n o.c, .int .i64 o.lim] w3 fun e w' => StIds (missed s Q o.lim) w3 e w' := by rw [show o.n = Q.length from hqn]; exact wn_missed_any x s o.sa Q o.c o.lim w3 L3.out hl A3.out.sl hQ (fun p hp => (hall p hp).1)
        have CP := Lib.hid CQ
        clear CQ
        unfold StIds at CP
        have AF := Lib.hid (after_missed hI Q o.lim)
        generalize missed s Q o.lim = P at *
        clear hL hO hl hk hall hwid hm hkk hqn hQ hI hw3
        go_enter Try.func36, Try.ntmps36
        go_wp2_with fail
        refine CP.out.mono ?_
        rintro e w4 ⟨x', sa, c, rfl, hO4, hI4, hF4⟩
        obtain ⟨w5, hw5⟩ : ∃ w5, w4.alloc (.cells (Ww_.C x') 29) = w5 := ⟨_, rfl⟩
        have hz5 := Ww_.storeF_zero w4 x'
        rw [hw5] at hz5
        have b45 : Below w4.heap.size w4 w5 := hw5 ▸ (Below.refl _ _).alloc (Nat.le_refl _) _
        have T5 := Lib.hid (T3.out.keep (hO4.bel.trans (b45.mono hO4.bel.size)))
        have l5 : (Ww_.LoadF ⟨w4.heap.size, 0, none⟩).run Try.prog w5 = .ok (Ww_.v x') w5 := hw5 ▸ Ww_.loadF_new w4 x'
        have t5 := T5.out.rs.storeF x'
        have F5 := T5.out.fin AF.out (hO4.lies.below b45) (hI4.below b45) (hO4.fr.up T3.out.size) (hF4.up T3.out.size)
        have R5 := Lib.hid (T5.out.rs.setRow x')
        clear hO4 b45 hI4 hF4
        go_wp2_with fail
        exact ret_wn3 Try.results36 rfl rfl rfl R5.out rfl ⟨x', sa, P.2, c, false, P.1, rfl, F5.out⟩
      · by_cases h4 : o.kd = 4
        · have CP := Lib.hid (wn_confirm_any x s w3 L3.out hl)
          have AF := Lib.hid (after_confirm hI)
          have HS3 := Lib.hid T3.out.size
          generalize confirm s = P at *
          clear hL hO hl hk hall hwid hm hkk hqn hQ hI hw3
          go_enter Try.func36, Try.ntmps36
          go_wp2_with fail
          refine CP.out.mono ?_
          rintro e w4 ⟨x', rfl, hO4⟩
          have T5 := Lib.hid (T3.out.keep hO4.bel)
          have t5 := T5.out.rs.storeF x'
          have F5 := T5.out.fin AF.out hO4.lies (Is_.Sl.none _) (hO4.fr.up HS3.out) (Fr.none _)
          have R5 := Lib.hid (T5.out.rs.setRow x')
          clear hO4
          go_wp2_with fail
          exact ret_wn3 Try.results36 rfl rfl rfl R5.out rfl ⟨x', none, [], 0, false, P, rfl, F5.out⟩
        · by_cases h5 : o.kd = 5
          · have CP := Lib.hid (wn_resize_any x s o.nn w3 L3.out)
            unfold StErr at CP
            by_cases hz : (resize s o.nn).2 = 0
            · have AF := Lib.hid (after_resize hI o.nn hz)
              have HS3 := Lib.hid T3.out.size
              rw [hz] at CP
              generalize resize s o.nn = P at *
              clear hL hO hl hk hall hwid hm hkk hqn hQ hI hw3 hz
              go_enter Try.func36, Try.ntmps36
              go_wp2_with fail
              refine CP.out.mono ?_
              rintro e w4 ⟨x', rfl, hO4⟩
              obtain ⟨w5, hw5⟩ : ∃ w5, w4.alloc (.cells (Ww_.C x') 29) = w5 := ⟨_, rfl⟩
              have hz5 := Ww_.storeF_zero w4 x'
              rw [hw5] at hz5
              have b45 : Below w4.heap.size w4 w5 := hw5 ▸ (Below.refl _ _).alloc (Nat.le_refl _) _
              have T5 := Lib.hid (T3.out.keep (hO4.bel.trans (b45.mono hO4.bel.size)))
              have l5 : (Ww_.LoadF ⟨w4.heap.size, 0, none⟩).run Try.prog w5 = .ok (Ww_.v x') w5 := hw5 ▸ Ww_.loadF_new w4 x'
              have t5 := T5.out.rs.storeF x'
              have F5 := T5.out.fin AF.out (hO4.lies.below b45) (Is_.Sl.none _) (hO4.fr.up HS3.out) (Fr.none _)
              have R5 := Lib.hid (T5.out.rs.setRow x')
              clear hO4 b45
              go_wp2_with fail
              exact ret_wn3 Try.results36 rfl rfl rfl R5.out rfl ⟨x', none, [], 0, false, P.1, rfl, F5.out⟩
            · have hz' : ((resize s o.nn).2 == 0) = false := by rw [beq_eq_false_iff_ne]; exact hz
              generalize resize s o.nn = P at *
              clear hL hO hl hk hall hwid hm hkk hqn hQ hI hw3 hz
              go_enter Try.func36, Try.ntmps36
              go_wp2_with fail
              refine CP.out.mono ?_
              rintro e w4 ⟨x', rfl, hO4⟩
              obtain ⟨w5, hw5⟩ : ∃ w5, w4.alloc (.cells (Ww_.C x') 29) = w5 := ⟨_, rfl⟩
              have hz5 := Ww_.storeF_zero w4 x'
              rw [hw5] at hz5
              have b45 : Below w4.heap.size w4 w5 := hw5 ▸ (Below.refl _ _).alloc (Nat.le_refl _) _
              have T5 := Lib.hid (T3.out.keep (hO4.bel.trans (b45.mono hO4.bel.size)))
              have l5 := T5.out.bx.loadF
              have t5 := T5.out.rs.storeF x
              have F5 := T5.out.fin0 HI.out HL.out
              have R5 := Lib.hid (T5.out.rs.setRow x)
              clear hO4 b45
              go_wp2_with fail
              exact ret_wn3 Try.results36 rfl rfl rfl R5.out rfl ⟨x, none, [], 0, false, s, rfl, F5.out⟩
          · by_cases h6 : o.kd = 6
            · have CQ := wn_reset_any x s w3 L3.out hl
              have CP := Lib.hid CQ
              clear CQ
              unfold StIds at CP
              have AF := Lib.hid (after_reset hI)
              generalize reset s = P at *
              clear hL hO hl hk hall hwid hm hkk hqn hQ hI hw3
              go_enter Try.func36, Try.ntmps36
              go_wp2_with fail
              refine CP.out.mono ?_
              rintro e w4 ⟨x', sa, c, rfl, hO4, hI4, hF4⟩
              obtain ⟨w5, hw5⟩ : ∃ w5, w4.alloc (.cells (Ww_.C x') 29) = w5 := ⟨_, rfl⟩
              have hz5 := Ww_.storeF_zero w4 x'
              rw [hw5] at hz5
              have b45 : Below w4.heap.size w4 w5 := hw5 ▸ (Below.refl _ _).alloc (Nat.le_refl _) _
              have T5 := Lib.hid (T3.out.keep (hO4.bel.trans (b45.mono hO4.bel.size)))
              have l5 : (Ww_.LoadF ⟨w4.heap.size, 0, none⟩).run Try.prog w5 = .ok (Ww_.v x') w5 := hw5 ▸ Ww_.loadF_new w4 x'
              have t5 := T5.out.rs.storeF x'
              have F5 := T5.out.fin AF.out (hO4.lies.below b45) (hI4.below b45) (hO4.fr.up T3.out.size) (hF4.up T3.out.size)
              have R5 := Lib.hid (T5.out.rs.setRow x')
              clear hO4 b45 hI4 hF4
              go_wp2_with fail
              exact ret_wn3 Try.results36 rfl rfl rfl R5.out rfl ⟨x', sa, P.2, c, false, P.1, rfl, F5.out⟩
            · have t5 := T3.out.rs.storeF x
              have F5 := T3.out.fin0 HI.out HL.out
              have R5 := Lib.hid (T3.out.rs.setRow x)
              clear hL hO hl hk hall hwid hm hkk hqn hQ hI hw3
              go_enter Try.func36, Try.ntmps36
              go_wp2_with fail
              exact ret_wn3 Try.results36 rfl rfl rfl R5.out rfl ⟨x, none, [], 0, false, s, rfl, F5.out⟩
end Go.Proofs.Ytldeflpaghbmmaa
