/-
  WALKS: the law's play, few.
-/
import Derived.Test.YteffmfloopkmoaaRoLawS
namespace Go.Proofs.Yteffmfloopkmoaa
open Go.RowKit Go.Ro Go.Sq Go.Wr
attribute [local go_sem ↓ high] Rw_.loadF Rw_.storeF Rw_.v_cells Rw_.v_match
attribute [local go_sem] Rw_.C0 Rw_.C1 Rw_.C2 Rw_.loadF_new Rw_.storeF_zero Oper.semAt_some

/-- What a call does. -/
def pl (b : Bf) (o : Oq) : Bf × Int × List ByteArray :=
  if o.k = 1 then ((Ro.move b o.q).1, 0, (Ro.move b o.q).2) else if o.k = 2 then ((flush b).1, 0, (flush b).2) else put b o.q o.d
theorem pl_ok {b : Bf} (hb : Ok b) (o : Oq) : Ok (pl b o).1 := by
  unfold pl
  split
  · exact move_ok hb _
  · split
    · exact flush_ok hb
    · exact put_ok hb _ _
theorem pl_len {b : Bf} (hb : Ok b) (o : Oq) : (pl b o).2.2.length ≤ 1000 := by
  unfold pl
  split
  · exact move_len hb _
  · split
    · exact flush_len hb
    · exact put_len hb _ _

structure Pst (w : World) (x : Rw) (o : Oq) (wi : World) : Prop where
  bx : Rw_.Box wi w.heap.size x
  ob : Oq_.Box wi (w.heap.size + 1) o
  rs : Rw_.Box wi (w.heap.size + 2) zr
  bel : Below w.heap.size w wi
theorem Pst.below {w : World} {x : Rw} {o : Oq} {wi wj : World} (h : Pst w x o wi) (hb : Below wi.heap.size wi wj) : Pst w x o wj := ⟨h.bx.below hb h.bx.lt, h.ob.below hb h.ob.lt, h.rs.below hb h.rs.lt, h.bel.trans (hb.mono h.bel.size)⟩
/-- What a call handed back goes into the result's cell. -/
theorem pl_fin {w wi w5 : World} {x x' : Rw} {o : Oq} {p : Bf × Int × List ByteArray} {sa : Option Addr} {c : Nat} (T : Pst w x o wi) (hl : Lies w5 x' p.1) (hs : Ss_.Sl w5 sa p.2.2 c) (hb : Below wi.heap.size wi w5) (f1 : Fresh wi x'.sa) (f2 : Fresh wi sa) :
    (Rw_.StoreF ⟨w.heap.size + 2, 0, none⟩ (Rw_.v x')).run Try.prog w5 = .ok () (w5.setRow (w.heap.size + 2) (Rw_.C x')) ∧ Rw_.Box (w5.setRow (w.heap.size + 2) (Rw_.C x')) (w.heap.size + 2) x' ∧
    PutPost p w (.returned (.tuple #[Rw_.v x', .int .i64 p.2.1, .slice sa p.2.2.length c])) (w5.setRow (w.heap.size + 2) (Rw_.C x')) := by
  have T5 := T.below hb
  have hz := T.rs.lt
  exact ⟨T5.rs.storeF x', T5.rs.setRow x', x', sa, c, rfl, lies_row hl (fun bb off e => by have := f1 bb off e; omega), ss_row hs (fun bb off e => by have := f2 bb off e; omega), below_row T5.bel (by omega) _, f1.up (by omega), f2.up (by omega)⟩

set_option maxRecDepth 100000 in
set_option maxHeartbeats 4000000 in
theorem play20_any (x : Rw) (b : Bf) (o : Oq) (w : World) (hL : Lies w x b) (hb : Ok b) (hd : o.d.size ≤ 5000) :
    Calls Try.prog 11 #[Rw_.v x, .agg #[.int .i64 o.k, .int .i64 o.q, .string o.d]] w fun e w' => PutPost (pl b o) w e w' := by
  obtain ⟨w0, hw0⟩ : ∃ w0, w.alloc (.cells (Rw_.C x) 25) = w0 := ⟨_, rfl⟩
  obtain ⟨w1, hw1⟩ : ∃ w1, w0.alloc (.cells #[.int .i64 o.k, .int .i64 o.q, .string o.d] 31) = w1 := ⟨_, rfl⟩
  obtain ⟨w2, hw2⟩ : ∃ w2, w1.alloc (.cells (Rw_.C zr) 25) = w2 := ⟨_, rfl⟩
  have hw2' : w1.alloc (.cells #[.int .i64 0, .int .i64 0, .slice none 0 0] 25) = w2 := hw2
  have z0 : w0.heap.size = w.heap.size + 1 := by rw [← hw0]; simp
  have z1 : w1.heap.size = w.heap.size + 2 := by rw [← hw1]; simp [z0]
  have T2 : Hid (Pst w x o w2) := by
    have b0 : Below w.heap.size w w0 := hw0 ▸ (Below.refl _ _).alloc (Nat.le_refl _) _
    have b1 : Below w0.heap.size w0 w1 := hw1 ▸ (Below.refl _ _).alloc (Nat.le_refl _) _
    have b2 : Below w1.heap.size w1 w2 := hw2 ▸ (Below.refl _ _).alloc (Nat.le_refl _) _
    have X0 : Rw_.Box w0 w.heap.size x := hw0 ▸ Rw_.Box.new w x
    have O1 : Oq_.Box w1 (w.heap.size + 1) o := by rw [← hw1, ← z0]; exact Oq_.Box.new w0 o rfl
    have X1 := X0.below b1 X0.lt
    exact ⟨X1.below b2 X1.lt, O1.below b2 O1.lt, by rw [← hw2, ← z1]; exact Rw_.Box.new w1 zr, (b0.trans (b1.mono (by omega))).trans (b2.mono (by omega))⟩
  have l2 := T2.out.bx.loadF
  have e2 := T2.out.ob.cells
  have L2 := hL.below T2.out.bel
  by_cases h1 : o.k = 1
  · have HP : Hid (pl b o = ((Ro.move b o.q).1, 0, (Ro.move b o.q).2)) := if_pos h1
    have CM := Lib.hid (ro_move_any x b o.q w2 L2 hb)
    unfold RelPost at CM
    have d1 : (o.k == 1) = true := by rw [beq_iff_eq]; exact h1
    rw [HP.out]
    generalize Ro.move b o.q = M at *
    clear hL hb hd L2 h1 HP
    go_enter Try.func11, Try.ntmps11
    go_wp2_with fail
    refine CM.out.mono ?_
    rintro e w3 ⟨x3, sa3, c3, rfl, hl3, hs3, hb3, hf3, hg3⟩
    have b4 : Below w3.heap.size w3 (w3.alloc (.cells (Rw_.C x3) 25)) := (Below.refl _ _).alloc (Nat.le_refl _) _
    obtain ⟨s4, X4, F4⟩ := pl_fin (p := (M.1, 0, M.2)) T2.out (hl3.below b4) (hs3.below b4) (hb3.trans (b4.mono hb3.size)) hf3 hg3
    have X4 := Lib.hid X4
    have F4 := Lib.hid F4
    clear hl3 hs3 hb3 hf3 hg3 b4
    dsimp only at F4
    generalize M.2.length = m at *
    go_wp2
    exact ret_rw3 Try.results11 rfl rfl rfl X4.out rfl F4.out
  have d1 : (o.k == 1) = false := by rw [beq_eq_false_iff_ne]; exact h1
  by_cases h2 : o.k = 2
  · have HP : Hid (pl b o = ((flush b).1, 0, (flush b).2)) := (if_neg h1).trans (if_pos h2)
    have CM := Lib.hid (ro_flush_any x b w2 L2 hb)
    unfold RelPost at CM
    have d2 : (o.k == 2) = true := by rw [beq_iff_eq]; exact h2
    rw [HP.out]
    generalize flush b = M at *
    clear hL hb hd L2 h1 h2 HP
    go_enter Try.func11, Try.ntmps11
    go_wp2_with fail
    refine CM.out.mono ?_
    rintro e w3 ⟨x3, sa3, c3, rfl, hl3, hs3, hb3, hf3, hg3⟩
    have b4 : Below w3.heap.size w3 (w3.alloc (.cells (Rw_.C x3) 25)) := (Below.refl _ _).alloc (Nat.le_refl _) _
    obtain ⟨s4, X4, F4⟩ := pl_fin (p := (M.1, 0, M.2)) T2.out (hl3.below b4) (hs3.below b4) (hb3.trans (b4.mono hb3.size)) hf3 hg3
    have X4 := Lib.hid X4
    have F4 := Lib.hid F4
    clear hl3 hs3 hb3 hf3 hg3 b4
    dsimp only at F4
    generalize M.2.length = m at *
    go_wp2
    exact ret_rw3 Try.results11 rfl rfl rfl X4.out rfl F4.out
  · have HP : Hid (pl b o = put b o.q o.d) := (if_neg h1).trans (if_neg h2)
    have CM := Lib.hid (ro_put_any x b o.q o.d w2 L2 hb hd)
    unfold PutPost at CM
    have d2 : (o.k == 2) = false := by rw [beq_eq_false_iff_ne]; exact h2
    rw [HP.out]
    generalize put b o.q o.d = M at *
    clear hL hb hd L2 h1 h2 HP
    go_enter Try.func11, Try.ntmps11
    go_wp2_with fail
    refine CM.out.mono ?_
    rintro e w3 ⟨x3, sa3, c3, rfl, hl3, hs3, hb3, hf3, hg3⟩
    obtain ⟨s4, X4, F4⟩ := pl_fin (p := M) T2.out hl3 hs3 hb3 hf3 hg3
    have X4 := Lib.hid X4
    have F4 := Lib.hid F4
    clear hl3 hs3 hb3 hf3 hg3
    generalize M.2.2.length = m at *
    generalize M.2.1 = k at *
    go_wp2
    exact ret_rw3 Try.results11 rfl rfl rfl X4.out rfl F4.out

def fw (l : List Oq) : Bool := decide (l.length ≤ 60) && l.all (fun h => decide (h.d.size ≤ 3000))
theorem fw_iff {l : List Oq} : fw l = true ↔ l.length ≤ 60 ∧ ∀ h ∈ l, h.d.size ≤ 3000 := by unfold fw; simp
theorem all_take20q {l : List Oq} {i : Nat} (h : i < l.length) (p : Oq → Bool) : (l.take (i + 1)).all p = ((l.take i).all p && p l[i]) := by
  rw [List.take_succ_eq_append_getElem h, List.all_append, List.all_cons, List.all_nil, Bool.and_true]
theorem all_no20q {l : List Oq} {i : Nat} (h : i < l.length) {p : Oq → Bool} (hp : p l[i] = false) : l.all p = false := by
  rw [List.all_eq_false]; exact ⟨_, List.getElem_mem h, by rw [hp]; decide⟩

set_option maxRecDepth 100000 in
set_option maxHeartbeats 4000000 in
theorem few20_any (sa : Option Addr) (l : List Oq) (c : Nat) (w : World) (hS : Oq_.Sl w sa l c) :
    Calls Try.prog 24 #[.slice sa l.length c] w fun e w' => e = .returned (.bool (fw l)) ∧ w = w' := by
  obtain ⟨n, hn⟩ : ∃ n, l.length = n := ⟨_, rfl⟩
  have HN := Lib.hid hn
  have HS := Lib.hid hS
  rw [hn]
  clear hn hS
  by_cases h60 : 60 < n
  · have HR := Lib.hid (show fw l = false by unfold fw; rw [decide_eq_false (by have := HN.out; omega)]; rfl)
    rw [HR.out]
    have h60' : (60 : Int) < (n : Int) := by omega
    go_enter Try.func24, Try.ntmps24
    go_wp2
    go_returns
    exact ⟨rfl, rfl⟩
  have HR := Lib.hid (show fw l = l.all (fun h => decide (h.d.size ≤ 3000)) by unfold fw; rw [decide_eq_true (by have := HN.out; omega)]; rfl)
  rw [HR.out]
  have h60' : ¬ (60 : Int) < (n : Int) := by omega
  go_enter Try.func24, Try.ntmps24
  go_wp2
  go_loopw [3] (fun i wr => ∃ k : Nat, k ≤ n ∧ i = .int .i64 k ∧ Hid ((l.take k).all (fun h => decide (h.d.size ≤ 3000)) = true) ∧ wr = w) (fun i _ => n - (intOf i).toNat)
  case atStart => exact ⟨0, Nat.zero_le _, rfl, rfl, rfl⟩
  case round =>
    obtain ⟨k, hk, rfl, HA, rfl⟩ := hrel
    by_cases hlt : k < n
    · have hkl : k < l.length := by have := HN.out; omega
      obtain ⟨b1, off, rfl, -, c0, c1, c2⟩ := HS.out.lies k hkl
      have HLT := Lib.hid hlt
      have HT := Lib.hid (all_take20q hkl (fun h => decide (h.d.size ≤ 3000)))
      have HF := Lib.hid (fun hh => all_no20q hkl (p := fun h => decide (h.d.size ≤ 3000)) hh)
      generalize l[k] = z at *
      clear hkl
      by_cases hz : 3000 < z.d.size
      · have hz' : (3000 : Int) < (z.d.size : Int) := by omega
        have HRS := Lib.hid (HF.out (decide_eq_false (by omega)))
        go_wp2
        go_returns
        exact ⟨by rw [HRS.out]; rfl, rfl⟩
      · have hz' : ¬ (3000 : Int) < (z.d.size : Int) := by omega
        have HRS : Hid ((l.take (k + 1)).all (fun h => decide (h.d.size ≤ 3000)) = true) := by
          show (l.take (k + 1)).all (fun h => decide (h.d.size ≤ 3000)) = true
          rw [HT.out, HA.out]
          exact decide_eq_true (by omega)
        go_wp2
        go_roundw
        case rel => exact ⟨k + 1, HLT.out, by go_num, HRS, by first | exact rfl | exact trivial⟩
        case measure => have := HLT.out; simp [intOf]; omega
    · obtain rfl : k = n := by omega
      have HRS : Hid (l.all (fun h => decide (h.d.size ≤ 3000)) = true) := by
        have h := HA.out
        rw [show l.take k = l by rw [← HN.out, List.take_length]] at h
        exact h
      go_wp2
      go_returns
      exact ⟨by rw [HRS.out]; rfl, rfl⟩
end Go.Proofs.Yteffmfloopkmoaa
