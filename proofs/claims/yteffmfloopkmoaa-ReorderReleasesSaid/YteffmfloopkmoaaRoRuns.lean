/-
  THE WALK of ReorderRuns.
-/
import Derived.Test.YteffmfloopkmoaaRoPlay
import Derived.Test.YteffmfloopkmoaaRoLawC
import Derived.Deep.DeepCutAuto
import Derived.Deep.RegionHeld
import Derived.Deep.MidRow
namespace Go.Proofs.Yteffmfloopkmoaa
open Go.RowKit Go.Ro Go.Sq Go.Wr
attribute [local go_sem ↓ high] Rw_.loadF Rw_.storeF Rw_.v_cells Rw_.v_match
attribute [local go_sem] Rw_.C0 Rw_.C1 Rw_.C2 Rw_.loadF_new Rw_.storeF_zero Oper.semAt_some

theorem c_nostr (z : Rw) (j : Nat) (s : ByteArray) : (Rw_.C z)[j]? ≠ some (.string s) := by
  intro h
  unfold Rw_.C at h
  match j, h with
  | 0, h => simp at h
  | 1, h => simp at h
  | 2, h => simp at h
  | j + 3, h => simp at h
theorem lies_row3 {w : World} {x : Rw} {b : Bf} {g : Nat} {c : Array Value} (h : Lies w x b) (hb : ∃ z, Rw_.Box w g z) : Lies (w.setRow g c) x b := by
  obtain ⟨z, hz⟩ := hb
  refine lies_row2 h (fun bb off hp e e2 => ?_)
  obtain ⟨b', o', e', -, -, h1⟩ := h.sl.lies 0 hp
  rw [e] at e'; cases e'
  subst e2
  rw [hz.all] at h1
  exact c_nostr z _ _ h1
theorem ss_row3 {w : World} {sa : Option Addr} {l : List ByteArray} {c0 g : Nat} {c : Array Value} (h : Ss_.Sl w sa l c0) (hb : ∃ z, Rw_.Box w g z) : Ss_.Sl (w.setRow g c) sa l c0 := by
  obtain ⟨z, hz⟩ := hb
  refine ⟨fun i hi => ?_, h.le, h.nil⟩
  obtain ⟨bb, off, e, hl, h0⟩ := h.lies i hi
  have hne : bb ≠ g := fun e2 => by
    subst e2
    rw [hz.all] at h0
    exact c_nostr z _ _ h0
  exact ⟨bb, off, e, by simpa [World.setRow] using hl, (World.cell?_of_block (w := w) (Rw_.setRow_other hne c)).trans h0⟩

/-- The two buffers in their cells. -/
structure Rn (W : World) (B7 B9 : Nat) (x y : Rw) (b : Bf) (wi : World) : Prop where
  b7 : Rw_.Box wi B7 x
  b9 : Rw_.Box wi B9 y
  lx : Lies wi x b
  ly : Lies wi y b
  bel : Below W.heap.size W wi
  n7 : W.heap.size ≤ B7
  n9 : W.heap.size ≤ B9
  ne : B7 ≠ B9
theorem Rn.below {W : World} {B7 B9 : Nat} {x y : Rw} {b : Bf} {wi wj : World} (h : Rn W B7 B9 x y b wi) (hb : Below wi.heap.size wi wj) : Rn W B7 B9 x y b wj :=
  ⟨h.b7.below hb h.b7.lt, h.b9.below hb h.b9.lt, h.lx.below hb, h.ly.below hb, h.bel.trans (hb.mono h.bel.size), h.n7, h.n9, h.ne⟩
theorem Rn.drew {W : World} {B7 B9 : Nat} {x y : Rw} {b : Bf} {wi : World} (h : Rn W B7 B9 x y b wi) : Rn W B7 B9 x y b wi.drew := h.below ⟨rfl, rfl, rfl, Nat.le_refl _, fun _ _ => rfl⟩
theorem Rn.row {W : World} {B7 B9 g : Nat} {x y z : Rw} {b : Bf} {wi : World} (h : Rn W B7 B9 x y b wi) (hg : Rw_.Box wi g z) (h7 : B7 ≠ g) (h9 : B9 ≠ g) (hW : W.heap.size ≤ g) (c : Array Value) : Rn W B7 B9 x y b (wi.setRow g c) :=
  ⟨(Rw_.setRow_other h7 c).trans h.b7, (Rw_.setRow_other h9 c).trans h.b9, lies_row3 h.lx ⟨z, hg⟩, lies_row3 h.ly ⟨z, hg⟩, below_row h.bel hW c, h.n7, h.n9, h.ne⟩
/-- Behind the program's call. -/
structure Rm (W : World) (B7 B9 : Nat) (x y : Rw) (b P : Bf) (L : List ByteArray) (g : Nat) (x5 : Rw) (sa5 : Option Addr) (c5 : Nat) (wi : World) : Prop where
  rn : Rn W B7 B9 x y b wi
  bg : Rw_.Box wi g x5
  lg : Lies wi x5 P
  sg : Ss_.Sl wi sa5 L c5
  gW : W.heap.size ≤ g
  g7 : B7 ≠ g
  g9 : B9 ≠ g
theorem Rm.below {W : World} {B7 B9 : Nat} {x y : Rw} {b P : Bf} {L : List ByteArray} {g : Nat} {x5 : Rw} {sa5 : Option Addr} {c5 : Nat} {wi wj : World} (h : Rm W B7 B9 x y b P L g x5 sa5 c5 wi) (hb : Below wi.heap.size wi wj) : Rm W B7 B9 x y b P L g x5 sa5 c5 wj :=
  ⟨h.rn.below hb, h.bg.below hb h.bg.lt, h.lg.below hb, h.sg.below hb, h.gW, h.g7, h.g9⟩
theorem rm_new {W w5 : World} {B7 B9 : Nat} {x y x5 : Rw} {b P : Bf} {L : List ByteArray} {sa5 : Option Addr} {c5 : Nat} (T : Rn W B7 B9 x y b w5) (hl : Lies w5 x5 P) (hs : Ss_.Sl w5 sa5 L c5) : Hid (Rm W B7 B9 x y b P L w5.heap.size x5 sa5 c5 (w5.alloc (.cells (Rw_.C x5) 25))) := by
  have b : Below w5.heap.size w5 (w5.alloc (.cells (Rw_.C x5) 25)) := (Below.refl _ _).alloc (Nat.le_refl _) _
  exact ⟨T.below b, Rw_.Box.new w5 x5, hl.below b, hs.below b, T.bel.size, by have := T.b7.lt; omega, by have := T.b9.lt; omega⟩
theorem rm_set {W w5 : World} {B7 B9 g : Nat} {x y x5 z : Rw} {b P : Bf} {L : List ByteArray} {sa5 : Option Addr} {c5 : Nat} (T : Rn W B7 B9 x y b w5) (hA : Rw_.Box w5 g z) (h7 : B7 < g) (h9 : B9 < g) (hW : W.heap.size ≤ g) (hl : Lies w5 x5 P) (hs : Ss_.Sl w5 sa5 L c5) :
    Hid (Rm W B7 B9 x y b P L g x5 sa5 c5 (w5.setRow g (Rw_.C x5))) :=
  ⟨T.row hA (by omega) (by omega) hW _, hA.setRow x5, lies_row3 hl ⟨z, hA⟩, ss_row3 hs ⟨z, hA⟩, hW, by omega, by omega⟩
/-- A cell for the reference's buffer. -/
structure Rx (W : World) (B7 B9 : Nat) (x y : Rw) (b P : Bf) (L : List ByteArray) (g : Nat) (x5 : Rw) (sa5 : Option Addr) (c5 B15 : Nat) (wi : World) : Prop where
  rm : Rm W B7 B9 x y b P L g x5 sa5 c5 wi
  b15 : ∃ z, Rw_.Box wi B15 z
  hW : W.heap.size ≤ B15
  e7 : B7 ≠ B15
  e9 : B9 ≠ B15
  eg : g ≠ B15
theorem Rx.below {W : World} {B7 B9 : Nat} {x y : Rw} {b P : Bf} {L : List ByteArray} {g : Nat} {x5 : Rw} {sa5 : Option Addr} {c5 B15 : Nat} {wi wj : World} (h : Rx W B7 B9 x y b P L g x5 sa5 c5 B15 wi) (hb : Below wi.heap.size wi wj) : Rx W B7 B9 x y b P L g x5 sa5 c5 B15 wj := by
  obtain ⟨z, hz⟩ := h.b15
  exact ⟨h.rm.below hb, ⟨z, hz.below hb hz.lt⟩, h.hW, h.e7, h.e9, h.eg⟩
theorem Rx.sto {W : World} {B7 B9 : Nat} {x y : Rw} {b P : Bf} {L : List ByteArray} {g : Nat} {x5 : Rw} {sa5 : Option Addr} {c5 B15 : Nat} {wi : World} (h : Rx W B7 B9 x y b P L g x5 sa5 c5 B15 wi) (y7 : Rw) :
    (Rw_.StoreF ⟨B15, 0, none⟩ (Rw_.v y7)).run Try.prog wi = .ok () (wi.setRow B15 (Rw_.C y7)) ∧ Rw_.Box (wi.setRow B15 (Rw_.C y7)) B15 y7 := by
  obtain ⟨z, hz⟩ := h.b15
  exact ⟨hz.storeF y7, hz.setRow y7⟩
theorem Rx.set {W : World} {B7 B9 : Nat} {x y : Rw} {b P : Bf} {L : List ByteArray} {g : Nat} {x5 : Rw} {sa5 : Option Addr} {c5 B15 : Nat} {wi : World} (h : Rx W B7 B9 x y b P L g x5 sa5 c5 B15 wi) (y7 : Rw) : Rx W B7 B9 x y b P L g x5 sa5 c5 B15 (wi.setRow B15 (Rw_.C y7)) := by
  obtain ⟨z, hz⟩ := h.b15
  exact ⟨⟨h.rm.rn.row hz h.e7 h.e9 h.hW _, (Rw_.setRow_other h.eg _).trans h.rm.bg, lies_row3 h.rm.lg ⟨z, hz⟩, ss_row3 h.rm.sg ⟨z, hz⟩, h.rm.gW, h.rm.g7, h.rm.g9⟩, ⟨y7, hz.setRow y7⟩, h.hW, h.e7, h.e9, h.eg⟩
def Fz (W : World) (B7 B9 : Nat) (x y : Rw) (b P : Bf) (L : List ByteArray) (g : Nat) (x5 : Rw) (sa5 : Option Addr) (c5 B15 : Nat) (y7 : Rw) (sb7 : Option Addr) (d7 : Nat) (wi : World) : Prop :=
  Rx W B7 B9 x y b P L g x5 sa5 c5 B15 wi ∧ Rw_.Box wi B15 y7 ∧ Lies wi y7 P ∧ Ss_.Sl wi sb7 L d7
theorem fz_below {W : World} {B7 B9 : Nat} {x y : Rw} {b P : Bf} {L : List ByteArray} {g : Nat} {x5 : Rw} {sa5 : Option Addr} {c5 B15 : Nat} {y7 : Rw} {sb7 : Option Addr} {d7 : Nat} {wi wj : World} (h : Fz W B7 B9 x y b P L g x5 sa5 c5 B15 y7 sb7 d7 wi) (hb : Below wi.heap.size wi wj) : Fz W B7 B9 x y b P L g x5 sa5 c5 B15 y7 sb7 d7 wj :=
  ⟨h.1.below hb, h.2.1.below hb h.2.1.lt, h.2.2.1.below hb, h.2.2.2.below hb⟩
theorem rn_next {W : World} {B7 B9 : Nat} {x y : Rw} {b P : Bf} {L : List ByteArray} {g : Nat} {x5 : Rw} {sa5 : Option Addr} {c5 B15 : Nat} {y7 : Rw} {sb7 : Option Addr} {d7 : Nat} {wi : World} (h : Fz W B7 B9 x y b P L g x5 sa5 c5 B15 y7 sb7 d7 wi) :
    (Rw_.StoreF ⟨B7, 0, none⟩ (Rw_.v x5)).run Try.prog wi = .ok () (wi.setRow B7 (Rw_.C x5)) ∧ (Rw_.LoadF ⟨B15, 0, none⟩).run Try.prog (wi.setRow B7 (Rw_.C x5)) = .ok (Rw_.v y7) (wi.setRow B7 (Rw_.C x5)) ∧
    (Rw_.StoreF ⟨B9, 0, none⟩ (Rw_.v y7)).run Try.prog (wi.setRow B7 (Rw_.C x5)) = .ok () ((wi.setRow B7 (Rw_.C x5)).setRow B9 (Rw_.C y7)) ∧ Rn W B7 B9 x5 y7 P ((wi.setRow B7 (Rw_.C x5)).setRow B9 (Rw_.C y7)) := by
  have hn := h.1.rm.rn
  have hb9 : Rw_.Box (wi.setRow B7 (Rw_.C x5)) B9 y := (Rw_.setRow_other hn.ne.symm _).trans hn.b9
  have h15 : Rw_.Box (wi.setRow B7 (Rw_.C x5)) B15 y7 := (Rw_.setRow_other h.1.e7.symm _).trans h.2.1
  exact ⟨hn.b7.storeF x5, h15.loadF, hb9.storeF y7, (Rw_.setRow_other hn.ne _).trans (hn.b7.setRow x5), hb9.setRow y7, lies_row3 (lies_row3 h.1.rm.lg ⟨x, hn.b7⟩) ⟨y, hb9⟩, lies_row3 (lies_row3 h.2.2.1 ⟨x, hn.b7⟩) ⟨y, hb9⟩, below_row (below_row hn.bel hn.n7 _) hn.n9 _, hn.n7, hn.n9, hn.ne⟩

set_option linter.unusedSimpArgs false in
set_option linter.unusedVariables false in
set_option maxRecDepth 100000 in
set_option maxHeartbeats 16000000 in
theorem reorderRuns_walk1 (s z : Int) (l : List Oq) (sa : Option Addr) (c : Nat) (W : World) (hS : Oq_.Sl W sa l c) :
    Calls Try.prog 6 #[.int .i64 s, .int .i64 z, .slice sa l.length c] W fun e w' => e = .returned (.bool true) ∧ Below W.heap.size W w' := by
  have HS := Lib.hid hS
  have CL := Lib.hid lives20_any
  have N1 := Lib.hid (fun W => ro_new_any s z W)
  have N2 := Lib.hid (fun W => r_new_any s z W)
  unfold NewPost at N1 N2
  have CF : Hid (∀ w, Below W.heap.size W w → Calls Try.prog 24 #[.slice sa l.length c] w fun e w' => e = .returned (.bool (fw l)) ∧ w = w') := fun w h => few20_any sa l c w (hS.below h)
  have hn := not20
  have hE : Hid ((new s z).2 = if hdOk s z then 0 else 4) := by show (new s z).2 = _; unfold new; split <;> rfl
  have HLN := Lib.hid (lies_new s z)
  generalize hN : (new s z).1 = b0 at *
  have HB0 : Hid (hdOk s z = true → Ok b0) := fun h => by
    rw [← hN, new_t h]; exact new_ok h
  generalize (new s z).2 = E at *
  generalize hy : (⟨b0.st, b0.sz, none, 0, 0⟩ : Rw) = y0 at *
  obtain ⟨n, hnl⟩ : ∃ n, l.length = n := ⟨_, rfl⟩
  rw [hnl] at CF ⊢
  have HNL := Lib.hid hnl
  clear hN hy hS hnl
  go_enter Try.func6, Try.ntmps6
  go_wp2_with fail
  refine (N1.out W).mono ?_
  rintro e w1 ⟨rfl, h1⟩
  obtain ⟨w2, hw2⟩ : ∃ w2, w1.alloc (.cells (Rw_.C y0) 25) = w2 := ⟨_, rfl⟩
  have hz2 := Rw_.storeF_zero w1 y0
  rw [hw2] at hz2
  have b2 : Below w1.heap.size w1 w2 := hw2 ▸ (Below.refl _ _).alloc (Nat.le_refl _) _
  have X2 := Lib.hid (show Rw_.Box w2 w1.heap.size y0 from hw2 ▸ Rw_.Box.new w1 y0)
  have B2 := Lib.hid (h1.trans (b2.mono h1.size))
  have Z1 := Lib.hid h1.size
  clear h1 hw2 b2
  go_wp2_with fail
  refine (N2.out w2).mono ?_
  rintro e w3 ⟨rfl, h3⟩
  obtain ⟨w4, hw4⟩ : ∃ w4, w3.alloc (.cells (Rw_.C y0) 25) = w4 := ⟨_, rfl⟩
  have hz4 := Rw_.storeF_zero w3 y0
  rw [hw4] at hz4
  have b4 : Below w3.heap.size w3 w4 := hw4 ▸ (Below.refl _ _).alloc (Nat.le_refl _) _
  have hb4 := h3.trans (b4.mono h3.size)
  have R4 : Hid (Rn W w1.heap.size w3.heap.size y0 y0 b0 w4) :=
    ⟨X2.out.below hb4 X2.out.lt, hw4 ▸ Rw_.Box.new w3 y0, HLN.out w4, HLN.out w4, B2.out.trans (hb4.mono B2.out.size), Z1.out, Nat.le_trans B2.out.size h3.size, by have := X2.out.lt; have := h3.size; omega⟩
  clear h3 hw4 b4 hb4 X2 B2 HLN N1 N2
  have CF4 := Lib.hid (CF.out w4 R4.out.bel)
  cases hf : fw l
  · rw [hf] at CF4
    go_wp2_with (first
      | (go_at_call 24; refine CF4.out.mono ?_; rintro e w5 ⟨rfl, rfl⟩)
      | (go_at_call 8; refine (CL.out _).mono ?_; rintro e w6 ⟨rfl, h6⟩; have B6 := Lib.hid (R4.out.bel.trans (h6.mono R4.out.bel.size)); clear h6))
    go_returns
    exact ⟨rfl, B6.out⟩
  rw [hf] at CF4
  cases hh : hdOk s z
  · obtain rfl : E = 4 := by rw [hE.out, hh]; rfl
    clear hE
    go_wp2_with (first
      | (go_at_call 24; refine CF4.out.mono ?_; rintro e w5 ⟨rfl, rfl⟩)
      | (go_at_call 8; refine (CL.out _).mono ?_; rintro e w6 ⟨rfl, h6⟩; have B6 := Lib.hid (R4.out.bel.trans (h6.mono R4.out.bel.size)); clear h6))
    go_returns
    exact ⟨rfl, B6.out⟩
  obtain rfl : E = 0 := by rw [hE.out, hh]; rfl
  clear hE
  have HOK0 := Lib.hid (HB0.out hh)
  have HFW := Lib.hid (fw_iff.1 hf)
  clear hf hh HB0
  go_wp2_with (go_at_call 24; refine CF4.out.mono ?_; rintro e w5 ⟨rfl, rfl⟩)
  clear CF CF4 hz2 hz4
  generalize w1.heap.size = B7 at *
  generalize w3.heap.size = B9 at *
  go_loopw [11] (fun s11 wr => ∃ (i : Nat) (b : Bf) (x y : Rw), s11 = .int .i64 i ∧ i ≤ n ∧ Hid (Ok b) ∧ Hid (Rn W B7 B9 x y b wr)) (fun s11 _ => n - (intOf s11).toNat)
  case atStart => exact ⟨0, b0, y0, y0, rfl, Nat.zero_le _, HOK0, R4⟩
  case round =>
    clear R4 HOK0
    rename World => wr
    obtain ⟨i, b, x, y, rfl, hi, HOK, RW⟩ := hrel
    have hi1 : i ≤ 1000 := by have := HFW.out.1; have := HNL.out; omega
    by_cases hlt : i < n
    case neg =>
      go_wp2_with (go_at_call 8; refine (CL.out _).mono ?_; rintro e w6 ⟨rfl, h6⟩; have B6 := Lib.hid (RW.out.bel.trans (h6.mono RW.out.bel.size)); clear h6)
      go_returns
      exact ⟨rfl, B6.out⟩
    have hil : i < l.length := by have := HNL.out; omega
    obtain ⟨bb, off, hsa, hbl, k0, k1, k2⟩ := HS.out.lies i hil
    have hd : l[i].d.size ≤ 5000 := Nat.le_trans (HFW.out.2 _ (List.getElem_mem hil)) (by decide)
    subst hsa
    generalize l[i] = o at *
    have HK : Hid (∀ w', Below W.heap.size W w' → w'.cell? ⟨bb, off + i * 3, none⟩ = some (.int .i64 o.k) ∧ w'.cell? ⟨bb, off + i * 3 + 1, none⟩ = some (.int .i64 o.q) ∧ w'.cell? ⟨bb, off + i * 3 + 2, none⟩ = some (.string o.d)) := fun w' h => ⟨(h.cell hbl).trans k0, (h.cell hbl).trans k1, (h.cell hbl).trans k2⟩
    have HLT := Lib.hid hlt
    have CP := Lib.hid (fun w h => play20_any x b o w h HOK.out hd)
    have CPL := Lib.hid (pl_ok HOK.out o)
    have HLL := Lib.hid (pl_len HOK.out o)
    have CR1 : Hid (o.k = 1 → pl b o = ((Ro.move b o.q).1, 0, (Ro.move b o.q).2)) := fun h => if_pos h
    have CR2 : Hid (¬ o.k = 1 → o.k = 2 → pl b o = ((flush b).1, 0, (flush b).2)) := fun h1 h2 => (if_neg h1).trans (if_pos h2)
    have CR3 : Hid (¬ o.k = 1 → ¬ o.k = 2 → pl b o = put b o.q o.d) := fun h1 h2 => (if_neg h1).trans (if_neg h2)
    have CRM := Lib.hid (fun w h => r_move_any y b o.q w h HOK.out)
    have CRF := Lib.hid (fun w h => r_flush_any y b w h HOK.out)
    have CRP := Lib.hid (fun w h => r_put_any y b o.q o.d w h HOK.out hd)
    unfold PutPost at CP
    unfold RPost at CRM CRF
    unfold RPutPost at CRP
    obtain ⟨P, K, L, hP⟩ : ∃ P K L, pl b o = (P, K, L) := ⟨_, _, _, rfl⟩
    rw [hP] at CP CPL HLL CR1 CR2 CR3
    dsimp only at CP CPL HLL
    have HOKP : Hid (Ok P) := CPL
    have CSM := Lib.hid (fun y y' w h h' => r_same_any y y' P w h h' (Nat.le_trans HOKP.out.len (by decide)))
    have CSD := Lib.hid (fun sa sb c c' w h h' => r_sameData_any L sa sb c c' w h h' HLL.out)
    have CCK : Hid (∀ y w, Lies w y P → Calls Try.prog 15 #[Rw_.v y] w fun e w' => e = .returned (.int .i64 0) ∧ Below w.heap.size w w') := fun y w h => by
      have h2 := ro_check_any y P w h (Nat.le_trans HOKP.out.len (by decide))
      rw [(chk_ok P).2 HOKP.out] at h2
      exact h2
    clear hlt hil hbl k0 k1 k2 hP hd CPL
    have TD1 : Hid (Rn W B7 B9 x y b wr.drew) := Lib.hid RW.out.drew
    have TD2 : Hid (Rn W B7 B9 x y b (wr.alloc (.cells (Rw_.C zr) 25)).drew) := Lib.hid (RW.out.below ((Below.refl _ _).alloc (Nat.le_refl _) _)).drew
    have HLIM : Hid (∀ w', Rn W B7 B9 x y b w' → (Rw_.LoadF ⟨B7, 0, none⟩).run Try.prog w' = .ok (Rw_.v x) w' ∧ w'.cell? ⟨bb, off + i * 3, none⟩ = some (.int .i64 o.k) ∧ w'.cell? ⟨bb, off + i * 3 + 1, none⟩ = some (.int .i64 o.q) ∧ w'.cell? ⟨bb, off + i * 3 + 2, none⟩ = some (.string o.d) ∧ Rn W B7 B9 x y b w') := fun w' h =>
      ⟨h.b7.loadF, (HK.out w' h.bel).1, (HK.out w' h.bel).2.1, (HK.out w' h.bel).2.2, h⟩
    have i0 : (0 : Int) ≤ (i : Int) := by omega
    have hltn := HLT.out
    go_upto_region 8 with fail
    go_cut [12, 13, 14] (fun p k v wx => ∃ g x5 sa5 c5, p = .pointer (some ⟨g, 0, none⟩) ∧ k = .int .i64 K ∧ v = .slice sa5 L.length c5 ∧ Hid (Rm W B7 B9 x y b P L g x5 sa5 c5 wx))
    case first =>
      refine wp_region_held_drew (S := (fun w' => (Rw_.LoadF ⟨B7, 0, none⟩).run Try.prog w' = .ok (Rw_.v x) w' ∧ w'.cell? ⟨bb, off + i * 3, none⟩ = some (.int .i64 o.k) ∧ w'.cell? ⟨bb, off + i * 3 + 1, none⟩ = some (.int .i64 o.q) ∧ w'.cell? ⟨bb, off + i * 3 + 2, none⟩ = some (.string o.d) ∧ Rn W B7 B9 x y b w')) (by kernel_rfl) ?_ (fun hHeld => ?_)
      · exact HLIM.out _ TD1.out
      refine wpAnyH_take (i := 0) (oi := { dst := some 55, op := Op.load 25 (Operand.tmp 7), type := 25, pos := "law.go:87", after := #[], guard := none }) (v := ?v1) rfl (by kernel_rfl) (by kernel_rfl) (by kernel_rfl) (fun _ _ _ h => h) (Or.inl ⟨by rfl, ?y1⟩) hHeld ?r1
      case y1 => (intro w hSw; (try dsimp only at hSw); go_simp; try with_reducible rfl)
      try simp only [Act.put, List.setIfInBounds_toArray, List.set_cons_zero, List.set_cons_succ]
      refine wpAnyH_take (i := 1) (oi := { dst := some 56, op := Op.move (Operand.tmp 2), type := 22, pos := "law.go:87", after := #[], guard := none }) (v := ?v2) rfl (by kernel_rfl) (by kernel_rfl) (by kernel_rfl) (fun _ _ _ h => h) (Or.inl ⟨by rfl, ?y2⟩) hHeld ?r2
      case y2 => (intro w hSw; (try dsimp only at hSw); go_simp; try with_reducible rfl)
      try simp only [Act.put, List.setIfInBounds_toArray, List.set_cons_zero, List.set_cons_succ]
      refine wpAnyH_take (i := 2) (oi := { dst := some 57, op := Op.move (Operand.tmp 11), type := 3, pos := "law.go:87", after := #[], guard := none }) (v := ?v3) rfl (by kernel_rfl) (by kernel_rfl) (by kernel_rfl) (fun _ _ _ h => h) (Or.inl ⟨by rfl, ?y3⟩) hHeld ?r3
      case y3 => (intro w hSw; (try dsimp only at hSw); go_simp; try with_reducible rfl)
      try simp only [Act.put, List.setIfInBounds_toArray, List.set_cons_zero, List.set_cons_succ]
      refine wpAnyH_take (i := 3) (oi := { dst := some 58, op := Op.indexAddr 22 (Operand.tmp 56) (Operand.tmp 57), type := 0, pos := "law.go:87", after := #[{ on := 1, ground := Ground.data }, { on := 2, ground := Ground.data }], guard := none }) (v := ?v4) rfl (by kernel_rfl) (by kernel_rfl) (by kernel_rfl) (fun _ _ _ h => h) (Or.inl ⟨by rfl, ?y4⟩) hHeld ?r4
      case y4 => (intro w hSw; (try dsimp only at hSw); go_simp; try with_reducible rfl)
      try simp only [Act.put, List.setIfInBounds_toArray, List.set_cons_zero, List.set_cons_succ]
      refine wpAnyH_take (i := 4) (oi := { dst := some 59, op := Op.load 31 (Operand.tmp 58), type := 31, pos := "law.go:87", after := #[{ on := 3, ground := Ground.data }], guard := none }) (v := ?v5) rfl (by kernel_rfl) (by kernel_rfl) (by kernel_rfl) (fun _ _ _ h => h) (Or.inl ⟨by rfl, ?y5⟩) hHeld ?r5
      case y5 => (intro w hSw; (try dsimp only at hSw); go_simp; try with_reducible rfl)
      try simp only [Act.put, List.setIfInBounds_toArray, List.set_cons_zero, List.set_cons_succ]
      refine wpAnyH_ready (rs := [5, 10]) (by kernel_rfl) (by simp) ?_
      refine AllReadyH.cons (o := { dst := some 60, op := Op.call { callee := Callee.value (Operand.func 11), args := #[Operand.tmp 55, Operand.tmp 59], argTypes := #[25, 31] }, type := 36, pos := "law.go:87", after := #[{ on := 0, ground := Ground.data }, { on := 4, ground := Ground.data }], guard := none }) rfl (fun K hK => ?_) ?_
      · clear hHeld
        go_simp
        go_at_call 11
        first | refine (CP.out _ TD1.out.lx).mono ?_ | refine (CP.out _ TD2.out.lx).mono ?_
        rintro e w5 ⟨x5, sa5, c5, rfl, hl5, hs5, hb5, hf5, hg5⟩
        have T5 : Hid (Rn W B7 B9 x y b w5) := (by first | exact ⟨TD1.out.below hb5⟩ | exact ⟨TD2.out.below hb5⟩ | exact TD1.out.below hb5 | exact TD2.out.below hb5)
        have HM2 : Hid (Rm W B7 B9 x y b P L w5.heap.size x5 sa5 c5 (w5.alloc (.cells (Rw_.C x5) 25))) := (by first | exact rm_new T5.out hl5 hs5)
        try (have A5 : Hid (Rw_.Box w5 wr.heap.size zr) := (show Rw_.Box (wr.alloc (.cells (Rw_.C zr) 25)).drew wr.heap.size zr from Rw_.Box.new wr zr).below hb5 (by simp))
        try (have HM1 : Hid (Rm W B7 B9 x y b P L wr.heap.size x5 sa5 c5 (w5.setRow wr.heap.size (Rw_.C x5))) := rm_set T5.out A5.out TD1.out.b7.lt TD1.out.b9.lt TD1.out.bel.size hl5 hs5)
        try (have sA := A5.out.storeF x5)
        clear hl5 hs5 hb5 hf5 hg5
        refine hK.out _ _ ?_ (fun hHeld => ?_)
        · first | exact HLIM.out _ TD1.out | exact HLIM.out _ TD2.out | exact HLIM.out _ T5.out | exact HLIM.out _ (T5.out.below ((Below.refl _ _).alloc (Nat.le_refl _) _)) | exact HLIM.out _ HM2.out.rn | exact HLIM.out _ HM1.out.rn
        clear hK K
        try simp only [Act.put, List.setIfInBounds_toArray, List.set_cons_zero, List.set_cons_succ]
        refine wpAnyH_take (i := 6) (oi := { dst := some 54, op := Op.move (Operand.tmp 60), type := 36, pos := "law.go:87", after := #[{ on := 5, ground := Ground.data }], guard := none }) (v := ?v6) rfl (by kernel_rfl) (by kernel_rfl) (by kernel_rfl) (fun _ _ _ h => h) (Or.inl ⟨by rfl, ?y6⟩) hHeld ?r6
        case y6 => (intro w hSw; (try dsimp only at hSw); go_simp; try with_reducible rfl)
        try simp only [Act.put, List.setIfInBounds_toArray, List.set_cons_zero, List.set_cons_succ]
        refine wpAnyH_take (i := 7) (oi := { dst := some 61, op := Op.extract (Operand.tmp 54) 0, type := 25, pos := "law.go:87", after := #[{ on := 6, ground := Ground.data }], guard := none }) (v := ?v7) rfl (by kernel_rfl) (by kernel_rfl) (by kernel_rfl) (fun _ _ _ h => h) (Or.inl ⟨by rfl, ?y7⟩) hHeld ?r7
        case y7 => (intro w hSw; (try dsimp only at hSw); go_simp; try with_reducible rfl)
        try simp only [Act.put, List.setIfInBounds_toArray, List.set_cons_zero, List.set_cons_succ]
        refine wpAnyH_take (i := 8) (oi := { dst := some 62, op := Op.extract (Operand.tmp 54) 1, type := 3, pos := "law.go:87", after := #[{ on := 6, ground := Ground.data }, { on := 11, ground := Ground.gcOnly Departure.lateStores }], guard := none }) (v := ?v8) rfl (by kernel_rfl) (by kernel_rfl) (by kernel_rfl) (fun _ _ _ h => h) (Or.inl ⟨by rfl, ?y8⟩) hHeld ?r8
        case y8 => (intro w hSw; (try dsimp only at hSw); go_simp; try with_reducible rfl)
        try simp only [Act.put, List.setIfInBounds_toArray, List.set_cons_zero, List.set_cons_succ]
        refine wpAnyH_take (i := 9) (oi := { dst := some 63, op := Op.extract (Operand.tmp 54) 2, type := 35, pos := "law.go:87", after := #[{ on := 6, ground := Ground.data }, { on := 12, ground := Ground.gcOnly Departure.lateStores }], guard := none }) (v := ?v9) rfl (by kernel_rfl) (by kernel_rfl) (by kernel_rfl) (fun _ _ _ h => h) (Or.inl ⟨by rfl, ?y9⟩) hHeld ?r9
        case y9 => (intro w hSw; (try dsimp only at hSw); go_simp; try with_reducible rfl)
        try simp only [Act.put, List.setIfInBounds_toArray, List.set_cons_zero, List.set_cons_succ]
        refine wpAnyH_ready (rs := [10]) (by kernel_rfl) (by simp) ?_
        refine AllReadyH.cons (o := { dst := some 12, op := Op.alloc 25, type := 0, pos := "law.go:87", after := #[], guard := none }) rfl (fun K hK => ?_) ?_
        · clear hHeld
          go_simp
          refine hK.out _ _ ?_ (fun hHeld => ?_)
          · first | exact HLIM.out _ TD1.out | exact HLIM.out _ TD2.out | exact HLIM.out _ T5.out | exact HLIM.out _ (T5.out.below ((Below.refl _ _).alloc (Nat.le_refl _) _)) | exact HLIM.out _ HM2.out.rn | exact HLIM.out _ HM1.out.rn
          clear hK K
          try simp only [Act.put, List.setIfInBounds_toArray, List.set_cons_zero, List.set_cons_succ]
          refine wpAnyH_ready (rs := [11]) (by kernel_rfl) (by simp) ?_
          refine AllReadyH.cons (o := { dst := none, op := Op.store 25 (Operand.tmp 12) (Operand.tmp 61), type := 0, pos := "law.go:87", after := #[{ on := 10, ground := Ground.data }, { on := 7, ground := Ground.data }, { on := 5, ground := Ground.chain }, { on := 0, ground := Ground.phase }, { on := 1, ground := Ground.phase }, { on := 2, ground := Ground.phase }, { on := 3, ground := Ground.phase }, { on := 4, ground := Ground.phase }, { on := 5, ground := Ground.phase }, { on := 6, ground := Ground.phase }, { on := 7, ground := Ground.phase }, { on := 8, ground := Ground.textOnly Departure.lateStores }, { on := 9, ground := Ground.textOnly Departure.lateStores }, { on := 10, ground := Ground.phase }], guard := none }) rfl (fun K hK => ?_) ?_
          · clear hHeld
            go_simp
            refine hK.out _ _ ?_ (fun hHeld => ?_)
            · first | exact HLIM.out _ TD1.out | exact HLIM.out _ TD2.out | exact HLIM.out _ T5.out | exact HLIM.out _ (T5.out.below ((Below.refl _ _).alloc (Nat.le_refl _) _)) | exact HLIM.out _ HM2.out.rn | exact HLIM.out _ HM1.out.rn
            clear hK K
            try simp only [Act.put, List.setIfInBounds_toArray, List.set_cons_zero, List.set_cons_succ]
            refine wpAnyH_take (i := 12) (oi := { dst := some 13, op := Op.assign (Operand.tmp 62), type := 3, pos := "law.go:87", after := #[{ on := 8, ground := Ground.data }, { on := 11, ground := Ground.chain }, { on := 0, ground := Ground.phase }, { on := 1, ground := Ground.phase }, { on := 2, ground := Ground.phase }, { on := 3, ground := Ground.phase }, { on := 4, ground := Ground.phase }, { on := 5, ground := Ground.phase }, { on := 6, ground := Ground.phase }, { on := 7, ground := Ground.phase }, { on := 8, ground := Ground.phase }, { on := 9, ground := Ground.textOnly Departure.lateStores }, { on := 10, ground := Ground.phase }, { on := 11, ground := Ground.phase }], guard := none }) (v := ?v10) rfl (by kernel_rfl) (by kernel_rfl) (by kernel_rfl) (fun _ _ _ h => h) (Or.inl ⟨by rfl, ?y10⟩) hHeld ?r10
            case y10 => (intro w hSw; (try dsimp only at hSw); go_simp; try with_reducible rfl)
            try simp only [Act.put, List.setIfInBounds_toArray, List.set_cons_zero, List.set_cons_succ]
            refine wpAnyH_take (i := 13) (oi := { dst := some 14, op := Op.assign (Operand.tmp 63), type := 35, pos := "law.go:87", after := #[{ on := 9, ground := Ground.data }, { on := 12, ground := Ground.chain }, { on := 0, ground := Ground.phase }, { on := 1, ground := Ground.phase }, { on := 2, ground := Ground.phase }, { on := 3, ground := Ground.phase }, { on := 4, ground := Ground.phase }, { on := 5, ground := Ground.phase }, { on := 6, ground := Ground.phase }, { on := 7, ground := Ground.phase }, { on := 8, ground := Ground.phase }, { on := 9, ground := Ground.phase }, { on := 10, ground := Ground.phase }, { on := 11, ground := Ground.phase }, { on := 12, ground := Ground.phase }], guard := none }) (v := ?v11) rfl (by kernel_rfl) (by kernel_rfl) (by kernel_rfl) (fun _ _ _ h => h) (Or.inl ⟨by rfl, ?y11⟩) hHeld ?r11
            case y11 => (intro w hSw; (try dsimp only at hSw); go_simp; try with_reducible rfl)
            try simp only [Act.put, List.setIfInBounds_toArray, List.set_cons_zero, List.set_cons_succ]
            refine wpAnyH_done (by kernel_rfl) ?_ _
            go_wp2_with fail
            go_meet
            first
              | exact ⟨_, x5, sa5, c5, rfl, rfl, rfl, HM1⟩
              | exact ⟨_, x5, sa5, c5, rfl, rfl, rfl, HM2⟩
          exact AllReadyH.nil
        exact AllReadyH.nil
      refine AllReadyH.cons (o := { dst := some 12, op := Op.alloc 25, type := 0, pos := "law.go:87", after := #[], guard := none }) rfl (fun K hK => ?_) ?_
      · clear hHeld
        go_simp
        refine hK.out _ _ ?_ (fun hHeld => ?_)
        · first | exact HLIM.out _ TD1.out | exact HLIM.out _ TD2.out | exact HLIM.out _ T5.out | exact HLIM.out _ (T5.out.below ((Below.refl _ _).alloc (Nat.le_refl _) _)) | exact HLIM.out _ HM2.out.rn | exact HLIM.out _ HM1.out.rn
        clear hK K
        try simp only [Act.put, List.setIfInBounds_toArray, List.set_cons_zero, List.set_cons_succ]
        refine wpAnyH_ready (rs := [5]) (by kernel_rfl) (by simp) ?_
        refine AllReadyH.cons (o := { dst := some 60, op := Op.call { callee := Callee.value (Operand.func 11), args := #[Operand.tmp 55, Operand.tmp 59], argTypes := #[25, 31] }, type := 36, pos := "law.go:87", after := #[{ on := 0, ground := Ground.data }, { on := 4, ground := Ground.data }], guard := none }) rfl (fun K hK => ?_) ?_
        · clear hHeld
          go_simp
          go_at_call 11
          first | refine (CP.out _ TD1.out.lx).mono ?_ | refine (CP.out _ TD2.out.lx).mono ?_
          rintro e w5 ⟨x5, sa5, c5, rfl, hl5, hs5, hb5, hf5, hg5⟩
          have T5 : Hid (Rn W B7 B9 x y b w5) := (by first | exact ⟨TD1.out.below hb5⟩ | exact ⟨TD2.out.below hb5⟩ | exact TD1.out.below hb5 | exact TD2.out.below hb5)
          have HM2 : Hid (Rm W B7 B9 x y b P L w5.heap.size x5 sa5 c5 (w5.alloc (.cells (Rw_.C x5) 25))) := (by first | exact rm_new T5.out hl5 hs5)
          try (have A5 : Hid (Rw_.Box w5 wr.heap.size zr) := (show Rw_.Box (wr.alloc (.cells (Rw_.C zr) 25)).drew wr.heap.size zr from Rw_.Box.new wr zr).below hb5 (by simp))
          try (have HM1 : Hid (Rm W B7 B9 x y b P L wr.heap.size x5 sa5 c5 (w5.setRow wr.heap.size (Rw_.C x5))) := rm_set T5.out A5.out TD1.out.b7.lt TD1.out.b9.lt TD1.out.bel.size hl5 hs5)
          try (have sA := A5.out.storeF x5)
          clear hl5 hs5 hb5 hf5 hg5
          refine hK.out _ _ ?_ (fun hHeld => ?_)
          · first | exact HLIM.out _ TD1.out | exact HLIM.out _ TD2.out | exact HLIM.out _ T5.out | exact HLIM.out _ (T5.out.below ((Below.refl _ _).alloc (Nat.le_refl _) _)) | exact HLIM.out _ HM2.out.rn | exact HLIM.out _ HM1.out.rn
          clear hK K
          try simp only [Act.put, List.setIfInBounds_toArray, List.set_cons_zero, List.set_cons_succ]
          refine wpAnyH_take (i := 6) (oi := { dst := some 54, op := Op.move (Operand.tmp 60), type := 36, pos := "law.go:87", after := #[{ on := 5, ground := Ground.data }], guard := none }) (v := ?v12) rfl (by kernel_rfl) (by kernel_rfl) (by kernel_rfl) (fun _ _ _ h => h) (Or.inl ⟨by rfl, ?y12⟩) hHeld ?r12
          case y12 => (intro w hSw; (try dsimp only at hSw); go_simp; try with_reducible rfl)
          try simp only [Act.put, List.setIfInBounds_toArray, List.set_cons_zero, List.set_cons_succ]
          refine wpAnyH_take (i := 7) (oi := { dst := some 61, op := Op.extract (Operand.tmp 54) 0, type := 25, pos := "law.go:87", after := #[{ on := 6, ground := Ground.data }], guard := none }) (v := ?v13) rfl (by kernel_rfl) (by kernel_rfl) (by kernel_rfl) (fun _ _ _ h => h) (Or.inl ⟨by rfl, ?y13⟩) hHeld ?r13
          case y13 => (intro w hSw; (try dsimp only at hSw); go_simp; try with_reducible rfl)
          try simp only [Act.put, List.setIfInBounds_toArray, List.set_cons_zero, List.set_cons_succ]
          refine wpAnyH_take (i := 8) (oi := { dst := some 62, op := Op.extract (Operand.tmp 54) 1, type := 3, pos := "law.go:87", after := #[{ on := 6, ground := Ground.data }, { on := 11, ground := Ground.gcOnly Departure.lateStores }], guard := none }) (v := ?v14) rfl (by kernel_rfl) (by kernel_rfl) (by kernel_rfl) (fun _ _ _ h => h) (Or.inl ⟨by rfl, ?y14⟩) hHeld ?r14
          case y14 => (intro w hSw; (try dsimp only at hSw); go_simp; try with_reducible rfl)
          try simp only [Act.put, List.setIfInBounds_toArray, List.set_cons_zero, List.set_cons_succ]
          refine wpAnyH_take (i := 9) (oi := { dst := some 63, op := Op.extract (Operand.tmp 54) 2, type := 35, pos := "law.go:87", after := #[{ on := 6, ground := Ground.data }, { on := 12, ground := Ground.gcOnly Departure.lateStores }], guard := none }) (v := ?v15) rfl (by kernel_rfl) (by kernel_rfl) (by kernel_rfl) (fun _ _ _ h => h) (Or.inl ⟨by rfl, ?y15⟩) hHeld ?r15
          case y15 => (intro w hSw; (try dsimp only at hSw); go_simp; try with_reducible rfl)
          try simp only [Act.put, List.setIfInBounds_toArray, List.set_cons_zero, List.set_cons_succ]
          refine wpAnyH_ready (rs := [11]) (by kernel_rfl) (by simp) ?_
          refine AllReadyH.cons (o := { dst := none, op := Op.store 25 (Operand.tmp 12) (Operand.tmp 61), type := 0, pos := "law.go:87", after := #[{ on := 10, ground := Ground.data }, { on := 7, ground := Ground.data }, { on := 5, ground := Ground.chain }, { on := 0, ground := Ground.phase }, { on := 1, ground := Ground.phase }, { on := 2, ground := Ground.phase }, { on := 3, ground := Ground.phase }, { on := 4, ground := Ground.phase }, { on := 5, ground := Ground.phase }, { on := 6, ground := Ground.phase }, { on := 7, ground := Ground.phase }, { on := 8, ground := Ground.textOnly Departure.lateStores }, { on := 9, ground := Ground.textOnly Departure.lateStores }, { on := 10, ground := Ground.phase }], guard := none }) rfl (fun K hK => ?_) ?_
          · clear hHeld
            go_simp
            refine hK.out _ _ ?_ (fun hHeld => ?_)
            · first | exact HLIM.out _ TD1.out | exact HLIM.out _ TD2.out | exact HLIM.out _ T5.out | exact HLIM.out _ (T5.out.below ((Below.refl _ _).alloc (Nat.le_refl _) _)) | exact HLIM.out _ HM2.out.rn | exact HLIM.out _ HM1.out.rn
            clear hK K
            try simp only [Act.put, List.setIfInBounds_toArray, List.set_cons_zero, List.set_cons_succ]
            refine wpAnyH_take (i := 12) (oi := { dst := some 13, op := Op.assign (Operand.tmp 62), type := 3, pos := "law.go:87", after := #[{ on := 8, ground := Ground.data }, { on := 11, ground := Ground.chain }, { on := 0, ground := Ground.phase }, { on := 1, ground := Ground.phase }, { on := 2, ground := Ground.phase }, { on := 3, ground := Ground.phase }, { on := 4, ground := Ground.phase }, { on := 5, ground := Ground.phase }, { on := 6, ground := Ground.phase }, { on := 7, ground := Ground.phase }, { on := 8, ground := Ground.phase }, { on := 9, ground := Ground.textOnly Departure.lateStores }, { on := 10, ground := Ground.phase }, { on := 11, ground := Ground.phase }], guard := none }) (v := ?v16) rfl (by kernel_rfl) (by kernel_rfl) (by kernel_rfl) (fun _ _ _ h => h) (Or.inl ⟨by rfl, ?y16⟩) hHeld ?r16
            case y16 => (intro w hSw; (try dsimp only at hSw); go_simp; try with_reducible rfl)
            try simp only [Act.put, List.setIfInBounds_toArray, List.set_cons_zero, List.set_cons_succ]
            refine wpAnyH_take (i := 13) (oi := { dst := some 14, op := Op.assign (Operand.tmp 63), type := 35, pos := "law.go:87", after := #[{ on := 9, ground := Ground.data }, { on := 12, ground := Ground.chain }, { on := 0, ground := Ground.phase }, { on := 1, ground := Ground.phase }, { on := 2, ground := Ground.phase }, { on := 3, ground := Ground.phase }, { on := 4, ground := Ground.phase }, { on := 5, ground := Ground.phase }, { on := 6, ground := Ground.phase }, { on := 7, ground := Ground.phase }, { on := 8, ground := Ground.phase }, { on := 9, ground := Ground.phase }, { on := 10, ground := Ground.phase }, { on := 11, ground := Ground.phase }, { on := 12, ground := Ground.phase }], guard := none }) (v := ?v17) rfl (by kernel_rfl) (by kernel_rfl) (by kernel_rfl) (fun _ _ _ h => h) (Or.inl ⟨by rfl, ?y17⟩) hHeld ?r17
            case y17 => (intro w hSw; (try dsimp only at hSw); go_simp; try with_reducible rfl)
            try simp only [Act.put, List.setIfInBounds_toArray, List.set_cons_zero, List.set_cons_succ]
            refine wpAnyH_done (by kernel_rfl) ?_ _
            go_wp2_with fail
            go_meet
            first
              | exact ⟨_, x5, sa5, c5, rfl, rfl, rfl, HM1⟩
              | exact ⟨_, x5, sa5, c5, rfl, rfl, rfl, HM2⟩
          exact AllReadyH.nil
        exact AllReadyH.nil
      exact AllReadyH.nil
    case rest =>
      obtain ⟨g, x5, sa5, c5, rfl, rfl, rfl, HM⟩ := hcut
      obtain ⟨w15, hw15⟩ : ∃ w15, wc.alloc (.cells (Rw_.C zr) 25) = w15 := ⟨_, rfl⟩
      have hw15' : wc.alloc (.cells #[.int .i64 0, .int .i64 0, .slice none 0 0] 25) = w15 := hw15
      have b15 : Below wc.heap.size wc w15 := hw15 ▸ (Below.refl _ _).alloc (Nat.le_refl _) _
      have TE0 : Hid (Rx W B7 B9 x y b P L g x5 sa5 c5 wc.heap.size w15) := ⟨HM.out.below b15, ⟨zr, hw15 ▸ Rw_.Box.new wc zr⟩, HM.out.rn.bel.size, by have := HM.out.rn.b7.lt; omega, by have := HM.out.rn.b9.lt; omega, by have := HM.out.bg.lt; omega⟩
      have TE1 := Lib.hid (TE0.out.below (wj := w15.drew) ⟨rfl, rfl, rfl, Nat.le_refl _, fun _ _ => rfl⟩)
      have k0 := (HK.out w15 TE0.out.rm.rn.bel).1
      clear b15
      by_cases h1 : o.k = 1
      · have hd1 : (o.k == 1) = true := by rw [beq_iff_eq]; exact h1
        have hq := CR1.out h1
        injection hq with q1 q2
        injection q2 with q2 q3
        rw [← q1, ← q3] at CRM
        clear q1 q3
        subst q2
        go_upto_region 15 with fail
        generalize wc.heap.size = B15 at *
        have HLI3 : Hid (∀ w', Rx W B7 B9 x y b P L g x5 sa5 c5 B15 w' → (Rw_.LoadF ⟨B9, 0, none⟩).run Try.prog w' = .ok (Rw_.v y) w' ∧ w'.cell? ⟨bb, off + i * 3 + 1, none⟩ = some (.int .i64 o.q) ∧ Rx W B7 B9 x y b P L g x5 sa5 c5 B15 w') := fun w' h => ⟨h.rm.rn.b9.loadF, (HK.out w' h.rm.rn.bel).2.1, h⟩
        refine wp_region_held_drew (S := (fun w' => (Rw_.LoadF ⟨B9, 0, none⟩).run Try.prog w' = .ok (Rw_.v y) w' ∧ w'.cell? ⟨bb, off + i * 3 + 1, none⟩ = some (.int .i64 o.q) ∧ Rx W B7 B9 x y b P L g x5 sa5 c5 B15 w')) (by kernel_rfl) ?_ (fun hHeld => ?_)
        · exact HLI3.out _ TE1.out
        refine wpAnyH_take (i := 0) (oi := { dst := some 88, op := Op.load 25 (Operand.tmp 9), type := 25, pos := "law.go:93", after := #[], guard := none }) (v := ?va1) rfl (by kernel_rfl) (by kernel_rfl) (by kernel_rfl) (fun _ _ _ h => h) (Or.inl ⟨by rfl, ?ya1⟩) hHeld ?ra1
        case ya1 => (intro w hSw; (try dsimp only at hSw); go_simp; try with_reducible rfl)
        try simp only [Act.put, List.setIfInBounds_toArray, List.set_cons_zero, List.set_cons_succ]
        refine wpAnyH_take (i := 1) (oi := { dst := some 89, op := Op.move (Operand.tmp 2), type := 22, pos := "law.go:93", after := #[], guard := none }) (v := ?va2) rfl (by kernel_rfl) (by kernel_rfl) (by kernel_rfl) (fun _ _ _ h => h) (Or.inl ⟨by rfl, ?ya2⟩) hHeld ?ra2
        case ya2 => (intro w hSw; (try dsimp only at hSw); go_simp; try with_reducible rfl)
        try simp only [Act.put, List.setIfInBounds_toArray, List.set_cons_zero, List.set_cons_succ]
        refine wpAnyH_take (i := 2) (oi := { dst := some 90, op := Op.move (Operand.tmp 11), type := 3, pos := "law.go:93", after := #[], guard := none }) (v := ?va3) rfl (by kernel_rfl) (by kernel_rfl) (by kernel_rfl) (fun _ _ _ h => h) (Or.inl ⟨by rfl, ?ya3⟩) hHeld ?ra3
        case ya3 => (intro w hSw; (try dsimp only at hSw); go_simp; try with_reducible rfl)
        try simp only [Act.put, List.setIfInBounds_toArray, List.set_cons_zero, List.set_cons_succ]
        refine wpAnyH_take (i := 3) (oi := { dst := some 91, op := Op.indexAddr 22 (Operand.tmp 89) (Operand.tmp 90), type := 0, pos := "law.go:93", after := #[{ on := 1, ground := Ground.data }, { on := 2, ground := Ground.data }], guard := none }) (v := ?va4) rfl (by kernel_rfl) (by kernel_rfl) (by kernel_rfl) (fun _ _ _ h => h) (Or.inl ⟨by rfl, ?ya4⟩) hHeld ?ra4
        case ya4 => (intro w hSw; (try dsimp only at hSw); go_simp; try with_reducible rfl)
        try simp only [Act.put, List.setIfInBounds_toArray, List.set_cons_zero, List.set_cons_succ]
        refine wpAnyH_take (i := 4) (oi := { dst := some 92, op := Op.fieldAddr 31 (Operand.tmp 91) 1, type := 0, pos := "law.go:93", after := #[{ on := 3, ground := Ground.data }], guard := none }) (v := ?va5) rfl (by kernel_rfl) (by kernel_rfl) (by kernel_rfl) (fun _ _ _ h => h) (Or.inl ⟨by rfl, ?ya5⟩) hHeld ?ra5
        case ya5 => (intro w hSw; (try dsimp only at hSw); go_simp; try with_reducible rfl)
        try simp only [Act.put, List.setIfInBounds_toArray, List.set_cons_zero, List.set_cons_succ]
        refine wpAnyH_take (i := 5) (oi := { dst := some 93, op := Op.load 3 (Operand.tmp 92), type := 3, pos := "law.go:93", after := #[{ on := 4, ground := Ground.data }], guard := none }) (v := ?va6) rfl (by kernel_rfl) (by kernel_rfl) (by kernel_rfl) (fun _ _ _ h => h) (Or.inl ⟨by rfl, ?ya6⟩) hHeld ?ra6
        case ya6 => (intro w hSw; (try dsimp only at hSw); go_simp; try with_reducible rfl)
        try simp only [Act.put, List.setIfInBounds_toArray, List.set_cons_zero, List.set_cons_succ]
        refine wpAnyH_ready (rs := [6]) (by kernel_rfl) (by simp) ?_
        refine AllReadyH.cons (o := { dst := some 94, op := Op.call { callee := Callee.value (Operand.func 20), args := #[Operand.tmp 88, Operand.tmp 93], argTypes := #[25, 3] }, type := 44, pos := "law.go:93", after := #[{ on := 0, ground := Ground.data }, { on := 5, ground := Ground.data }], guard := none }) rfl (fun K hK => ?_) ?_
        · clear hHeld
          go_simp
          go_at_call 20
          refine (CRM.out _ TE1.out.rm.rn.ly).mono ?_
          rintro e w7 ⟨y7, sb7, d7, rfl, hl7, hs7, hb7⟩
          have U5 := Lib.hid (TE1.out.below hb7)
          have s7 := (U5.out.sto y7).1
          have HX1 : Hid (Rx W B7 B9 x y b P L g x5 sa5 c5 B15 (w7.setRow B15 (Rw_.C y7)) ∧ Rw_.Box (w7.setRow B15 (Rw_.C y7)) B15 y7 ∧ Lies (w7.setRow B15 (Rw_.C y7)) y7 P ∧ Ss_.Sl (w7.setRow B15 (Rw_.C y7)) sb7 L d7) := ⟨U5.out.set y7, (U5.out.sto y7).2, lies_row3 hl7 U5.out.b15, ss_row3 hs7 U5.out.b15⟩
          clear hl7 hs7 hb7
          refine hK.out _ _ ?_ (fun hHeld => ?_)
          · first | exact HLI3.out _ TE1.out | exact HLI3.out _ U5.out | exact HLI3.out _ HX1.out.1
          clear hK K
          try simp only [Act.put, List.setIfInBounds_toArray, List.set_cons_zero, List.set_cons_succ]
          refine wpAnyH_take (i := 7) (oi := { dst := some 87, op := Op.move (Operand.tmp 94), type := 44, pos := "law.go:93", after := #[{ on := 6, ground := Ground.data }], guard := none }) (v := ?va7) rfl (by kernel_rfl) (by kernel_rfl) (by kernel_rfl) (fun _ _ _ h => h) (Or.inl ⟨by rfl, ?ya7⟩) hHeld ?ra7
          case ya7 => (intro w hSw; (try dsimp only at hSw); go_simp; try with_reducible rfl)
          try simp only [Act.put, List.setIfInBounds_toArray, List.set_cons_zero, List.set_cons_succ]
          refine wpAnyH_take (i := 8) (oi := { dst := some 95, op := Op.extract (Operand.tmp 87) 0, type := 25, pos := "law.go:93", after := #[{ on := 7, ground := Ground.data }], guard := none }) (v := ?va8) rfl (by kernel_rfl) (by kernel_rfl) (by kernel_rfl) (fun _ _ _ h => h) (Or.inl ⟨by rfl, ?ya8⟩) hHeld ?ra8
          case ya8 => (intro w hSw; (try dsimp only at hSw); go_simp; try with_reducible rfl)
          try simp only [Act.put, List.setIfInBounds_toArray, List.set_cons_zero, List.set_cons_succ]
          refine wpAnyH_take (i := 9) (oi := { dst := some 96, op := Op.extract (Operand.tmp 87) 1, type := 35, pos := "law.go:93", after := #[{ on := 7, ground := Ground.data }, { on := 10, ground := Ground.gcOnly Departure.lateStores }], guard := none }) (v := ?va9) rfl (by kernel_rfl) (by kernel_rfl) (by kernel_rfl) (fun _ _ _ h => h) (Or.inl ⟨by rfl, ?ya9⟩) hHeld ?ra9
          case ya9 => (intro w hSw; (try dsimp only at hSw); go_simp; try with_reducible rfl)
          try simp only [Act.put, List.setIfInBounds_toArray, List.set_cons_zero, List.set_cons_succ]
          refine wpAnyH_ready (rs := [10]) (by kernel_rfl) (by simp) ?_
          refine AllReadyH.cons (o := { dst := none, op := Op.store 25 (Operand.tmp 15) (Operand.tmp 95), type := 0, pos := "law.go:93", after := #[{ on := 8, ground := Ground.data }, { on := 6, ground := Ground.chain }, { on := 0, ground := Ground.phase }, { on := 1, ground := Ground.phase }, { on := 2, ground := Ground.phase }, { on := 3, ground := Ground.phase }, { on := 4, ground := Ground.phase }, { on := 5, ground := Ground.phase }, { on := 6, ground := Ground.phase }, { on := 7, ground := Ground.phase }, { on := 8, ground := Ground.phase }, { on := 9, ground := Ground.textOnly Departure.lateStores }], guard := none }) rfl (fun K hK => ?_) ?_
          · clear hHeld
            go_simp
            refine hK.out _ _ ?_ (fun hHeld => ?_)
            · first | exact HLI3.out _ TE1.out | exact HLI3.out _ U5.out | exact HLI3.out _ HX1.out.1
            clear hK K
            try simp only [Act.put, List.setIfInBounds_toArray, List.set_cons_zero, List.set_cons_succ]
            refine wpAnyH_take (i := 11) (oi := { dst := some 17, op := Op.assign (Operand.tmp 96), type := 35, pos := "law.go:93", after := #[{ on := 9, ground := Ground.data }, { on := 10, ground := Ground.chain }, { on := 0, ground := Ground.phase }, { on := 1, ground := Ground.phase }, { on := 2, ground := Ground.phase }, { on := 3, ground := Ground.phase }, { on := 4, ground := Ground.phase }, { on := 5, ground := Ground.phase }, { on := 6, ground := Ground.phase }, { on := 7, ground := Ground.phase }, { on := 8, ground := Ground.phase }, { on := 9, ground := Ground.phase }, { on := 10, ground := Ground.phase }], guard := none }) (v := ?va10) rfl (by kernel_rfl) (by kernel_rfl) (by kernel_rfl) (fun _ _ _ h => h) (Or.inl ⟨by rfl, ?ya10⟩) hHeld ?ra10
            case ya10 => (intro w hSw; (try dsimp only at hSw); go_simp; try with_reducible rfl)
            try simp only [Act.put, List.setIfInBounds_toArray, List.set_cons_zero, List.set_cons_succ]
            refine wpAnyH_done (by kernel_rfl) ?_ _
            generalize w7.setRow B15 (Rw_.C y7) = w8 at *
            have hFz : Fz W B7 B9 x y b P L g x5 sa5 c5 B15 y7 sb7 d7 _ := HX1.out
            have m1 := hFz.1.rm.bg.loadF
            have m2 := hFz.2.1.loadF
            have F0 := Lib.hid hFz
            clear hFz
            go_wp2_with (first
              | (go_at_call 14; refine (CSM.out x5 y7 _ F0.out.1.rm.lg F0.out.2.2.1).mono ?_; rintro e u1 ⟨rfl, h⟩; have F1 := Lib.hid (fz_below F0.out h); clear h)
              | (go_at_call 23; refine (CSD.out _ _ _ _ u1 F1.out.1.rm.sg F1.out.2.2.2).mono ?_; rintro e u2 ⟨rfl, h⟩; have F2 := Lib.hid (fz_below F1.out h); have m3 := F2.out.1.rm.bg.loadF; clear h)
              | (go_at_call 15; refine (CCK.out x5 u2 F2.out.1.rm.lg).mono ?_; rintro e u3 ⟨rfl, h⟩; have F3 := Lib.hid (fz_below F2.out h); have m4 := F3.out.1.rm.bg.loadF; obtain ⟨n1, n2, n3, n4⟩ := rn_next F3.out; have N4 := Lib.hid n4; clear h n4))
            go_roundw
            case rel => exact ⟨i + 1, P, x5, y7, by go_num, HLT.out, HOKP, N4⟩
            case measure => have := HLT.out; simp [intOf]; omega
          exact AllReadyH.nil
        exact AllReadyH.nil
      have hd1 : (o.k == 1) = false := by rw [beq_eq_false_iff_ne]; exact h1
      by_cases h2 : o.k = 2
      · have hd2 : (o.k == 2) = true := by rw [beq_iff_eq]; exact h2
        have hq := CR2.out h1 h2
        injection hq with q1 q2
        injection q2 with q2 q3
        rw [← q1, ← q3] at CRF
        clear q1 q3
        subst q2
        have l9 := TE0.out.rm.rn.b9.loadF
        go_wp2_with fail
        generalize wc.heap.size = B15 at *
        refine (CRF.out w15 TE0.out.rm.rn.ly).mono ?_
        rintro e w7 ⟨y7, sb7, d7, rfl, hl7, hs7, hb7⟩
        have U5 := Lib.hid (TE0.out.below hb7)
        have s7 := (U5.out.sto y7).1
        have HX1 : Hid (Rx W B7 B9 x y b P L g x5 sa5 c5 B15 (w7.setRow B15 (Rw_.C y7)) ∧ Rw_.Box (w7.setRow B15 (Rw_.C y7)) B15 y7 ∧ Lies (w7.setRow B15 (Rw_.C y7)) y7 P ∧ Ss_.Sl (w7.setRow B15 (Rw_.C y7)) sb7 L d7) := ⟨U5.out.set y7, (U5.out.sto y7).2, lies_row3 hl7 U5.out.b15, ss_row3 hs7 U5.out.b15⟩
        clear hl7 hs7 hb7
        generalize w7.setRow B15 (Rw_.C y7) = w8 at *
        have hFz : Fz W B7 B9 x y b P L g x5 sa5 c5 B15 y7 sb7 d7 _ := HX1.out
        have m1 := hFz.1.rm.bg.loadF
        have m2 := hFz.2.1.loadF
        have F0 := Lib.hid hFz
        clear hFz
        go_wp2_with (first
          | (go_at_call 14; refine (CSM.out x5 y7 _ F0.out.1.rm.lg F0.out.2.2.1).mono ?_; rintro e u1 ⟨rfl, h⟩; have F1 := Lib.hid (fz_below F0.out h); clear h)
          | (go_at_call 23; refine (CSD.out _ _ _ _ u1 F1.out.1.rm.sg F1.out.2.2.2).mono ?_; rintro e u2 ⟨rfl, h⟩; have F2 := Lib.hid (fz_below F1.out h); have m3 := F2.out.1.rm.bg.loadF; clear h)
          | (go_at_call 15; refine (CCK.out x5 u2 F2.out.1.rm.lg).mono ?_; rintro e u3 ⟨rfl, h⟩; have F3 := Lib.hid (fz_below F2.out h); have m4 := F3.out.1.rm.bg.loadF; obtain ⟨n1, n2, n3, n4⟩ := rn_next F3.out; have N4 := Lib.hid n4; clear h n4))
        go_roundw
        case rel => exact ⟨i + 1, P, x5, y7, by go_num, HLT.out, HOKP, N4⟩
        case measure => have := HLT.out; simp [intOf]; omega
      · have hd2 : (o.k == 2) = false := by rw [beq_eq_false_iff_ne]; exact h2
        have hq := CR3.out h1 h2
        rw [← hq] at CRP
        dsimp only at CRP
        clear hq
        go_upto_region 13 with fail
        generalize wc.heap.size = B15 at *
        have HLI2 : Hid (∀ w', Rx W B7 B9 x y b P L g x5 sa5 c5 B15 w' → (Rw_.LoadF ⟨B9, 0, none⟩).run Try.prog w' = .ok (Rw_.v y) w' ∧ w'.cell? ⟨bb, off + i * 3 + 1, none⟩ = some (.int .i64 o.q) ∧ w'.cell? ⟨bb, off + i * 3 + 2, none⟩ = some (.string o.d) ∧ Rx W B7 B9 x y b P L g x5 sa5 c5 B15 w') := fun w' h => ⟨h.rm.rn.b9.loadF, (HK.out w' h.rm.rn.bel).2.1, (HK.out w' h.rm.rn.bel).2.2, h⟩
        refine wp_region_held_drew (S := (fun w' => (Rw_.LoadF ⟨B9, 0, none⟩).run Try.prog w' = .ok (Rw_.v y) w' ∧ w'.cell? ⟨bb, off + i * 3 + 1, none⟩ = some (.int .i64 o.q) ∧ w'.cell? ⟨bb, off + i * 3 + 2, none⟩ = some (.string o.d) ∧ Rx W B7 B9 x y b P L g x5 sa5 c5 B15 w')) (by kernel_rfl) ?_ (fun hHeld => ?_)
        · exact HLI2.out _ TE1.out
        refine wpAnyH_take (i := 0) (oi := { dst := some 70, op := Op.load 25 (Operand.tmp 9), type := 25, pos := "law.go:97", after := #[], guard := none }) (v := ?vb1) rfl (by kernel_rfl) (by kernel_rfl) (by kernel_rfl) (fun _ _ _ h => h) (Or.inl ⟨by rfl, ?yb1⟩) hHeld ?rb1
        case yb1 => (intro w hSw; (try dsimp only at hSw); go_simp; try with_reducible rfl)
        try simp only [Act.put, List.setIfInBounds_toArray, List.set_cons_zero, List.set_cons_succ]
        refine wpAnyH_take (i := 1) (oi := { dst := some 71, op := Op.move (Operand.tmp 2), type := 22, pos := "law.go:97", after := #[], guard := none }) (v := ?vb2) rfl (by kernel_rfl) (by kernel_rfl) (by kernel_rfl) (fun _ _ _ h => h) (Or.inl ⟨by rfl, ?yb2⟩) hHeld ?rb2
        case yb2 => (intro w hSw; (try dsimp only at hSw); go_simp; try with_reducible rfl)
        try simp only [Act.put, List.setIfInBounds_toArray, List.set_cons_zero, List.set_cons_succ]
        refine wpAnyH_take (i := 2) (oi := { dst := some 72, op := Op.move (Operand.tmp 11), type := 3, pos := "law.go:97", after := #[], guard := none }) (v := ?vb3) rfl (by kernel_rfl) (by kernel_rfl) (by kernel_rfl) (fun _ _ _ h => h) (Or.inl ⟨by rfl, ?yb3⟩) hHeld ?rb3
        case yb3 => (intro w hSw; (try dsimp only at hSw); go_simp; try with_reducible rfl)
        try simp only [Act.put, List.setIfInBounds_toArray, List.set_cons_zero, List.set_cons_succ]
        refine wpAnyH_take (i := 3) (oi := { dst := some 73, op := Op.indexAddr 22 (Operand.tmp 71) (Operand.tmp 72), type := 0, pos := "law.go:97", after := #[{ on := 1, ground := Ground.data }, { on := 2, ground := Ground.data }], guard := none }) (v := ?vb4) rfl (by kernel_rfl) (by kernel_rfl) (by kernel_rfl) (fun _ _ _ h => h) (Or.inl ⟨by rfl, ?yb4⟩) hHeld ?rb4
        case yb4 => (intro w hSw; (try dsimp only at hSw); go_simp; try with_reducible rfl)
        try simp only [Act.put, List.setIfInBounds_toArray, List.set_cons_zero, List.set_cons_succ]
        refine wpAnyH_take (i := 4) (oi := { dst := some 74, op := Op.fieldAddr 31 (Operand.tmp 73) 1, type := 0, pos := "law.go:97", after := #[{ on := 3, ground := Ground.data }], guard := none }) (v := ?vb5) rfl (by kernel_rfl) (by kernel_rfl) (by kernel_rfl) (fun _ _ _ h => h) (Or.inl ⟨by rfl, ?yb5⟩) hHeld ?rb5
        case yb5 => (intro w hSw; (try dsimp only at hSw); go_simp; try with_reducible rfl)
        try simp only [Act.put, List.setIfInBounds_toArray, List.set_cons_zero, List.set_cons_succ]
        refine wpAnyH_take (i := 5) (oi := { dst := some 75, op := Op.load 3 (Operand.tmp 74), type := 3, pos := "law.go:97", after := #[{ on := 4, ground := Ground.data }], guard := none }) (v := ?vb6) rfl (by kernel_rfl) (by kernel_rfl) (by kernel_rfl) (fun _ _ _ h => h) (Or.inl ⟨by rfl, ?yb6⟩) hHeld ?rb6
        case yb6 => (intro w hSw; (try dsimp only at hSw); go_simp; try with_reducible rfl)
        try simp only [Act.put, List.setIfInBounds_toArray, List.set_cons_zero, List.set_cons_succ]
        refine wpAnyH_take (i := 6) (oi := { dst := some 76, op := Op.move (Operand.tmp 2), type := 22, pos := "law.go:97", after := #[], guard := none }) (v := ?vb7) rfl (by kernel_rfl) (by kernel_rfl) (by kernel_rfl) (fun _ _ _ h => h) (Or.inl ⟨by rfl, ?yb7⟩) hHeld ?rb7
        case yb7 => (intro w hSw; (try dsimp only at hSw); go_simp; try with_reducible rfl)
        try simp only [Act.put, List.setIfInBounds_toArray, List.set_cons_zero, List.set_cons_succ]
        refine wpAnyH_take (i := 7) (oi := { dst := some 77, op := Op.move (Operand.tmp 11), type := 3, pos := "law.go:97", after := #[], guard := none }) (v := ?vb8) rfl (by kernel_rfl) (by kernel_rfl) (by kernel_rfl) (fun _ _ _ h => h) (Or.inl ⟨by rfl, ?yb8⟩) hHeld ?rb8
        case yb8 => (intro w hSw; (try dsimp only at hSw); go_simp; try with_reducible rfl)
        try simp only [Act.put, List.setIfInBounds_toArray, List.set_cons_zero, List.set_cons_succ]
        refine wpAnyH_take (i := 8) (oi := { dst := some 78, op := Op.indexAddr 22 (Operand.tmp 76) (Operand.tmp 77), type := 0, pos := "law.go:97", after := #[{ on := 6, ground := Ground.data }, { on := 7, ground := Ground.data }], guard := none }) (v := ?vb9) rfl (by kernel_rfl) (by kernel_rfl) (by kernel_rfl) (fun _ _ _ h => h) (Or.inl ⟨by rfl, ?yb9⟩) hHeld ?rb9
        case yb9 => (intro w hSw; (try dsimp only at hSw); go_simp; try with_reducible rfl)
        try simp only [Act.put, List.setIfInBounds_toArray, List.set_cons_zero, List.set_cons_succ]
        refine wpAnyH_take (i := 9) (oi := { dst := some 79, op := Op.fieldAddr 31 (Operand.tmp 78) 2, type := 0, pos := "law.go:97", after := #[{ on := 8, ground := Ground.data }], guard := none }) (v := ?vb10) rfl (by kernel_rfl) (by kernel_rfl) (by kernel_rfl) (fun _ _ _ h => h) (Or.inl ⟨by rfl, ?yb10⟩) hHeld ?rb10
        case yb10 => (intro w hSw; (try dsimp only at hSw); go_simp; try with_reducible rfl)
        try simp only [Act.put, List.setIfInBounds_toArray, List.set_cons_zero, List.set_cons_succ]
        refine wpAnyH_take (i := 10) (oi := { dst := some 80, op := Op.load 9 (Operand.tmp 79), type := 9, pos := "law.go:97", after := #[{ on := 9, ground := Ground.data }], guard := none }) (v := ?vb11) rfl (by kernel_rfl) (by kernel_rfl) (by kernel_rfl) (fun _ _ _ h => h) (Or.inl ⟨by rfl, ?yb11⟩) hHeld ?rb11
        case yb11 => (intro w hSw; (try dsimp only at hSw); go_simp; try with_reducible rfl)
        try simp only [Act.put, List.setIfInBounds_toArray, List.set_cons_zero, List.set_cons_succ]
        refine wpAnyH_ready (rs := [11]) (by kernel_rfl) (by simp) ?_
        refine AllReadyH.cons (o := { dst := some 81, op := Op.call { callee := Callee.value (Operand.func 18), args := #[Operand.tmp 70, Operand.tmp 75, Operand.tmp 80], argTypes := #[25, 3, 9] }, type := 36, pos := "law.go:97", after := #[{ on := 0, ground := Ground.data }, { on := 5, ground := Ground.data }, { on := 10, ground := Ground.data }], guard := none }) rfl (fun K hK => ?_) ?_
        · clear hHeld
          go_simp
          go_at_call 18
          refine (CRP.out _ TE1.out.rm.rn.ly).mono ?_
          rintro e w7 ⟨y7, sb7, d7, rfl, hl7, hs7, hb7⟩
          have U5 := Lib.hid (TE1.out.below hb7)
          have s7 := (U5.out.sto y7).1
          have HX1 : Hid (Rx W B7 B9 x y b P L g x5 sa5 c5 B15 (w7.setRow B15 (Rw_.C y7)) ∧ Rw_.Box (w7.setRow B15 (Rw_.C y7)) B15 y7 ∧ Lies (w7.setRow B15 (Rw_.C y7)) y7 P ∧ Ss_.Sl (w7.setRow B15 (Rw_.C y7)) sb7 L d7) := ⟨U5.out.set y7, (U5.out.sto y7).2, lies_row3 hl7 U5.out.b15, ss_row3 hs7 U5.out.b15⟩
          clear hl7 hs7 hb7
          refine hK.out _ _ ?_ (fun hHeld => ?_)
          · first | exact HLI2.out _ TE1.out | exact HLI2.out _ U5.out | exact HLI2.out _ HX1.out.1
          clear hK K
          try simp only [Act.put, List.setIfInBounds_toArray, List.set_cons_zero, List.set_cons_succ]
          refine wpAnyH_take (i := 12) (oi := { dst := some 69, op := Op.move (Operand.tmp 81), type := 36, pos := "law.go:97", after := #[{ on := 11, ground := Ground.data }], guard := none }) (v := ?vb12) rfl (by kernel_rfl) (by kernel_rfl) (by kernel_rfl) (fun _ _ _ h => h) (Or.inl ⟨by rfl, ?yb12⟩) hHeld ?rb12
          case yb12 => (intro w hSw; (try dsimp only at hSw); go_simp; try with_reducible rfl)
          try simp only [Act.put, List.setIfInBounds_toArray, List.set_cons_zero, List.set_cons_succ]
          refine wpAnyH_take (i := 13) (oi := { dst := some 82, op := Op.extract (Operand.tmp 69) 0, type := 25, pos := "law.go:97", after := #[{ on := 12, ground := Ground.data }], guard := none }) (v := ?vb13) rfl (by kernel_rfl) (by kernel_rfl) (by kernel_rfl) (fun _ _ _ h => h) (Or.inl ⟨by rfl, ?yb13⟩) hHeld ?rb13
          case yb13 => (intro w hSw; (try dsimp only at hSw); go_simp; try with_reducible rfl)
          try simp only [Act.put, List.setIfInBounds_toArray, List.set_cons_zero, List.set_cons_succ]
          refine wpAnyH_take (i := 14) (oi := { dst := some 83, op := Op.extract (Operand.tmp 69) 1, type := 3, pos := "law.go:97", after := #[{ on := 12, ground := Ground.data }, { on := 16, ground := Ground.gcOnly Departure.lateStores }], guard := none }) (v := ?vb14) rfl (by kernel_rfl) (by kernel_rfl) (by kernel_rfl) (fun _ _ _ h => h) (Or.inl ⟨by rfl, ?yb14⟩) hHeld ?rb14
          case yb14 => (intro w hSw; (try dsimp only at hSw); go_simp; try with_reducible rfl)
          try simp only [Act.put, List.setIfInBounds_toArray, List.set_cons_zero, List.set_cons_succ]
          refine wpAnyH_take (i := 15) (oi := { dst := some 84, op := Op.extract (Operand.tmp 69) 2, type := 35, pos := "law.go:97", after := #[{ on := 12, ground := Ground.data }, { on := 17, ground := Ground.gcOnly Departure.lateStores }], guard := none }) (v := ?vb15) rfl (by kernel_rfl) (by kernel_rfl) (by kernel_rfl) (fun _ _ _ h => h) (Or.inl ⟨by rfl, ?yb15⟩) hHeld ?rb15
          case yb15 => (intro w hSw; (try dsimp only at hSw); go_simp; try with_reducible rfl)
          try simp only [Act.put, List.setIfInBounds_toArray, List.set_cons_zero, List.set_cons_succ]
          refine wpAnyH_ready (rs := [16]) (by kernel_rfl) (by simp) ?_
          refine AllReadyH.cons (o := { dst := none, op := Op.store 25 (Operand.tmp 15) (Operand.tmp 82), type := 0, pos := "law.go:97", after := #[{ on := 13, ground := Ground.data }, { on := 11, ground := Ground.chain }, { on := 0, ground := Ground.phase }, { on := 1, ground := Ground.phase }, { on := 2, ground := Ground.phase }, { on := 3, ground := Ground.phase }, { on := 4, ground := Ground.phase }, { on := 5, ground := Ground.phase }, { on := 6, ground := Ground.phase }, { on := 7, ground := Ground.phase }, { on := 8, ground := Ground.phase }, { on := 9, ground := Ground.phase }, { on := 10, ground := Ground.phase }, { on := 11, ground := Ground.phase }, { on := 12, ground := Ground.phase }, { on := 13, ground := Ground.phase }, { on := 14, ground := Ground.textOnly Departure.lateStores }, { on := 15, ground := Ground.textOnly Departure.lateStores }], guard := none }) rfl (fun K hK => ?_) ?_
          · clear hHeld
            go_simp
            refine hK.out _ _ ?_ (fun hHeld => ?_)
            · first | exact HLI2.out _ TE1.out | exact HLI2.out _ U5.out | exact HLI2.out _ HX1.out.1
            clear hK K
            try simp only [Act.put, List.setIfInBounds_toArray, List.set_cons_zero, List.set_cons_succ]
            refine wpAnyH_take (i := 17) (oi := { dst := some 16, op := Op.assign (Operand.tmp 83), type := 3, pos := "law.go:97", after := #[{ on := 14, ground := Ground.data }, { on := 16, ground := Ground.chain }, { on := 0, ground := Ground.phase }, { on := 1, ground := Ground.phase }, { on := 2, ground := Ground.phase }, { on := 3, ground := Ground.phase }, { on := 4, ground := Ground.phase }, { on := 5, ground := Ground.phase }, { on := 6, ground := Ground.phase }, { on := 7, ground := Ground.phase }, { on := 8, ground := Ground.phase }, { on := 9, ground := Ground.phase }, { on := 10, ground := Ground.phase }, { on := 11, ground := Ground.phase }, { on := 12, ground := Ground.phase }, { on := 13, ground := Ground.phase }, { on := 14, ground := Ground.phase }, { on := 15, ground := Ground.textOnly Departure.lateStores }, { on := 16, ground := Ground.phase }], guard := none }) (v := ?vb16) rfl (by kernel_rfl) (by kernel_rfl) (by kernel_rfl) (fun _ _ _ h => h) (Or.inl ⟨by rfl, ?yb16⟩) hHeld ?rb16
            case yb16 => (intro w hSw; (try dsimp only at hSw); go_simp; try with_reducible rfl)
            try simp only [Act.put, List.setIfInBounds_toArray, List.set_cons_zero, List.set_cons_succ]
            refine wpAnyH_take (i := 18) (oi := { dst := some 17, op := Op.assign (Operand.tmp 84), type := 35, pos := "law.go:97", after := #[{ on := 15, ground := Ground.data }, { on := 17, ground := Ground.chain }, { on := 0, ground := Ground.phase }, { on := 1, ground := Ground.phase }, { on := 2, ground := Ground.phase }, { on := 3, ground := Ground.phase }, { on := 4, ground := Ground.phase }, { on := 5, ground := Ground.phase }, { on := 6, ground := Ground.phase }, { on := 7, ground := Ground.phase }, { on := 8, ground := Ground.phase }, { on := 9, ground := Ground.phase }, { on := 10, ground := Ground.phase }, { on := 11, ground := Ground.phase }, { on := 12, ground := Ground.phase }, { on := 13, ground := Ground.phase }, { on := 14, ground := Ground.phase }, { on := 15, ground := Ground.phase }, { on := 16, ground := Ground.phase }, { on := 17, ground := Ground.phase }], guard := none }) (v := ?vb17) rfl (by kernel_rfl) (by kernel_rfl) (by kernel_rfl) (fun _ _ _ h => h) (Or.inl ⟨by rfl, ?yb17⟩) hHeld ?rb17
            case yb17 => (intro w hSw; (try dsimp only at hSw); go_simp; try with_reducible rfl)
            try simp only [Act.put, List.setIfInBounds_toArray, List.set_cons_zero, List.set_cons_succ]
            refine wpAnyH_done (by kernel_rfl) ?_ _
            generalize w7.setRow B15 (Rw_.C y7) = w8 at *
            have hFz : Fz W B7 B9 x y b P L g x5 sa5 c5 B15 y7 sb7 d7 _ := HX1.out
            have m1 := hFz.1.rm.bg.loadF
            have m2 := hFz.2.1.loadF
            have F0 := Lib.hid hFz
            clear hFz
            go_wp2_with (first
              | (go_at_call 14; refine (CSM.out x5 y7 _ F0.out.1.rm.lg F0.out.2.2.1).mono ?_; rintro e u1 ⟨rfl, h⟩; have F1 := Lib.hid (fz_below F0.out h); clear h)
              | (go_at_call 23; refine (CSD.out _ _ _ _ u1 F1.out.1.rm.sg F1.out.2.2.2).mono ?_; rintro e u2 ⟨rfl, h⟩; have F2 := Lib.hid (fz_below F1.out h); have m3 := F2.out.1.rm.bg.loadF; clear h)
              | (go_at_call 15; refine (CCK.out x5 u2 F2.out.1.rm.lg).mono ?_; rintro e u3 ⟨rfl, h⟩; have F3 := Lib.hid (fz_below F2.out h); have m4 := F3.out.1.rm.bg.loadF; obtain ⟨n1, n2, n3, n4⟩ := rn_next F3.out; have N4 := Lib.hid n4; clear h n4))
            go_roundw
            case rel => exact ⟨i + 1, P, x5, y7, by go_num, HLT.out, HOKP, N4⟩
            case measure => have := HLT.out; simp [intOf]; omega
          exact AllReadyH.nil
        exact AllReadyH.nil

theorem reorderRuns_walk0 {W : World} (s : Int) (_ : (Lit.int .i64 s).wf = true) (z : Int) (_ : (Lit.int .i64 z).wf = true) (l : List Oq) (sa : Option Addr) (c : Nat) (hS : Oq_.Sl W sa l c) (_ : l.length ≤ maxLen) :
    Calls Try.prog 6 #[.int .i64 s, .int .i64 z, .slice sa l.length c] W fun e w' => e = .returned (.bool true) ∧ Below W.heap.size W w' := reorderRuns_walk1 s z l sa c W hS
end Go.Proofs.Yteffmfloopkmoaa
