/-
  THE WALK of ReorderReleases.
-/
import Derived.Test.YteffmfloopkmoaaRoRuns
import Derived.Test.YteffmfloopkmoaaRoNum
import Derived.Test.YteffmfloopkmoaaObv
import Derived.Test.YteffmfloopkmoaaQuietOf
import Derived.Test.YteffmfloopkmoaaLexFast
namespace Go.Proofs.Yteffmfloopkmoaa
open Go.RowKit Go.Ro Go.Sq Go.Wr
attribute [local go_sem ↓ high] Rw_.loadF Rw_.storeF Rw_.v_cells Rw_.v_match
attribute [local go_sem] Rw_.C0 Rw_.C1 Rw_.C2 Rw_.loadF_new Rw_.storeF_zero Oper.semAt_some

/-- The buffer in its cell. -/
structure R1 (W : World) (B7 : Nat) (x : Rw) (b : Bf) (wi : World) : Prop where
  b7 : Rw_.Box wi B7 x
  lx : Lies wi x b
  bel : Below W.heap.size W wi
  n7 : W.heap.size ≤ B7
theorem R1.below {W : World} {B7 : Nat} {x : Rw} {b : Bf} {wi wj : World} (h : R1 W B7 x b wi) (hb : Below wi.heap.size wi wj) : R1 W B7 x b wj :=
  ⟨h.b7.below hb h.b7.lt, h.lx.below hb, h.bel.trans (hb.mono h.bel.size), h.n7⟩

/-- The buffer and the call in their cells. -/
structure R2 (W : World) (B7 : Nat) (x : Rw) (b : Bf) (o : Oq) (g : Nat) (wi : World) : Prop where
  r1 : R1 W B7 x b wi
  og : Oq_.Box wi g o
  gW : W.heap.size ≤ g
  g7 : B7 ≠ g
  lo : ∀ b' off, x.sa = some ⟨b', off, none⟩ → 0 < b.hs.length → b' < g

/-- The two octets of a number. -/
def oct2 (u v : Nat) : ByteArray := ⟨[UInt8.ofNat u, UInt8.ofNat v].toArray⟩
theorem oct2_nu (u v : Nat) (hu : u < 256) (hv : v < 256) : Nu ⟨(u : Int) * 256 + v, oct2 u v⟩ := by
  refine ⟨rfl, fun h0 h1 => ?_⟩
  show (((UInt8.ofNat u).toNat : Int) * 256 + ((UInt8.ofNat v).toNat : Int)) = _
  rw [UInt8.toNat_ofNat', UInt8.toNat_ofNat', Nat.mod_eq_of_lt hu, Nat.mod_eq_of_lt hv]
theorem oct2_conv (w : World) (u v : Nat) (hu : u < 256) (hv : v < 256) :
    (convert 34 9 (.slice (some ⟨w.heap.size, 0, none⟩) 2 2)).run Try.prog (w.alloc (.cells #[.int .u8 u, .int .u8 v] 5)) = .ok (.string (oct2 u v)) (w.alloc (.cells #[.int .u8 u, .int .u8 v] 5)) := by
  have h := World.ownsRow_lit (e := 5) (size := 1) (base := 0) w #[.int .u8 u, .int .u8 v] 2 (Nat.zero_le _) (by decide) rfl
  have e : obv [UInt8.ofNat u, UInt8.ofNat v] = [.int .u8 u, .int .u8 v] := by
    simp [obv, UInt8.toNat_ofNat', Nat.mod_eq_of_lt hu, Nat.mod_eq_of_lt hv]
  exact obv_conv (l := [UInt8.ofNat u, UInt8.ofNat v]) (g := w.heap.size) (cap := 2) (base := 0) (by rw [e]; exact h)
/-- What the walk wants of a number's octets. -/
theorem oct_facts (q : Int) (h : 0 ≤ q ∧ q < 4096) : ∃ u v : Nat, q.tdiv 256 = u ∧ q.tmod 256 = v ∧ IntKind.u8.wrap (u : Int) = u ∧ IntKind.u8.wrap (v : Int) = v ∧ wrap64 (u : Int) = u ∧ IntKind.i64.wrap (u : Int) = u ∧ Nu ⟨q, oct2 u v⟩ ∧
    (∀ w : World, (convert 34 9 (.slice (some ⟨w.heap.size, 0, none⟩) 2 2)).run Try.prog (w.alloc (.cells #[.int .u8 u, .int .u8 v] 5)) = .ok (.string (oct2 u v)) (w.alloc (.cells #[.int .u8 u, .int .u8 v] 5))) := by
  obtain ⟨u, v, hqu, hqv, hu, hv, hquv⟩ : ∃ u v : Nat, q.tdiv 256 = u ∧ q.tmod 256 = v ∧ u < 16 ∧ v < 256 ∧ q = (u : Int) * 256 + v := by
    refine ⟨(q / 256).toNat, (q % 256).toNat, ?_, ?_, by omega, by omega, by omega⟩
    · rw [Int.tdiv_eq_ediv_of_nonneg (by omega)]; omega
    · rw [Int.tmod_eq_emod_of_nonneg (by omega)]; omega
  have hu2 : u < 256 := by omega
  refine ⟨u, v, hqu, hqv, ?_, ?_, IntWalk.wrap64_in _ (by omega), IntWalk.i64_in _ (by omega), by rw [hquv]; exact oct2_nu u v hu2 hv, fun w => oct2_conv w u v hu2 hv⟩
  · rw [IntKind.wrap_u8]; omega
  · rw [IntKind.wrap_u8]; omega
theorem pl_stp {b : Bf} (hb : Ok b) (o : Oq) (hq : 0 ≤ o.q ∧ o.q < 4096) (hD : dist b.st o.q ≤ 1000) : ∃ R, Stp b o.q o.d (pl b o) R := by
  unfold pl
  split
  · exact move_stp hb o.q o.d hq hD
  · split
    · exact flush_stp hb o.q o.d
    · exact put_stp hb hq hD
theorem R2.setd {W : World} {B7 : Nat} {x : Rw} {b : Bf} {k q : Int} {s d : ByteArray} {g : Nat} {wi wj : World} (h : R2 W B7 x b ⟨k, q, s⟩ g wi) (hb : Below wi.heap.size wi wj) : R2 W B7 x b ⟨k, q, d⟩ g (wj.setCell ⟨g, 2, none⟩ (.string d)) := by
  have hlt : g < wj.heap.size := Nat.lt_of_lt_of_le h.og.lt hb.size
  have og2 := h.og.below hb h.og.lt
  have r2 := h.r1.below hb
  refine ⟨⟨r2.b7.other h.g7 _, ?_, r2.bel.setCell h.gW _, r2.n7⟩, ?_, h.gW, h.g7, h.lo⟩
  · refine ⟨r2.lx.st, r2.lx.sz, r2.lx.n, ⟨fun i hi => ?_, r2.lx.sl.le, r2.lx.sl.nil⟩⟩
    obtain ⟨b', off', e, hl, k0, k1⟩ := r2.lx.sl.lies i hi
    have hne : g ≠ b' := fun e2 => by
      have := h.lo b' off' e (Nat.lt_of_le_of_lt (Nat.zero_le _) hi)
      omega
    exact ⟨b', off', e, by simpa [World.setCell] using hl, (World.cell?_setCell_other _ _ _ _ (fun e2 => hne (congrArg Addr.block e2))).trans k0, (World.cell?_setCell_other _ _ _ _ (fun e2 => hne (congrArg Addr.block e2))).trans k1⟩
  · show (wj.setCell _ _).heap[g]? = _
    unfold Oq_.Box at og2
    simp [World.setCell, Array.getElem?_modify, og2]

/-- Behind a call: the old buffer, the new one, what was handed out. -/
structure T1 (W : World) (B7 g : Nat) (x x5 : Rw) (P : Bf) (L : List ByteArray) (sa : Option Addr) (c : Nat) (w : World) : Prop where
  b7 : Rw_.Box w B7 x
  bg : Rw_.Box w g x5
  lg : Lies w x5 P
  sg : Ss_.Sl w sa L c
  bel : Below W.heap.size W w
  n7 : W.heap.size ≤ B7
theorem T1.keep {W : World} {B7 g : Nat} {x x5 : Rw} {P : Bf} {L : List ByteArray} {sa : Option Addr} {c : Nat} (w w' : World) (h : T1 W B7 g x x5 P L sa c w) (hb : Below w.heap.size w w') : T1 W B7 g x x5 P L sa c w' :=
  ⟨h.b7.below hb h.b7.lt, h.bg.below hb h.bg.lt, h.lg.below hb, h.sg.below hb, h.bel.trans (hb.mono h.bel.size), h.n7⟩
theorem T1.next {W : World} {B7 g : Nat} {x x5 : Rw} {P : Bf} {L : List ByteArray} {sa : Option Addr} {c : Nat} {w : World} (h : T1 W B7 g x x5 P L sa c w) :
    (Rw_.StoreF ⟨B7, 0, none⟩ (Rw_.v x5)).run Try.prog w = .ok () (w.setRow B7 (Rw_.C x5)) ∧ R1 W B7 x5 P (w.setRow B7 (Rw_.C x5)) :=
  ⟨h.b7.storeF x5, h.b7.setRow x5, lies_row3 h.lg ⟨x, h.b7⟩, below_row h.bel h.n7 _, h.n7⟩
theorem in_bounds {inn K I2 : Int} {i : Nat} (h0 : 0 ≤ inn) (h1 : inn ≤ i) (h : I2 = inn + (if K = 0 then 0 else 1)) : 0 ≤ I2 ∧ I2 ≤ ((i + 1 : Nat) : Int) := by
  split at h <;> omega
theorem fin_cnt {inn o K I2 : Int} {r n p q : Nat} (h : I2 = inn + (if K = 0 then 0 else 1)) (hi : inn = o + q) (hc : (r : Int) + p = q + (if K = 0 then 0 else 1)) (hr : r = n) : I2 = o + n + p := by
  split at h <;> split at hc <;> omega
theorem out_wrap {o : Int} {k : Nat} (h0 : -64 ≤ o) (h1 : o ≤ 60) (hk : k ≤ 1000) : wrap64 (o + k + 1) = o + k + 1 ∧ IntKind.i64.wrap (o + k + 1) = o + k + 1 := ⟨IntWalk.wrap64_in _ (by omega), IntWalk.i64_in _ (by omega)⟩
theorem nu_wrap {X : Hd} (h : Nu X) (h0 : 0 < X.d.size) (h1 : 1 < X.d.size) : wrap64 (wrap64 (wrap64 ((X.d[0]'h0).toNat : Int) * 256) + wrap64 ((X.d[1]'h1).toNat : Int)) = X.q := by
  have e := h.val h0 h1
  have b0 : (X.d[0]'h0).toNat < 256 := UInt8.toNat_lt _
  have b1 : (X.d[1]'h1).toNat < 256 := UInt8.toNat_lt _
  generalize (X.d[0]'h0).toNat = a0 at *
  generalize (X.d[1]'h1).toNat = a1 at *
  rw [IntWalk.wrap64_in (a0 : Int) (by omega), IntWalk.wrap64_in ((a0 : Int) * 256) (by omega), IntWalk.wrap64_in (a1 : Int) (by omega), IntWalk.wrap64_in _ (by omega)]
  exact e
/-- And the packet's cell. -/
def S21P (W : World) (B7 g : Nat) (x x5 : Rw) (P : Bf) (L : List ByteArray) (bk ok c k : Nat) (d : ByteArray) (w : World) : Prop := T1 W B7 g x x5 P L (some ⟨bk, ok, none⟩) c w ∧ w.cell? ⟨bk, ok + k, none⟩ = some (.string d)
/-- The last distance lies ahead of what comes. -/
def La (f : Int) (P : Bf) (R : List Hd) (k : Nat) (la : Int) : Prop := la < dist f P.st ∧ ∀ j (h : j < R.length), k ≤ j → la < dist f R[j].q
theorem la_step {f : Int} {P : Bf} {R : List Hd} (ha : Asc f R) (hl : ∀ x ∈ R, dist f x.q < dist f P.st) {k : Nat} (hk : k < R.length) : La f P R (k + 1) (dist f R[k].q) :=
  ⟨hl _ (List.getElem_mem hk), fun j h hj => List.pairwise_iff_getElem.1 ha k j hk h (by omega)⟩

set_option linter.unusedSimpArgs false in
set_option linter.unusedVariables false in
set_option maxRecDepth 100000 in
set_option maxHeartbeats 16000000 in
theorem reorderReleases_walk1 (s z : Int) (l : List Oq) (sa : Option Addr) (c : Nat) (W : World) (hS : Oq_.Sl W sa l c) :
    Calls Try.prog 3 #[.int .i64 s, .int .i64 z, .slice sa l.length c] W fun e w' => e = .returned (.bool true) ∧ Below W.heap.size W w' := by
  have HS := Lib.hid hS
  have CL := Lib.hid lives20_any
  have N1 := Lib.hid (fun W => ro_new_any s z W)
  unfold NewPost at N1
  have hn := not20
  have hE : Hid ((new s z).2 = if hdOk s z then 0 else 4) := by show (new s z).2 = _; unfold new; split <;> rfl
  have HLN := Lib.hid (lies_new s z)
  have HNB : Hid (hdOk s z = true → (new s z).1 = ⟨s, z, []⟩) := fun h => by rw [new_t h]
  generalize (new s z).1 = b0 at *
  generalize (new s z).2 = E at *
  generalize hy : (⟨b0.st, b0.sz, none, 0, 0⟩ : Rw) = y0 at *
  have HY : Hid (y0.st = b0.st) := by rw [← hy]; rfl
  obtain ⟨n, hnl⟩ : ∃ n, l.length = n := ⟨_, rfl⟩
  rw [hnl]
  have HNL := Lib.hid hnl
  clear hy hS hnl
  cases hh : hdOk s z
  · obtain rfl : E = 4 := by rw [hE.out, hh]; rfl
    clear hE
    go_enter Try.func3, Try.ntmps3
    go_wp2_with fail
    refine (N1.out W).mono ?_
    rintro e w1 ⟨rfl, h1⟩
    have B1 := Lib.hid h1
    obtain ⟨w2, hw2⟩ : ∃ w2, w1.alloc (.cells (Rw_.C y0) 25) = w2 := ⟨_, rfl⟩
    have hz2 := Rw_.storeF_zero w1 y0
    rw [hw2] at hz2
    have b2 : Below w1.heap.size w1 w2 := hw2 ▸ (Below.refl _ _).alloc (Nat.le_refl _) _
    have B2 := Lib.hid (h1.trans (b2.mono h1.size))
    clear h1 hw2 b2
    go_wp2_with (go_at_call 8; refine (CL.out _).mono ?_; rintro e w6 ⟨rfl, h6⟩; have B6 := Lib.hid (B2.out.trans (h6.mono B2.out.size)); clear h6)
    go_returns
    exact ⟨rfl, B6.out⟩
  obtain rfl : E = 0 := by rw [hE.out, hh]; rfl
  clear hE
  go_enter Try.func3, Try.ntmps3
  go_wp2_with fail
  refine (N1.out W).mono ?_
  rintro e w1 ⟨rfl, h1⟩
  obtain ⟨w2, hw2⟩ : ∃ w2, w1.alloc (.cells (Rw_.C y0) 25) = w2 := ⟨_, rfl⟩
  have hz2 := Rw_.storeF_zero w1 y0
  rw [hw2] at hz2
  have b2 : Below w1.heap.size w1 w2 := hw2 ▸ (Below.refl _ _).alloc (Nat.le_refl _) _
  have R2 : Hid (R1 W w1.heap.size y0 b0 w2) := ⟨hw2 ▸ Rw_.Box.new w1 y0, HLN.out w2, h1.trans (b2.mono h1.size), h1.size⟩
  clear h1 hw2 b2 HLN N1
  by_cases h60 : 60 < n
  · have h60' : (60 : Int) < (n : Int) := by omega
    go_wp2_with (go_at_call 8; refine (CL.out _).mono ?_; rintro e w6 ⟨rfl, h6⟩; have B6 := Lib.hid (R2.out.bel.trans (h6.mono R2.out.bel.size)); clear h6)
    go_returns
    exact ⟨rfl, B6.out⟩
  have h60' : ¬ (60 : Int) < (n : Int) := by omega
  have H60 := Lib.hid (Nat.le_of_not_lt h60)
  obtain ⟨f, hf⟩ : ∃ f, y0.st = f := ⟨_, rfl⟩
  have c7 : w2.cell? ⟨w1.heap.size, 0, none⟩ = some (.int .i64 f) := by rw [R2.out.b7.all, Rw_.C0, hf]
  have HF : Hid (0 ≤ f ∧ f < 4096) := by
    have h1 := (hdOk_iff s z).1 hh
    have h2 := HNB.out hh
    rw [← hf, HY.out, h2]; exact h1.1
  have HP0 : Hid (Lp f b0 (-1) 0 0) := by
    have h2 := HNB.out hh
    have e : f = s := by rw [← hf, HY.out, h2]
    rw [h2, e]; exact lp_new hh
  clear hh HNB HY hf h60
  go_wp2_with fail
  clear hz2 c7 h60'
  generalize w1.heap.size = B7 at *
  go_loopw [10, 11, 12, 13] (fun s10 s11 s12 s13 wr => ∃ (i : Nat) (la inn o : Int) (b : Bf) (x : Rw), s10 = .int .i64 la ∧ s11 = .int .i64 inn ∧ s12 = .int .i64 o ∧ s13 = .int .i64 i ∧ i ≤ n ∧ (0 ≤ inn ∧ inn ≤ i) ∧ Hid (Lp f b la inn o) ∧ Hid (R1 W B7 x b wr)) (fun _ _ _ s13 _ => n - (intOf s13).toNat)
  case atStart => exact ⟨0, -1, 0, 0, b0, y0, rfl, rfl, rfl, rfl, Nat.zero_le _, ⟨by omega, by omega⟩, HP0, R2⟩
  case round =>
    clear R2 HP0
    rename World => wr
    obtain ⟨i, la, inn, o, b, x, rfl, rfl, rfl, rfl, hi, hin, HL, RW⟩ := hrel
    have hi1 : i ≤ 60 := by have := H60.out; omega
    by_cases hlt : i < n
    case neg =>
      have k2 : wr.cell? ⟨B7, 2, none⟩ = some (.slice x.sa b.hs.length x.c) := by rw [RW.out.b7.all, Rw_.C2, RW.out.lx.n]
      have hcn := HL.out.cnt
      have hcl := HL.out.ok.len
      generalize b.hs.length = m at *
      subst hcn
      go_wp2_with (go_at_call 8; refine (CL.out _).mono ?_; rintro e w6 ⟨rfl, h6⟩; have B6 := Lib.hid (RW.out.bel.trans (h6.mono RW.out.bel.size)); clear h6)
      go_returns
      exact ⟨rfl, B6.out⟩
    have hil : i < l.length := by have := HNL.out; omega
    obtain ⟨bb, off, hsa, hbl, c0, c1, -⟩ := HS.out.lies i hil
    subst hsa
    generalize l[i].k = k0 at *
    generalize l[i].q = q0 at *
    have HK : Hid (∀ w', Below W.heap.size W w' → w'.cell? ⟨bb, off + i * 3, none⟩ = some (.int .i64 k0) ∧ w'.cell? ⟨bb, off + i * 3 + 1, none⟩ = some (.int .i64 q0)) := fun w' h => ⟨(h.cell hbl).trans c0, (h.cell hbl).trans c1⟩
    have HLT := Lib.hid hlt
    clear hlt hil hbl c0 c1
    have TD1 : Hid (R1 W B7 x b wr.drew) := RW.out.below ⟨rfl, rfl, rfl, Nat.le_refl _, fun _ _ => rfl⟩
    have HLIM : Hid (∀ w', R1 W B7 x b w' → w'.cell? ⟨bb, off + i * 3, none⟩ = some (.int .i64 k0) ∧ w'.cell? ⟨bb, off + i * 3 + 1, none⟩ = some (.int .i64 q0) ∧ R1 W B7 x b w') := fun w' h => ⟨(HK.out w' h.bel).1, (HK.out w' h.bel).2, h⟩
    have TD2 : Hid (R1 W B7 x b (wr.alloc (.cells #[.int .i64 0, .int .i64 0, .string ⟨#[]⟩] 31)).drew) := RW.out.below (((Below.refl _ _).alloc (Nat.le_refl _) _).trans (⟨rfl, rfl, rfl, Nat.le_refl _, fun _ _ => rfl⟩))
    have HM1 : Hid (R2 W B7 x b ⟨k0, md q0, ⟨#[]⟩⟩ wr.heap.size (wr.alloc (.cells #[.int .i64 k0, .int .i64 (md q0), .string ⟨#[]⟩] 31)).drew) :=
      ⟨RW.out.below (((Below.refl _ _).alloc (Nat.le_refl _) _).trans (⟨rfl, rfl, rfl, Nat.le_refl _, fun _ _ => rfl⟩)), Oq_.Box.new wr ⟨k0, md q0, ⟨#[]⟩⟩ rfl, RW.out.bel.size, by have := RW.out.b7.lt; omega, fun b' off' e hp => by
        obtain ⟨b2, o2, e2, hl2, -⟩ := RW.out.lx.sl.lies 0 hp
        rw [e] at e2; cases e2; exact hl2⟩
    have CMD := Lib.hid (fun w => refModulo_any q0 w)
    have i0 : (0 : Int) ≤ (i : Int) := by omega
    have hltn := HLT.out
    go_upto_region 10 with fail
    go_cut [14] (fun p wx => ∃ g, p = .pointer (some ⟨g, 0, none⟩) ∧ Hid (R2 W B7 x b ⟨k0, md q0, ⟨#[]⟩⟩ g wx))
    case first =>
      refine wp_region_held_drew (S := (fun w' => w'.cell? ⟨bb, off + i * 3, none⟩ = some (.int .i64 k0) ∧ w'.cell? ⟨bb, off + i * 3 + 1, none⟩ = some (.int .i64 q0) ∧ R1 W B7 x b w')) (by kernel_rfl) ?_ (fun hHeld => ?_)
      · exact HLIM.out _ TD1.out
      refine wpAnyH_take (i := 0) (oi := { dst := some 42, op := Op.move (Operand.tmp 2), type := 22, pos := "law.go:118", after := #[], guard := none }) (v := ?v1) rfl (by kernel_rfl) (by kernel_rfl) (by kernel_rfl) (fun _ _ _ h => h) (Or.inl ⟨by rfl, ?y1⟩) hHeld ?r1
      case y1 => (intro w hSw; (try dsimp only at hSw); go_simp; try with_reducible rfl)
      try simp only [Act.put, List.setIfInBounds_toArray, List.set_cons_zero, List.set_cons_succ]
      refine wpAnyH_take (i := 1) (oi := { dst := some 43, op := Op.move (Operand.tmp 13), type := 3, pos := "law.go:118", after := #[], guard := none }) (v := ?v2) rfl (by kernel_rfl) (by kernel_rfl) (by kernel_rfl) (fun _ _ _ h => h) (Or.inl ⟨by rfl, ?y2⟩) hHeld ?r2
      case y2 => (intro w hSw; (try dsimp only at hSw); go_simp; try with_reducible rfl)
      try simp only [Act.put, List.setIfInBounds_toArray, List.set_cons_zero, List.set_cons_succ]
      refine wpAnyH_take (i := 2) (oi := { dst := some 44, op := Op.indexAddr 22 (Operand.tmp 42) (Operand.tmp 43), type := 0, pos := "law.go:118", after := #[{ on := 0, ground := Ground.data }, { on := 1, ground := Ground.data }], guard := none }) (v := ?v3) rfl (by kernel_rfl) (by kernel_rfl) (by kernel_rfl) (fun _ _ _ h => h) (Or.inl ⟨by rfl, ?y3⟩) hHeld ?r3
      case y3 => (intro w hSw; (try dsimp only at hSw); go_simp; try with_reducible rfl)
      try simp only [Act.put, List.setIfInBounds_toArray, List.set_cons_zero, List.set_cons_succ]
      refine wpAnyH_take (i := 3) (oi := { dst := some 45, op := Op.fieldAddr 31 (Operand.tmp 44) 0, type := 0, pos := "law.go:118", after := #[{ on := 2, ground := Ground.data }], guard := none }) (v := ?v4) rfl (by kernel_rfl) (by kernel_rfl) (by kernel_rfl) (fun _ _ _ h => h) (Or.inl ⟨by rfl, ?y4⟩) hHeld ?r4
      case y4 => (intro w hSw; (try dsimp only at hSw); go_simp; try with_reducible rfl)
      try simp only [Act.put, List.setIfInBounds_toArray, List.set_cons_zero, List.set_cons_succ]
      refine wpAnyH_take (i := 4) (oi := { dst := some 46, op := Op.load 3 (Operand.tmp 45), type := 3, pos := "law.go:118", after := #[{ on := 3, ground := Ground.data }], guard := none }) (v := ?v5) rfl (by kernel_rfl) (by kernel_rfl) (by kernel_rfl) (fun _ _ _ h => h) (Or.inl ⟨by rfl, ?y5⟩) hHeld ?r5
      case y5 => (intro w hSw; (try dsimp only at hSw); go_simp; try with_reducible rfl)
      try simp only [Act.put, List.setIfInBounds_toArray, List.set_cons_zero, List.set_cons_succ]
      refine wpAnyH_take (i := 5) (oi := { dst := some 47, op := Op.move (Operand.tmp 2), type := 22, pos := "law.go:118", after := #[], guard := none }) (v := ?v6) rfl (by kernel_rfl) (by kernel_rfl) (by kernel_rfl) (fun _ _ _ h => h) (Or.inl ⟨by rfl, ?y6⟩) hHeld ?r6
      case y6 => (intro w hSw; (try dsimp only at hSw); go_simp; try with_reducible rfl)
      try simp only [Act.put, List.setIfInBounds_toArray, List.set_cons_zero, List.set_cons_succ]
      refine wpAnyH_take (i := 6) (oi := { dst := some 48, op := Op.move (Operand.tmp 13), type := 3, pos := "law.go:118", after := #[], guard := none }) (v := ?v7) rfl (by kernel_rfl) (by kernel_rfl) (by kernel_rfl) (fun _ _ _ h => h) (Or.inl ⟨by rfl, ?y7⟩) hHeld ?r7
      case y7 => (intro w hSw; (try dsimp only at hSw); go_simp; try with_reducible rfl)
      try simp only [Act.put, List.setIfInBounds_toArray, List.set_cons_zero, List.set_cons_succ]
      refine wpAnyH_take (i := 7) (oi := { dst := some 49, op := Op.indexAddr 22 (Operand.tmp 47) (Operand.tmp 48), type := 0, pos := "law.go:118", after := #[{ on := 5, ground := Ground.data }, { on := 6, ground := Ground.data }], guard := none }) (v := ?v8) rfl (by kernel_rfl) (by kernel_rfl) (by kernel_rfl) (fun _ _ _ h => h) (Or.inl ⟨by rfl, ?y8⟩) hHeld ?r8
      case y8 => (intro w hSw; (try dsimp only at hSw); go_simp; try with_reducible rfl)
      try simp only [Act.put, List.setIfInBounds_toArray, List.set_cons_zero, List.set_cons_succ]
      refine wpAnyH_take (i := 8) (oi := { dst := some 50, op := Op.fieldAddr 31 (Operand.tmp 49) 1, type := 0, pos := "law.go:118", after := #[{ on := 7, ground := Ground.data }], guard := none }) (v := ?v9) rfl (by kernel_rfl) (by kernel_rfl) (by kernel_rfl) (fun _ _ _ h => h) (Or.inl ⟨by rfl, ?y9⟩) hHeld ?r9
      case y9 => (intro w hSw; (try dsimp only at hSw); go_simp; try with_reducible rfl)
      try simp only [Act.put, List.setIfInBounds_toArray, List.set_cons_zero, List.set_cons_succ]
      refine wpAnyH_take (i := 9) (oi := { dst := some 51, op := Op.load 3 (Operand.tmp 50), type := 3, pos := "law.go:118", after := #[{ on := 8, ground := Ground.data }], guard := none }) (v := ?v10) rfl (by kernel_rfl) (by kernel_rfl) (by kernel_rfl) (fun _ _ _ h => h) (Or.inl ⟨by rfl, ?y10⟩) hHeld ?r10
      case y10 => (intro w hSw; (try dsimp only at hSw); go_simp; try with_reducible rfl)
      try simp only [Act.put, List.setIfInBounds_toArray, List.set_cons_zero, List.set_cons_succ]
      refine wpAnyH_ready (rs := [10, 12]) (by kernel_rfl) (by simp) ?_
      refine AllReadyH.cons (o := { dst := some 52, op := Op.call { callee := Callee.value (Operand.func 9), args := #[Operand.tmp 51], argTypes := #[3] }, type := 3, pos := "law.go:118", after := #[{ on := 9, ground := Ground.data }], guard := none }) rfl (fun K hK => ?_) ?_
      · clear hHeld
        go_simp
        go_at_call 9
        refine (CMD.out _).mono ?_
        rintro e w5 ⟨rfl, rfl⟩
        refine hK.out _ _ ?_ (fun hHeld => ?_)
        · first | exact HLIM.out _ TD1.out | exact HLIM.out _ TD2.out | exact HLIM.out _ HM1.out.r1
        clear hK K
        try simp only [Act.put, List.setIfInBounds_toArray, List.set_cons_zero, List.set_cons_succ]
        refine wpAnyH_take (i := 11) (oi := { dst := some 53, op := Op.build 31 #[(0, Operand.tmp 46), (1, Operand.tmp 52)], type := 31, pos := "law.go:118", after := #[{ on := 4, ground := Ground.data }, { on := 10, ground := Ground.data }], guard := none }) (v := ?v11) rfl (by kernel_rfl) (by kernel_rfl) (by kernel_rfl) (fun _ _ _ h => h) (Or.inl ⟨by rfl, ?y11⟩) hHeld ?r11
        case y11 => (intro w hSw; (try dsimp only at hSw); go_simp; try with_reducible rfl)
        try simp only [Act.put, List.setIfInBounds_toArray, List.set_cons_zero, List.set_cons_succ]
        refine wpAnyH_ready (rs := [12]) (by kernel_rfl) (by simp) ?_
        refine AllReadyH.cons (o := { dst := some 14, op := Op.alloc 31, type := 0, pos := "law.go:118", after := #[], guard := none }) rfl (fun K hK => ?_) ?_
        · clear hHeld
          go_simp
          refine hK.out _ _ ?_ (fun hHeld => ?_)
          · first | exact HLIM.out _ TD1.out | exact HLIM.out _ TD2.out | exact HLIM.out _ HM1.out.r1
          clear hK K
          try simp only [Act.put, List.setIfInBounds_toArray, List.set_cons_zero, List.set_cons_succ]
          refine wpAnyH_ready (rs := [13]) (by kernel_rfl) (by simp) ?_
          refine AllReadyH.cons (o := { dst := none, op := Op.store 31 (Operand.tmp 14) (Operand.tmp 53), type := 0, pos := "law.go:118", after := #[{ on := 12, ground := Ground.data }, { on := 11, ground := Ground.data }, { on := 10, ground := Ground.chain }, { on := 0, ground := Ground.phase }, { on := 1, ground := Ground.phase }, { on := 2, ground := Ground.phase }, { on := 3, ground := Ground.phase }, { on := 4, ground := Ground.phase }, { on := 5, ground := Ground.phase }, { on := 6, ground := Ground.phase }, { on := 7, ground := Ground.phase }, { on := 8, ground := Ground.phase }, { on := 9, ground := Ground.phase }, { on := 10, ground := Ground.phase }, { on := 11, ground := Ground.phase }, { on := 12, ground := Ground.phase }], guard := none }) rfl (fun K hK => ?_) ?_
          · clear hHeld
            go_simp
            refine hK.out _ _ ?_ (fun hHeld => ?_)
            · first | exact HLIM.out _ TD1.out | exact HLIM.out _ TD2.out | exact HLIM.out _ HM1.out.r1
            clear hK K
            try simp only [Act.put, List.setIfInBounds_toArray, List.set_cons_zero, List.set_cons_succ]
            refine wpAnyH_done (by kernel_rfl) ?_ _
            go_wp2_with fail
            go_meet
            exact ⟨_, rfl, HM1⟩
          exact AllReadyH.nil
        exact AllReadyH.nil
      refine AllReadyH.cons (o := { dst := some 14, op := Op.alloc 31, type := 0, pos := "law.go:118", after := #[], guard := none }) rfl (fun K hK => ?_) ?_
      · clear hHeld
        go_simp
        refine hK.out _ _ ?_ (fun hHeld => ?_)
        · first | exact HLIM.out _ TD1.out | exact HLIM.out _ TD2.out | exact HLIM.out _ HM1.out.r1
        clear hK K
        try simp only [Act.put, List.setIfInBounds_toArray, List.set_cons_zero, List.set_cons_succ]
        refine wpAnyH_ready (rs := [10]) (by kernel_rfl) (by simp) ?_
        refine AllReadyH.cons (o := { dst := some 52, op := Op.call { callee := Callee.value (Operand.func 9), args := #[Operand.tmp 51], argTypes := #[3] }, type := 3, pos := "law.go:118", after := #[{ on := 9, ground := Ground.data }], guard := none }) rfl (fun K hK => ?_) ?_
        · clear hHeld
          go_simp
          go_at_call 9
          refine (CMD.out _).mono ?_
          rintro e w5 ⟨rfl, rfl⟩
          refine hK.out _ _ ?_ (fun hHeld => ?_)
          · first | exact HLIM.out _ TD1.out | exact HLIM.out _ TD2.out | exact HLIM.out _ HM1.out.r1
          clear hK K
          try simp only [Act.put, List.setIfInBounds_toArray, List.set_cons_zero, List.set_cons_succ]
          refine wpAnyH_take (i := 11) (oi := { dst := some 53, op := Op.build 31 #[(0, Operand.tmp 46), (1, Operand.tmp 52)], type := 31, pos := "law.go:118", after := #[{ on := 4, ground := Ground.data }, { on := 10, ground := Ground.data }], guard := none }) (v := ?v12) rfl (by kernel_rfl) (by kernel_rfl) (by kernel_rfl) (fun _ _ _ h => h) (Or.inl ⟨by rfl, ?y12⟩) hHeld ?r12
          case y12 => (intro w hSw; (try dsimp only at hSw); go_simp; try with_reducible rfl)
          try simp only [Act.put, List.setIfInBounds_toArray, List.set_cons_zero, List.set_cons_succ]
          refine wpAnyH_ready (rs := [13]) (by kernel_rfl) (by simp) ?_
          refine AllReadyH.cons (o := { dst := none, op := Op.store 31 (Operand.tmp 14) (Operand.tmp 53), type := 0, pos := "law.go:118", after := #[{ on := 12, ground := Ground.data }, { on := 11, ground := Ground.data }, { on := 10, ground := Ground.chain }, { on := 0, ground := Ground.phase }, { on := 1, ground := Ground.phase }, { on := 2, ground := Ground.phase }, { on := 3, ground := Ground.phase }, { on := 4, ground := Ground.phase }, { on := 5, ground := Ground.phase }, { on := 6, ground := Ground.phase }, { on := 7, ground := Ground.phase }, { on := 8, ground := Ground.phase }, { on := 9, ground := Ground.phase }, { on := 10, ground := Ground.phase }, { on := 11, ground := Ground.phase }, { on := 12, ground := Ground.phase }], guard := none }) rfl (fun K hK => ?_) ?_
          · clear hHeld
            go_simp
            refine hK.out _ _ ?_ (fun hHeld => ?_)
            · first | exact HLIM.out _ TD1.out | exact HLIM.out _ TD2.out | exact HLIM.out _ HM1.out.r1
            clear hK K
            try simp only [Act.put, List.setIfInBounds_toArray, List.set_cons_zero, List.set_cons_succ]
            refine wpAnyH_done (by kernel_rfl) ?_ _
            go_wp2_with fail
            go_meet
            exact ⟨_, rfl, HM1⟩
          exact AllReadyH.nil
        exact AllReadyH.nil
      exact AllReadyH.nil
    case rest =>
      obtain ⟨g, rfl, HM⟩ := hcut
      clear TD1 TD2 HM1 HLIM CMD i0 hltn
      have CDF := Lib.hid (fun a b w => refDistance_any a b w)
      obtain ⟨q, hq⟩ : ∃ q, md q0 = q := ⟨_, rfl⟩
      have HQ : Hid (0 ≤ q ∧ q < 4096) := by rw [← hq]; exact md_in q0
      rw [hq] at HM
      clear hq
      have c7 : wc.cell? ⟨B7, 0, none⟩ = some (.int .i64 b.st) := by rw [HM.out.r1.b7.all, Rw_.C0, HM.out.r1.lx.st]
      have cg := HM.out.og.cells
      obtain ⟨D1, hD1⟩ : ∃ D, dist b.st q = D := ⟨_, rfl⟩
      have G1 : Hid (dist b.st q = D1) := hD1
      have E1 : Hid (∀ w, Calls Try.prog 10 #[.int .i64 b.st, .int .i64 q] w fun e w' => e = .returned (.int .i64 D1) ∧ w = w') := fun w => hD1 ▸ CDF.out b.st q w
      obtain ⟨D2, hD2⟩ : ∃ D, dist f b.st = D := ⟨_, rfl⟩
      have G2 : Hid (dist f b.st = D2) := hD2
      have E2 : Hid (∀ w, Calls Try.prog 10 #[.int .i64 f, .int .i64 b.st] w fun e w' => e = .returned (.int .i64 D2) ∧ w = w') := fun w => hD2 ▸ CDF.out f b.st w
      clear hD1 hD2
      by_cases h1 : 1000 < D1
      · go_wp2_with (go_at_call 10; refine (E1.out _).mono ?_; rintro e w5 ⟨rfl, rfl⟩)
        go_roundw
        case rel => exact ⟨i + 1, la, inn, o, b, x, rfl, rfl, rfl, by go_num, HLT.out, ⟨hin.1, by omega⟩, HL, HM.out.r1⟩
        case measure => have := HLT.out; simp [intOf]; omega
      by_cases h2 : 2000 < D2
      · go_wp2_with (first
          | (go_at_call 10; refine (CDF.out _ _ _).mono ?_; rintro e w5 ⟨rfl, rfl⟩; first | rw [G1.out] | rw [G2.out]))
        go_roundw
        case rel => exact ⟨i + 1, la, inn, o, b, x, rfl, rfl, rfl, by go_num, HLT.out, ⟨hin.1, by omega⟩, HL, HM.out.r1⟩
        case measure => have := HLT.out; simp [intOf]; omega
      have HOC := Lib.hid (oct_facts q HQ.out)
      go_upto_region 12 with (go_at_call 10; refine (CDF.out _ _ _).mono ?_; rintro e w5 ⟨rfl, rfl⟩; first | rw [G1.out] | rw [G2.out])
      obtain ⟨u, v, hqu, hqv, wu, wv, wu2, wu3, hNU, hCV⟩ := HOC.out
      have HNU := Lib.hid hNU
      have HCV := Lib.hid hCV
      clear hNU hCV HOC
      have cq := cg.2.1
      obtain ⟨wa, hwa⟩ : ∃ wa, wc.alloc (.cells #[.int .u8 u, .int .u8 v] 5) = wa := ⟨_, rfl⟩
      have ba : Below wc.heap.size wc wa := hwa ▸ (Below.refl _ _).alloc (Nat.le_refl _) _
      have og2 := HM.out.og.below ba HM.out.og.lt
      have fg := og2.frozen 2
      have ck2 := og2.cells.2.2
      have HMd : Hid (R2 W B7 x b ⟨k0, q, oct2 u v⟩ g (wa.setCell ⟨g, 2, none⟩ (.string (oct2 u v)))) := HM.out.setd ba
      have hcv := HCV.out wc
      rw [hwa] at hcv
      clear c7 cg ba og2 HCV
      go_cut [14] (fun p wx => p = .pointer (some ⟨g, 0, none⟩) ∧ Hid (R2 W B7 x b ⟨k0, q, oct2 u v⟩ g wx))
      case first =>
        go_wp2_with fail
        go_meet
        exact ⟨rfl, HMd⟩
      case rest =>
        obtain ⟨rfl, HM2⟩ := hcut
        have hdq : dist b.st q ≤ 1000 := by rw [G1.out]; exact h1
        have hf2 : dist f b.st ≤ 2000 := by rw [G2.out]; exact h2
        obtain ⟨R, hR⟩ := pl_stp HL.out.ok ⟨k0, q, oct2 u v⟩ HQ.out hdq
        obtain ⟨o1, o2, o3, o4⟩ := lp_out HL.out hf2 HNU.out hR
        have hPO := pl_ok HL.out.ok ⟨k0, q, oct2 u v⟩
        have CP := Lib.hid (play20_any x b ⟨k0, q, oct2 u v⟩ wc HM2.out.r1.lx HL.out.ok (show 2 ≤ 5000 by decide))
        unfold PutPost at CP
        obtain ⟨P, K, L, hP⟩ : ∃ P K L, pl b ⟨k0, q, oct2 u v⟩ = (P, K, L) := ⟨_, _, _, rfl⟩
        rw [hP] at CP hR o1 o3 o4 hPO
        dsimp only at CP
        have HPO : Hid (Ok P) := hPO
        have HDS : Hid (L = R.map (·.d)) := hR.ds
        have HCN : Hid ((R.length : Int) + P.hs.length = b.hs.length + (if K = 0 then 0 else 1)) := hR.cnt
        have HO1 : Hid (∀ x ∈ R, Nu x ∧ dist f b.st ≤ dist f x.q ∧ dist f x.q < dist f P.st) := o1
        have HO2 : Hid (Asc f R) := o2
        have HLA : Hid (La f P R 0 la) := ⟨Int.lt_of_lt_of_le HL.out.last o3, fun j hj _ => Int.lt_of_lt_of_le HL.out.last (o1 _ (List.getElem_mem hj)).2.1⟩
        have HO4 : Hid (∀ x ∈ P.hs, Nu x) := o4
        have HIC : Hid (inn = o + b.hs.length ∧ b.hs.length ≤ 64) := ⟨HL.out.cnt, by have := HL.out.ok.len; have := HL.out.ok.sz; omega⟩
        obtain ⟨N, hN⟩ : ∃ N, L.length = N := ⟨_, rfl⟩
        have HN := Lib.hid hN
        have HNR : Hid (R.length = N) := by show R.length = N; rw [← hN, HDS.out, List.length_map]
        have HNM : Hid (N ≤ 1000) := by
          have h := pl_len HL.out.ok ⟨k0, q, oct2 u v⟩
          rw [hP, hN] at h
          exact h
        rw [hN] at CP
        have l7 := HM2.out.r1.b7.loadF
        have cg := HM2.out.og.cells
        clear hR o1 o2 o3 o4 hPO hP hN hdq hf2 HM HMd hcv cq wu wv wu2 wu3 hqu hqv h1 h2 G1 G2 E1 E2 hwa fg ck2 HNU
        go_wp2_with fail
        refine CP.out.mono ?_
        rintro e w5 ⟨x5, sa5, c5, rfl, hl5, hs5, hb5, -, -⟩
        obtain ⟨w15, hw15⟩ : ∃ w15, w5.alloc (.cells (Rw_.C x5) 25) = w15 := ⟨_, rfl⟩
        have hz15 := Rw_.storeF_zero w5 x5
        rw [hw15] at hz15
        have b15 : Below w5.heap.size w5 w15 := hw15 ▸ (Below.refl _ _).alloc (Nat.le_refl _) _
        have R5 := HM2.out.r1.below hb5
        have T0 : Hid (T1 W B7 w5.heap.size x x5 P L sa5 c5 w15) := ⟨R5.b7.below b15 R5.b7.lt, hw15 ▸ Rw_.Box.new w5 x5, hl5.below b15, hs5.below b15, R5.bel.trans (b15.mono R5.bel.size), R5.n7⟩
        obtain ⟨I2, hI2⟩ : ∃ I2 : Int, I2 = inn + (if K = 0 then 0 else 1) := ⟨_, rfl⟩
        have HI2 := Lib.hid hI2
        clear hl5 hs5 hb5 hw15 b15 R5 hI2 l7 cg HM2 CP
        go_upto_if 86 with fail
        go_cut [11] (fun v wx => v = .int .i64 I2 ∧ wx = w15)
        case first =>
          by_cases hK : K = 0
          · have hKb : (K != 0) = false := by rw [hK]; rfl
            have e2 : I2 = inn := by rw [HI2.out, if_pos hK, Int.add_zero]
            go_wp2_with fail
            go_meet
            exact ⟨by rw [e2], rfl⟩
          · have hKb : (K != 0) = true := by simpa using hK
            have e2 : I2 = inn + 1 := by rw [HI2.out, if_neg hK]
            have hw : wrap64 (inn + 1) = inn + 1 := IntWalk.wrap64_in _ (by omega)
            have hw2 : IntKind.i64.wrap (inn + 1) = inn + 1 := IntWalk.i64_in _ (by omega)
            go_wp2_with fail
            go_meet
            exact ⟨by rw [e2], rfl⟩
        case rest =>
          obtain ⟨rfl, rfl⟩ := hcut
          clear hz15
          generalize w5.heap.size = B15 at *
          have HB2 : Hid (0 ≤ I2 ∧ I2 ≤ ((i + 1 : Nat) : Int)) := in_bounds hin.1 hin.2 HI2.out
          have HOB : Hid (-64 ≤ o ∧ o ≤ 60) := by
            have h3 := HIC.out
            show -64 ≤ o ∧ o ≤ 60
            omega
          have HEND : Hid (∀ la2, La f P R N la2 → Lp f P la2 I2 (o + N)) := fun la2 h =>
            ⟨HPO.out, HO4.out, h.1, fin_cnt HI2.out HIC.out.1 HCN.out HNR.out⟩
          clear hin hi1
          by_cases hN0 : N = 0
          · go_wp2_with fail
            go_loopw [10, 12, 18] (fun s10 s12 s18 wk => ∃ (k : Nat) (la2 : Int), s10 = .int .i64 la2 ∧ s12 = .int .i64 (o + k) ∧ s18 = .int .i64 k ∧ k ≤ N ∧ Hid (La f P R k la2) ∧ Hid (T1 W B7 B15 x x5 P L sa5 c5 wk)) (fun _ _ s18 _ => N - (intOf s18).toNat)
            case atStart => exact ⟨0, la, rfl, by rw [Int.natCast_zero, Int.add_zero], rfl, Nat.zero_le _, HLA, T0⟩
            case round =>
              clear T0 HLA
              rename World => wk
              obtain ⟨k, la2, rfl, rfl, rfl, hk, HA, TK⟩ := hrel
              by_cases hkN : k < N
              · exact absurd hkN (by rw [hN0]; exact Nat.not_lt_zero _)
              · clear hN0
                obtain rfl : k = N := Nat.le_antisymm hk (Nat.le_of_not_lt hkN)
                have l15 := TK.out.bg.loadF
                have st26 := TK.out.next.1
                have R26 := Lib.hid TK.out.next.2
                have HLP := Lib.hid (HEND.out la2 HA.out)
                clear hk hkN HA TK
                go_wp2_with fail
                go_roundw
                case rel => exact ⟨i + 1, la2, I2, o + k, P, x5, rfl, rfl, rfl, by go_num, HLT.out, HB2.out, HLP, R26⟩
                case measure => have := HLT.out; simp [intOf]; omega
          obtain ⟨bk, ok, hsa5, -, -⟩ := T0.out.sg.lies 0 (by rw [HN.out]; exact Nat.pos_of_ne_zero hN0)
          subst hsa5
          go_wp2_with fail
          go_loopw [10, 12, 18] (fun s10 s12 s18 wk => ∃ (k : Nat) (la2 : Int), s10 = .int .i64 la2 ∧ s12 = .int .i64 (o + k) ∧ s18 = .int .i64 k ∧ k ≤ N ∧ Hid (La f P R k la2) ∧ Hid (T1 W B7 B15 x x5 P L (some ⟨bk, ok, none⟩) c5 wk)) (fun _ _ s18 _ => N - (intOf s18).toNat)
          case atStart => exact ⟨0, la, rfl, by rw [Int.natCast_zero, Int.add_zero], rfl, Nat.zero_le _, HLA, T0⟩
          case round =>
            clear T0 HLA hN0
            rename World => wk
            obtain ⟨k, la2, rfl, rfl, rfl, hk, HA, TK⟩ := hrel
            by_cases hkN : k < N
            · have hkL : k < L.length := by rw [HN.out]; exact hkN
              have hkR : k < R.length := by rw [HNR.out]; exact hkN
              obtain ⟨b2, ok2, e2, -, ck⟩ := TK.out.sg.lies k hkL
              cases e2
              have hX : L[k] = R[k].d := by simp only [HDS.out, List.getElem_map]
              rw [hX] at ck
              obtain ⟨hnu, -, hlt2⟩ := HO1.out _ (List.getElem_mem hkR)
              have HST := Lib.hid (la_step HO2.out (fun x hx => (HO1.out x hx).2.2) hkR)
              have HD := Lib.hid (HA.out.2 k hkR (Nat.le_refl _))
              generalize R[k] = X at *
              have HK := Lib.hid hkN
              have HL2 := Lib.hid hlt2
              have hsz := hnu.sz
              have HW := Lib.hid (nu_wrap hnu)
              have szn : (((X.d.size : Nat) : Int) != 2) = false := by rw [hsz]; rfl
              have k0' : (0 : Int) ≤ (k : Int) := Int.natCast_nonneg _
              have kN' : (k : Int) < (N : Int) := Int.ofNat_lt.2 hkN
              have HWO := Lib.hid (out_wrap HOB.out.1 HOB.out.2 (Nat.le_trans hk HNM.out))
              have ck' := Lib.hid ck
              have hkb : k ≤ 1000 := Nat.le_trans hk HNM.out
              clear hnu hlt2 hk hkN hX hkL hkR
              go_upto_region 21 with fail
              have S21 : Hid (S21P W B7 B15 x x5 P L bk ok c5 k X.d wk.drew) := ⟨TK.out.keep _ _ ⟨rfl, rfl, rfl, Nat.le_refl _, fun _ _ => rfl⟩, ck'.out⟩
              have p0 : ∀ p : Of (S21P W B7 B15 x x5 P L bk ok c5 k X.d), p.w.cell? ⟨bk, ok + k, none⟩ = some (.string X.d) := fun p => p.ok.2
              have _ne : Nonempty (Of (S21P W B7 B15 x x5 P L bk ok c5 k X.d)) := ⟨⟨_, S21.out⟩⟩
              clear ck
              refine wp_region_of (S21P W B7 B15 x x5 P L bk ok c5 k X.d) (by kernel_rfl) (Region.lexB_of_fast (by kernel_rfl)) S21.out ?_
              repeat (go_big_quiet_step (first
                | (go_at_call 10; exact Calls.of_same (CDF.out _ _ _))))
              refine wpQuiet_nil ?_
              rintro _ ⟨p, rfl⟩
              have T9 := Lib.hid p.ok.1
              generalize p.w = w9 at *
              clear p0 _ne S21 TK ck'
              rw [HW.out]
              clear szn
              have c15 : w9.cell? ⟨B15, 0, none⟩ = some (.int .i64 P.st) := by rw [T9.out.bg.all, Rw_.C0, T9.out.lg.st]
              have GD4 : Hid (∀ w, Calls Try.prog 10 #[.int .i64 f, .int .i64 P.st] w fun e w' => e = .returned (.int .i64 (dist f P.st)) ∧ w = w') := fun w => CDF.out f P.st w
              have hl2 := HL2.out
              have hd2 := HD.out
              generalize dist f P.st = D4 at *
              generalize dist f X.q = D3 at *
              have nD3 : ¬ D3 ≤ la2 := Int.not_le.2 hd2
              have nD4 : ¬ D4 ≤ D3 := Int.not_le.2 hl2
              obtain ⟨wo1, wo2⟩ := HWO.out
              clear hl2 hd2
              go_wp2_with (go_at_call 10; refine (GD4.out _).mono ?_; rintro e w' ⟨rfl, rfl⟩)
              go_roundw
              case rel => exact ⟨k + 1, D3, rfl, by rw [Int.natCast_succ, Int.add_assoc], by go_num, HK.out, HST, T9⟩
              case measure => have := HK.out; simp [intOf]; omega
            · skip
              obtain rfl : k = N := Nat.le_antisymm hk (Nat.le_of_not_lt hkN)
              have l15 := TK.out.bg.loadF
              have st26 := TK.out.next.1
              have R26 := Lib.hid TK.out.next.2
              have HLP := Lib.hid (HEND.out la2 HA.out)
              clear hk hkN HA TK
              go_wp2_with fail
              go_roundw
              case rel => exact ⟨i + 1, la2, I2, o + k, P, x5, rfl, rfl, rfl, by go_num, HLT.out, HB2.out, HLP, R26⟩
              case measure => have := HLT.out; simp [intOf]; omega

theorem reorderReleases_walk0 {W : World} (s : Int) (_ : (Lit.int .i64 s).wf = true) (z : Int) (_ : (Lit.int .i64 z).wf = true) (l : List Oq) (sa : Option Addr) (c : Nat) (hS : Oq_.Sl W sa l c) (_ : l.length ≤ maxLen) :
    Calls Try.prog 3 #[.int .i64 s, .int .i64 z, .slice sa l.length c] W fun e w' => e = .returned (.bool true) ∧ Below W.heap.size W w' := reorderReleases_walk1 s z l sa c W hS
end Go.Proofs.Yteffmfloopkmoaa
