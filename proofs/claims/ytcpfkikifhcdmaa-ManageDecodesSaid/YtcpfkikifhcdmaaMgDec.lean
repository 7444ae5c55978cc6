/-
  WALKS of package manage: Decode.
-/
import Derived.Test.YtcpfkikifhcdmaaMgRf
import Derived.Test.YtcpfkikifhcdmaaMgEnc
namespace Go.Proofs.Ytcpfkikifhcdmaa
open Go.RowKit Go.Mg Go.Wr Go.Ad
attribute [local go_sem ↓ high] Bd_.loadF Bd_.storeF Bd_.v_cells Bd_.v_match Bd_.loadP
attribute [local go_sem] Bd_.C0 Bd_.loadF_new Bd_.storeF_zero

/-! What Decode reads. -/
def enM (σ : Sg) : Int := if σ.1 = 0 then (if 0 < σ.2.length then 2 else 0) else σ.1
def rK (s : ByteArray) : Int × Sg := rN 1 (0, s.data.toList)
def bK (c : Int) : Bd := { zb with kd := c }
def rdq (f : Int) (r : Int × Sg) : Bd × Sg := rFd (us r.1) (bK r.1, if frk r.1 = f then r.2 else rF 3 r.2)
def dcE (k : Int) (s : ByteArray) : Int := if fst k = 0 then 3 else if enM (rdq (fst k) (rK s)).2 = 0 then chk (rdq (fst k) (rK s)).1 else enM (rdq (fst k) (rK s)).2
def dcB (k : Int) (s : ByteArray) : Bd := if dcE k s = 0 then (rdq (fst k) (rK s)).1 else zb
theorem setN_od (b : Bd) (k : Nat) (u : Int) : (setN b k u).od = b.od := by unfold setN; split <;> rfl
theorem rQ_od (s : Int) (k : Nat) (q : Bd × Sg) : (rQ s k q).1.od = q.1.od := by
  induction k with
  | zero => rfl
  | succ k ih => rw [rQ]; split <;> simp only [setN_od, ih]
theorem rA_lt (σ : Sg) : 0 ≤ (rA σ).1 ∧ (rA σ).1 < 281474976710656 := by
  unfold rA
  split
  · split
    · have h := bev_lt (σ.2.take 6)
      have hl : (σ.2.take 6).length ≤ 6 := by rw [List.length_take]; omega
      have h2 : bev (σ.2.take 6) < 281474976710656 := Nat.lt_of_lt_of_le h (Nat.le_trans (Nat.pow_le_pow_right (by decide) hl) (by decide))
      exact ⟨Int.natCast_nonneg _, by simp only; omega⟩
    · exact ⟨Int.le_refl _, show (0 : Int) < _ by decide⟩
  · exact ⟨Int.le_refl _, show (0 : Int) < _ by decide⟩
theorem rFd_w (u : Int) (q : Bd × Sg) (h : q.1.od = 0) : BdW (rFd u q).1 := by
  unfold rFd BdW
  rw [rQ_od]
  have h0 : (if hs u 8 = true then rNm q else q).1.od = 0 := by split <;> exact h
  split
  · have := rA_lt (rQ (bits .andNot .i64 u 4096) 14 (if hs u 8 = true then rNm q else q)).2
    unfold rOd; simp only; omega
  · rw [rQ_od, h0]; decide
theorem rdq_w (f : Int) (r : Int × Sg) : BdW (rdq f r).1 := rFd_w _ _ rfl

theorem end15 (b : Nat) (σ : Sg) (w : World) (h : Rs w b σ) :
    Calls Try.prog 31 #[.pointer (some ⟨b, 0, none⟩)] w fun e w' => e = .returned (.int .i64 (enM σ)) ∧ w = w' := end_tot b σ w h
/-- A body and a value, handed back out of a result's cell. -/
theorem ret_bd {fn : Func} {p q : Tmp} (hr : fn.results = #[.cell p 27, .tmp q]) {tmps : Array Value} {ds : _} {w : World} {g : Nat} {y : Bd} {vq : Value} {R : Ending → World → Prop} (hp : tmps.getD p undef = .pointer (some ⟨g, 0, none⟩)) (hq : tmps.getD q undef = vq) (hb : Bd_.Box w g y) (hd : ds = []) (hR : R (.returned (.tuple #[Bd_.v y, vq])) w) :
    bodyPost Try.prog fn R .ret ⟨tmps, ds⟩ w := by
  refine bodyPost_ret (v := .tuple #[Bd_.v y, vq]) ?_ hd hR
  have hp' : tmps[p]?.getD undef = .pointer (some ⟨g, 0, none⟩) := by simpa using hp
  have hq' : tmps[q]?.getD undef = vq := by simpa using hq
  have hl := run_loadVar_row w g 27 27 (Bd_.C y) (0, 0) _ hb Try.underlying27 rfl Bd_.sz
  simp [results, hr, hp', hq', asAddr, hl]
  rfl
/-- A body handed back out of a result's cell. -/
theorem ret_bd1 {fn : Func} {p : Tmp} (hr : fn.results = #[.cell p 27]) {tmps : Array Value} {ds : _} {w : World} {g : Nat} {y : Bd} {R : Ending → World → Prop} (hp : tmps.getD p undef = .pointer (some ⟨g, 0, none⟩)) (hb : Bd_.Box w g y) (hd : ds = []) (hR : R (.returned (Bd_.v y)) w) :
    bodyPost Try.prog fn R .ret ⟨tmps, ds⟩ w :=
  bodyPost_ret (results_cell_row hr tmps w g 27 (Bd_.C y) (0, 0) _ hp hb Try.underlying27 rfl Bd_.sz) hd hR
/-- The result's cell as it was made, behind the reading. -/
theorem Rst.fin {w w1 wi : World} {pb rb : Nat} {b : Bd} {σ : Sg} (h : Rst w1 (w.heap.size + 1) pb rb b σ wi) (h1 : w.alloc (.cells (Bd_.C zb) 27) = w1) : Stb w zb wi := by
  have hz : w1.heap.size = w.heap.size + 1 := by rw [← h1]; simp
  have hb : Below w1.heap.size w1 wi := by rw [hz]; exact h.bel
  exact (show Stb w zb w1 from h1 ▸ Stb.new w zb).keep hb

set_option maxRecDepth 100000 in
set_option maxHeartbeats 8000000 in
theorem mgDecode_any (k : Int) (s : ByteArray) (w : World) :
    Calls Try.prog 14 #[.int .i64 k, .string s] w fun e w' => e = .returned (.tuple #[Bd_.v (dcB k s), .int .i64 (dcE k s)]) ∧ Below w.heap.size w w' := by
  obtain ⟨w1, hw1⟩ : ∃ w1, w.alloc (.cells (Bd_.C zb) 27) = w1 := ⟨_, rfl⟩
  have hw1' : w.alloc (.cells #[.int .i64 0, .int .i64 0, .int .i64 0, .int .i64 0, .string ⟨#[]⟩, .int .i64 0, .int .i64 0, .int .u64 0, .int .i64 0, .int .i64 0, .int .i64 0, .int .i64 0, .int .i64 0, .int .i64 0, .int .i64 0, .int .i64 0, .int .i64 0] 27) = w1 := hw1
  have S1 := Lib.hid (show Stb w zb w1 from hw1 ▸ Stb.new w zb)
  have H1 := Lib.hid hw1
  have hsz : w1.heap.size = w.heap.size + 1 := by rw [← hw1]; simp
  have HZ : ∀ (wi : World), Bd_.Box wi w.heap.size zb → (Bd_.StoreF ⟨w.heap.size, 0, none⟩ (.agg #[.int .i64 0, .int .i64 0, .int .i64 0, .int .i64 0, .string ⟨#[]⟩, .int .i64 0, .int .i64 0, .int .u64 0, .int .i64 0, .int .i64 0, .int .i64 0, .int .i64 0, .int .i64 0, .int .i64 0, .int .i64 0, .int .i64 0, .int .i64 0])).run Try.prog wi = .ok () (wi.setRow w.heap.size (Bd_.C zb)) := fun wi h => h.storeF zb
  have HZ := Lib.hid HZ
  have CF := Lib.hid fun w => mgFirst_any k w
  by_cases hf0 : fst k = 0
  case pos =>
    have HE : Hid (dcE k s = 3) := if_pos hf0
    have HB : Hid (dcB k s = zb) := if_neg (by rw [HE.out]; decide)
    have sf := HZ.out _ S1.out.box
    rw [hf0] at CF
    clear hf0 hsz hw1
    go_enter Try.func14, Try.ntmps14
    go_wp2_with (go_at_call 26; refine (CF.out _).mono ?_; rintro e w' ⟨rfl, rfl⟩)
    exact ret_bd Try.results14 rfl rfl (S1.out.box.setRow zb) rfl ⟨by rw [HE.out, HB.out]; rfl, below_setRow S1.out.bel (Nat.le_refl _)⟩
  case neg =>
  have hf1 : (fst k == 0) = false := by rw [beq_eq_false_iff_ne]; exact hf0
  have HE0 : Hid (dcE k s = if enM (rdq (fst k) (rK s)).2 = 0 then chk (rdq (fst k) (rK s)).1 else enM (rdq (fst k) (rK s)).2) := if_neg hf0
  have HB0 : Hid (dcB k s = if dcE k s = 0 then (rdq (fst k) (rK s)).1 else zb) := rfl
  have HW := Lib.hid (rdq_w (fst k) (rK s))
  have HQ : Hid (rdq (fst k) (rK s) = rFd (us (rK s).1) (bK (rK s).1, if frk (rK s).1 = fst k then (rK s).2 else rF 3 (rK s).2)) := rfl
  have CR : Hid (Calls Try.prog 27 #[.string s] w1 fun e w' => e = .returned (.pointer (some ⟨w.heap.size + 1, 0, none⟩)) ∧ Rs w' (w.heap.size + 1) (0, s.data.toList) ∧ Below (w.heap.size + 1) w1 w') := by
    have c := new_any s w1
    have r := rs_new w1 s
    rw [hsz] at c r
    exact c.mono fun e w' q => ⟨q.1, q.2 ▸ r, q.2 ▸ (Below.refl _ _).alloc (by rw [hsz]; exact Nat.le_refl _) _⟩
  have CN : Hid (∀ w2, Rs w2 (w.heap.size + 1) (0, s.data.toList) → Calls Try.prog 28 #[.pointer (some ⟨w.heap.size + 1, 0, none⟩), .int .i64 1] w2 fun e w' => e = .returned (.int .i64 (rK s).1) ∧ Rs w' (w.heap.size + 1) (rK s).2 ∧ But (w.heap.size + 1) w2 w') := fun w2 h =>
    num_tot 1 _ _ w2 h (by decide)
  clear hw1
  generalize rK s = r at *
  obtain ⟨c, τ⟩ := r
  simp only at HQ CN
  have HK0 : Hid ((bK c).kd = c) := rfl
  have hfold : (.agg #[.int .i64 c, .int .i64 0, .int .i64 0, .int .i64 0, .string ⟨#[]⟩, .int .i64 0, .int .i64 0, .int .u64 0, .int .i64 0, .int .i64 0, .int .i64 0, .int .i64 0, .int .i64 0, .int .i64 0, .int .i64 0, .int .i64 0, .int .i64 0] : Value) = Bd_.v (bK c) := rfl
  have CM : Hid (∀ w, Calls Try.prog 12 #[Bd_.v (bK c)] w fun e w' => e = .returned (.int .i64 (frk c)) ∧ Below w.heap.size w w') := fun w => mgFrame_any (bK c) w
  have CA : Hid (∀ pb τ' w2, Rst w1 (w.heap.size + 1) pb (w.heap.size + 1) (bK c) τ' w2 → Calls Try.prog 30 #[.pointer (some ⟨w.heap.size + 1, 0, none⟩), .pointer (some ⟨pb, 0, none⟩)] w2 fun e w' => e = .returned (.tuple #[]) ∧ Rst w1 (w.heap.size + 1) pb (w.heap.size + 1) (rFd (us c) (bK c, τ')).1 (rFd (us c) (bK c, τ')).2 w') := fun pb τ' w2 h => mgReadF_any (bK c) τ' _ _ _ w1 w2 h
  have RN : Hid (∀ w2, Rs w2 (w.heap.size + 1) τ → Below (w.heap.size + 1) w1 w2 → Rst w1 (w.heap.size + 1) w2.heap.size (w.heap.size + 1) (bK c) τ (w2.alloc (.cells (Bd_.C (bK c)) 27))) := fun w2 h1 h2 =>
    ⟨Bd_.Box.new w2 _, h1.blk (Below.heap_alloc _ _ _ h1.lt), h2.alloc (Nat.le_of_lt h1.lt) _, Nat.le_of_lt h1.lt, Nat.le_refl _, Nat.ne_of_gt h1.lt⟩
  have CI : Hid (∀ pb τ' w2, Rst w1 (w.heap.size + 1) pb (w.heap.size + 1) (bK c) τ' w2 → Calls Try.prog 29 #[.pointer (some ⟨w.heap.size + 1, 0, none⟩), .int .i64 3] w2 fun e w' => e = .returned (.tuple #[]) ∧ Rst w1 (w.heap.size + 1) pb (w.heap.size + 1) (bK c) (rF 3 τ') w') := fun pb τ' w2 h =>
    (fail_tot 3 _ τ' w2 h.rd).mono fun _ _ q => ⟨q.1, h.read q.2.1 q.2.2⟩
  have HBN : Hid (∀ w2 w3, Below (w.heap.size + 1) w1 w2 → But (w.heap.size + 1) w2 w3 → Below (w.heap.size + 1) w1 w3) := fun w2 w3 h1 h2 => h1.trans (h2.below (by have := h1.size; rw [hsz] at this; exact this) (Nat.le_refl _))
  clear hsz
  generalize bK c = y0 at *
  by_cases hfk : frk c = fst k
  all_goals
    first
      | (have hne : (frk c != fst k) = false := by simp [hfk])
      | (have hne : (frk c != fst k) = true := by simp [hfk])
    first
      | rw [if_pos hfk] at HQ
      | rw [if_neg hfk] at HQ
    generalize rdq (fst k) (c, τ) = q at *
    have CX : Hid (∀ pb w2, Rst w1 (w.heap.size + 1) pb (w.heap.size + 1) y0 _ w2 → Calls Try.prog 30 #[.pointer (some ⟨w.heap.size + 1, 0, none⟩), .pointer (some ⟨pb, 0, none⟩)] w2 fun e w' => e = .returned (.tuple #[]) ∧ Rst w1 (w.heap.size + 1) pb (w.heap.size + 1) q.1 q.2 w') := fun pb w2 h => by
      rw [HQ.out]; exact CA.out pb _ w2 h
    have CC := Lib.hid fun w => mgCheck_any q.1 w HW.out
    have CE := Lib.hid fun w2 h => end15 (w.heap.size + 1) q.2 w2 h
    obtain ⟨y, σ⟩ := q
    simp only at CX CC CE HE0 HB0
    clear CA HQ HW hfk hf0
    generalize chk y = r at *
    generalize enM σ = en at *
    generalize frk c = fc at *
    generalize fst k = fk at *
    rcases (show (en = 0 ∧ r = 0) ∨ (en = 0 ∧ ¬ r = 0) ∨ ¬ en = 0 by omega) with ⟨hen, hr⟩ | ⟨hen, hr⟩ | hen
    · have HE := Lib.hid (HE0.out.trans (if_pos hen))
      have HB := Lib.hid (HB0.out.trans (if_pos (HE.out.trans hr)))
      subst hen hr
      clear HE0 HB0
      go_enter Try.func14, Try.ntmps14
      go_wp2_with (first
        | (go_at_call 26; refine (CF.out _).mono ?_; rintro e w' ⟨rfl, rfl⟩)
        | (go_at_call 27; refine CR.out.mono ?_; rintro e w2 ⟨rfl, h2, b2⟩; have R2 := Lib.hid h2; have B2 := Lib.hid b2; clear h2 b2)
        | (go_at_call 28; refine (CN.out _ R2.out).mono ?_; rintro e w3 ⟨rfl, h3, t3⟩; have T3 := Lib.hid (RN.out _ h3 (HBN.out _ _ B2.out t3)); clear h3 t3)
        | (go_at_call 12; refine (CM.out _).mono ?_; rintro e w4 ⟨rfl, b4⟩; have T4 := Lib.hid (T3.out.keep b4); clear b4)
        | (go_at_call 29; refine (CI.out _ _ _ T4.out).mono ?_; rintro e w5 ⟨rfl, h5⟩; have T5 := Lib.hid h5; clear h5)
        | (go_at_call 30; refine (CX.out _ _ T5.out).mono ?_; rintro e w6 ⟨rfl, h6⟩; have T6 := Lib.hid h6; have l6 := h6.box.loadF; have sf6 := HZ.out _ (h6.fin H1.out).box; clear h6)
        | (go_at_call 30; refine (CX.out _ _ T4.out).mono ?_; rintro e w6 ⟨rfl, h6⟩; have T6 := Lib.hid h6; have l6 := h6.box.loadF; have sf6 := HZ.out _ (h6.fin H1.out).box; clear h6)
        | (go_at_call 31; refine (CE.out _ T6.out.rd).mono ?_; rintro e w7 ⟨rfl, rfl⟩)
        | (go_at_call 10; refine (CC.out _).mono ?_; rintro e w8 ⟨rfl, b8⟩; have T8 := Lib.hid (T6.out.keep b8); have l8 := T8.out.box.loadF; have sz8 := HZ.out _ (T8.out.fin H1.out).box; have sy8 := (T8.out.fin H1.out).box.storeF y; clear b8))
      exact ret_bd Try.results14 rfl rfl ((T8.out.fin H1.out).box.setRow y) rfl ⟨by rw [HE.out, HB.out]; rfl, below_setRow (T8.out.fin H1.out).bel (Nat.le_refl _)⟩
    · have HE := Lib.hid (HE0.out.trans (if_pos hen))
      have HB := Lib.hid (HB0.out.trans (if_neg (by rw [HE.out]; exact hr)))
      have hr' : (r != 0) = true := by simp [hr]
      subst hen
      clear HE0 HB0 hr
      go_enter Try.func14, Try.ntmps14
      go_wp2_with (first
        | (go_at_call 26; refine (CF.out _).mono ?_; rintro e w' ⟨rfl, rfl⟩)
        | (go_at_call 27; refine CR.out.mono ?_; rintro e w2 ⟨rfl, h2, b2⟩; have R2 := Lib.hid h2; have B2 := Lib.hid b2; clear h2 b2)
        | (go_at_call 28; refine (CN.out _ R2.out).mono ?_; rintro e w3 ⟨rfl, h3, t3⟩; have T3 := Lib.hid (RN.out _ h3 (HBN.out _ _ B2.out t3)); clear h3 t3)
        | (go_at_call 12; refine (CM.out _).mono ?_; rintro e w4 ⟨rfl, b4⟩; have T4 := Lib.hid (T3.out.keep b4); clear b4)
        | (go_at_call 29; refine (CI.out _ _ _ T4.out).mono ?_; rintro e w5 ⟨rfl, h5⟩; have T5 := Lib.hid h5; clear h5)
        | (go_at_call 30; refine (CX.out _ _ T5.out).mono ?_; rintro e w6 ⟨rfl, h6⟩; have T6 := Lib.hid h6; have l6 := h6.box.loadF; have sf6 := HZ.out _ (h6.fin H1.out).box; clear h6)
        | (go_at_call 30; refine (CX.out _ _ T4.out).mono ?_; rintro e w6 ⟨rfl, h6⟩; have T6 := Lib.hid h6; have l6 := h6.box.loadF; have sf6 := HZ.out _ (h6.fin H1.out).box; clear h6)
        | (go_at_call 31; refine (CE.out _ T6.out.rd).mono ?_; rintro e w7 ⟨rfl, rfl⟩)
        | (go_at_call 10; refine (CC.out _).mono ?_; rintro e w8 ⟨rfl, b8⟩; have T8 := Lib.hid (T6.out.keep b8); have l8 := T8.out.box.loadF; have sz8 := HZ.out _ (T8.out.fin H1.out).box; have sy8 := (T8.out.fin H1.out).box.storeF y; clear b8))
      exact ret_bd Try.results14 rfl rfl ((T8.out.fin H1.out).box.setRow zb) rfl ⟨by rw [HE.out, HB.out]; rfl, below_setRow (T8.out.fin H1.out).bel (Nat.le_refl _)⟩
    · have HE := Lib.hid (HE0.out.trans (if_neg hen))
      have HB := Lib.hid (HB0.out.trans (if_neg (by rw [HE.out]; exact hen)))
      have hen' : (en == 0) = false := by simp [hen]
      have hen2 : (en != 0) = true := by simp [hen]
      clear HE0 HB0 hen
      go_enter Try.func14, Try.ntmps14
      go_wp2_with (first
        | (go_at_call 26; refine (CF.out _).mono ?_; rintro e w' ⟨rfl, rfl⟩)
        | (go_at_call 27; refine CR.out.mono ?_; rintro e w2 ⟨rfl, h2, b2⟩; have R2 := Lib.hid h2; have B2 := Lib.hid b2; clear h2 b2)
        | (go_at_call 28; refine (CN.out _ R2.out).mono ?_; rintro e w3 ⟨rfl, h3, t3⟩; have T3 := Lib.hid (RN.out _ h3 (HBN.out _ _ B2.out t3)); clear h3 t3)
        | (go_at_call 12; refine (CM.out _).mono ?_; rintro e w4 ⟨rfl, b4⟩; have T4 := Lib.hid (T3.out.keep b4); clear b4)
        | (go_at_call 29; refine (CI.out _ _ _ T4.out).mono ?_; rintro e w5 ⟨rfl, h5⟩; have T5 := Lib.hid h5; clear h5)
        | (go_at_call 30; refine (CX.out _ _ T5.out).mono ?_; rintro e w6 ⟨rfl, h6⟩; have T6 := Lib.hid h6; have l6 := h6.box.loadF; have sf6 := HZ.out _ (h6.fin H1.out).box; clear h6)
        | (go_at_call 30; refine (CX.out _ _ T4.out).mono ?_; rintro e w6 ⟨rfl, h6⟩; have T6 := Lib.hid h6; have l6 := h6.box.loadF; have sf6 := HZ.out _ (h6.fin H1.out).box; clear h6)
        | (go_at_call 31; refine (CE.out _ T6.out.rd).mono ?_; rintro e w7 ⟨rfl, rfl⟩)
        | (go_at_call 10; refine (CC.out _).mono ?_; rintro e w8 ⟨rfl, b8⟩; have T8 := Lib.hid (T6.out.keep b8); have l8 := T8.out.box.loadF; have sz8 := HZ.out _ (T8.out.fin H1.out).box; have sy8 := (T8.out.fin H1.out).box.storeF y; clear b8))
      exact ret_bd Try.results14 rfl rfl ((T6.out.fin H1.out).box.setRow zb) rfl ⟨by rw [HE.out, HB.out]; rfl, below_setRow (T6.out.fin H1.out).bel (Nat.le_refl _)⟩
end Go.Proofs.Ytcpfkikifhcdmaa
