/-
  THE WALK of run: the calls performed on the table and on the reference's entries.
-/
import Derived.Test.YtacjdgglfeemcaaHiRefP
import Derived.Test.YtacjdgglfeemcaaHiQw
import Derived.Test.YtacjdgglfeemcaaHiOp
import Derived.Test.YtacjdgglfeemcaaHiKeys
import Derived.Deep.DeepCutAuto
import Derived.Deep.RegionHeld
import Derived.Deep.MidRow
namespace Go.Proofs.Ytacjdgglfeemcaa
open Go.RowKit Go.Hi
attribute [local go_sem ↓ high] Lw_.loadF Lw_.storeF Lw_.v_cells Lw_.v_match Oqw_.loadF Oqw_.storeF Oqw_.v_cells Oqw_.v_match
attribute [local go_sem] Lw_.loadF_new Lw_.storeF_zero Oqw_.storeF_zero

def stepM (M : Tb) (x : Oq) : Tb := if x.k = 1 then put M x.p x.w x.x else if x.k = 2 then drp M x.p else put M x.p x.w (nt x.x.q x.x.f)
def runM (l : List Oq) : Tb := l.foldl stepM []
theorem runM_take {l : List Oq} {i : Nat} (h : i < l.length) : runM (l.take (i + 1)) = stepM (runM (l.take i)) l[i] := by
  unfold runM
  rw [List.take_succ_eq_append_getElem h, List.foldl_append]; rfl
theorem len_step (M : Tb) (x : Oq) : (stepM M x).length ≤ M.length + 1 := by
  unfold stepM
  split
  · exact len_put _ _ _
  · split
    · exact Nat.le_trans (len_drp _) (Nat.le_succ _)
    · exact len_put _ _ _

/-- A slice of entries that lies elsewhere than block b. -/
structure Sb (w : World) (b : Nat) (v0 : Option Addr) (M : Tb) : Prop where
  lies : Es_.At w v0 M
  ne : ∀ g o, v0 = some ⟨g, o, none⟩ → g ≠ b
theorem Sb.below {w w' : World} {b : Nat} {v0 : Option Addr} {M : Tb} (h : Sb w b v0 M) (hb : Below w.heap.size w w') : Sb w' b v0 M := ⟨h.lies.below hb, h.ne⟩
theorem Sb.grown {w w' : World} {b : Nat} {v0 : Option Addr} {M : Tb} (h : Sb w b v0 M) (hg : w.grownBy w' (some b)) : Sb w' b v0 M := ⟨h.lies.grown hg h.ne, h.ne⟩
theorem sb_of {M : Tb} {w w' : World} {b : Nat} {e : Ending} (hb : b < w.heap.size) (h : TbPost M w e w') : ∃ v0 c, e = .returned (.slice v0 M.length c) ∧ Sb w' b v0 M ∧ Below w.heap.size w w' := by
  obtain ⟨v0, c, h1, h2, h3⟩ := h
  exact ⟨v0, c, h1, ⟨Es_.at_owns h2, fun g o e => by have := Es_.owns_base h2 g o e; omega⟩, h3⟩
theorem refPut_sb (M : Tb) (sa : Option Addr) (c : Nat) (p k : Int) (x : La) (b : Nat) (w : World) (hs : Sb w b sa M) (hu : Up M) (hl : M.length ≤ 1000) (hb : b < w.heap.size) :
    Calls Try.prog 17 #[.slice sa M.length c, .int .u64 p, .int .i64 k, Lw_.v x] w fun e w' => ∃ v0 c', e = .returned (.slice v0 (put M p k x).length c') ∧ Sb w' b v0 (put M p k x) ∧ Below w.heap.size w w' :=
  (ref19Put_any M sa c p k x w hs.lies hu hl).mono fun e w' q => by
    unfold PutPost at q
    cases hk : isF k
    · rw [hk] at q
      have e1 : put M p k x = M := by unfold put; rw [hk]; rfl
      rw [e1]
      exact ⟨sa, c, q.1, hs.below q.2, q.2⟩
    · rw [hk] at q
      exact sb_of hb q
theorem refDrop_sb (M : Tb) (sa : Option Addr) (c : Nat) (p : Int) (b : Nat) (w : World) (hs : Sb w b sa M) (hl : M.length ≤ 1000) (hb : b < w.heap.size) :
    Calls Try.prog 18 #[.slice sa M.length c, .int .u64 p] w fun e w' => ∃ v0 c', e = .returned (.slice v0 (drp M p).length c') ∧ Sb w' b v0 (drp M p) ∧ Below w.heap.size w w' :=
  (ref19Drop_any M sa c p w hs.lies hl).mono fun _ _ q => sb_of hb q
theorem grownBy_oq {w w' : World} {b g : Nat} {x : Oq} (h : w.grownBy w' (some b)) (hx : Oqw_.Box w g x) (hne : g ≠ b) : Oqw_.Box w' g x :=
  (h.block g hx.lt (fun e => hne (by cases e; rfl))).trans hx
theorem grownBy_la {w w' : World} {b g : Nat} {x : La} (h : w.grownBy w' (some b)) (hx : Lw_.Box w g x) (hne : g ≠ b) : Lw_.Box w' g x :=
  (h.block g hx.lt (fun e => hne (by cases e; rfl))).trans hx
theorem oq_load {W : World} {b o : Nat} {x : Oq} (h0 : W.cell? ⟨b, o, none⟩ = some (.int .i64 x.k)) (h1 : W.cell? ⟨b, o + 1, none⟩ = some (.int .u64 x.p)) (h2 : W.cell? ⟨b, o + 2, none⟩ = some (.int .i64 x.w)) (h3 : W.cell? ⟨b, o + 3, none⟩ = some (.bool x.x.v)) (h4 : W.cell? ⟨b, o + 4, none⟩ = some (.int .i64 x.x.q)) (h5 : W.cell? ⟨b, o + 5, none⟩ = some (.int .i64 x.x.f)) :
    (Oqw_.LoadF ⟨b, o, none⟩).run Try.prog W = .ok (Oqw_.v x) W :=
  run_loadVar_mid W b o 51 (Oqw_.C x).toList _ (fun j v hv => by
    have hj : j < 6 := by have := (List.getElem?_eq_some_iff.1 hv).1; simpa [Oqw_.C] using this
    match j, hj with
    | 0, _ => exact h0.trans hv
    | 1, _ => exact h1.trans hv
    | 2, _ => exact h2.trans hv
    | 3, _ => exact h3.trans hv
    | 4, _ => exact h4.trans hv
    | 5, _ => exact h5.trans hv) Try.underlying51 rfl Oqw_.sz
theorem oq_last {W : World} {b : Nat} {x : Oq} (h : Oqw_.Box W b x) : (Lw_.LoadF ⟨b, 3, none⟩).run Try.prog W = .ok (Lw_.v x.x) W :=
  run_loadVar_mid W b 3 23 (Lw_.C x.x).toList _ (fun j v hv => by
    have hj : j < 3 := by have := (List.getElem?_eq_some_iff.1 hv).1; simpa [Lw_.C] using this
    match j, hj with
    | 0, _ => exact (h.all 3).trans hv
    | 1, _ => exact (h.all 4).trans hv
    | 2, _ => exact (h.all 5).trans hv) Try.underlying23 rfl Lw_.sz

theorem grownBy_rf (W : World) (r : Option Nat) : W.grownBy W r := ⟨rfl, rfl, rfl, Nat.le_refl _, fun _ _ _ => rfl⟩
/-- Behind so many calls. -/
structure Rst (W : World) (b n : Nat) (M : Tb) (v0 : Option Addr) (wi : World) : Prop where
  tab : Tab wi b n M
  sb : Sb wi b v0 M
  gr : W.grownBy wi (some b)

def RunPost (b n : Nat) (M : Tb) (W : World) (e : Ending) (w' : World) : Prop :=
  ∃ v0 c, e = .returned (.slice v0 M.length c) ∧ Rst W b n M v0 w'

set_option maxRecDepth 100000 in
set_option maxHeartbeats 16000000 in
theorem run_any (l : List Oq) (sa : Option Addr) (c b : Nat) {W : World} (hs : Oq_.Sl W sa l c) (hw : ∀ x ∈ l, (Lit.int .u64 x.p).wf = true) (hl : l.length ≤ 1000) (hT : Tab W b 0 []) (hn : l ≠ [] → ∀ g o, sa = some ⟨g, o, none⟩ → g ≠ b) :
    Calls Try.prog 11 #[.map (some b), .slice sa l.length c] W fun e w' => RunPost b l.length (runM l) W e w' := by
  have HS := Lib.hid hs.lies
  have HT := Lib.hid hT
  have HW := Lib.hid hw
  have HBW := Lib.hid hT.lt
  have HNE := Lib.hid hn
  clear hs hT hw hn
  go_enter Try.func11, Try.ntmps11
  go_wp2
  go_loopw [5, 14] (fun u v wr => ∃ (i : Nat) (v0 : Option Addr) (c' : Nat), v = .int .i64 i ∧ i ≤ l.length ∧ u = .slice v0 (runM (l.take i)).length c' ∧ (runM (l.take i)).length ≤ i ∧ Rst W b i (runM (l.take i)) v0 wr) (fun _ v _ => l.length - (intOf v).toNat)
  case atStart => exact ⟨0, none, 0, rfl, Nat.zero_le _, rfl, Nat.le_refl _, HT.out, ⟨Es_.At.nil _ _, fun g o e => by cases e⟩, grownBy_rf W (some b)⟩
  case round =>
    obtain ⟨i, v0, c', rfl, hi, rfl, hlen, hr⟩ := hrel
    have HR := Lib.hid hr
    have HLEN := Lib.hid hlen
    clear hr hlen
    by_cases hlt : i < l.length
    · obtain ⟨ab, off, hsa, hbl, c0, c1, c2, c3, c4, c5⟩ := HS.out i hlt
      subst hsa
      have HST := Lib.hid (runM_take hlt)
      have hm : l[i] ∈ l := List.getElem_mem hlt
      have HLT := Lib.hid hlt
      have hnb := HNE.out (List.ne_nil_of_length_pos (by omega)) ab off rfl
      have kp : ∀ {a v}, W.cell? ⟨ab, a, none⟩ = some v → wr.cell? ⟨ab, a, none⟩ = some v := fun h => (World.cell?_of_block (w := W) (HR.out.gr.block ab hbl (fun e => hnb (by cases e; rfl)))).trans h
      have HPW := Lib.hid (HW.out _ hm)
      generalize l[i] = x at *
      generalize runM (l.take i) = M at *
      have lx := oq_load (kp c0) (kp c1) (kp c2) (kp c3) (kp c4) (kp c5)
      have HBR : Hid (b < wr.heap.size) := Nat.lt_of_lt_of_le HBW.out HR.out.gr.size
      obtain ⟨w1, hw1⟩ : ∃ w1, wr.alloc (.cells (Oqw_.C x) 51) = w1 := ⟨_, rfl⟩
      have X1 := Lib.hid (show Oqw_.Box w1 wr.heap.size x from hw1 ▸ Oqw_.Box.new wr x)
      have b1 : Below wr.heap.size wr w1 := hw1 ▸ (Below.refl _ _).alloc (Nat.le_refl _) _
      have HM : Hid (i < maxLen ∧ M.length ≤ 1000 ∧ i + 1 ≤ l.length) := ⟨by have := HLT.out; unfold maxLen; omega, by have := HLEN.out; omega, HLT.out⟩
      have T1 := Lib.hid (HR.out.tab.below b1)
      have S1 := Lib.hid (HR.out.sb.below b1)
      have G1 := Lib.hid (grownBy_trans HR.out.gr (grownBy_below (r := some b) b1))
      have HX1 : Hid (wr.heap.size ≠ b) := by have := HBR.out; show wr.heap.size ≠ b; omega
      have HLS := Lib.hid (len_step M x)
      have a1 := X1.out.all
      have e0 : (Oqw_.C x)[0]? = some (.int .i64 x.k) := rfl
      have e1 : (Oqw_.C x)[1]? = some (.int .u64 x.p) := rfl
      have e2 : (Oqw_.C x)[2]? = some (.int .i64 x.w) := rfl
      have l1 := oq_last X1.out
      obtain ⟨gx, hgx⟩ : ∃ gx, wr.heap.size = gx := ⟨_, rfl⟩
      rw [hgx] at X1 a1 l1 HX1
      have sQ : (Oqw_.StoreF ⟨gx, 0, none⟩ (Oqw_.v x)).run Try.prog (wr.alloc (.cells #[.int .i64 0, .int .u64 0, .int .i64 0, .bool false, .int .i64 0, .int .i64 0] 51)) = .ok () w1 := by
        rw [← hw1, ← hgx]; exact Oqw_.storeF_zero wr x
      clear hm kp c0 c1 c2 c3 c4 c5 hbl hnb hlt b1 HS HNE HR
      by_cases hk1 : x.k = 1
      · have d1 : (x.k == 1) = true := by rw [beq_iff_eq]; exact hk1
        have HEQ := Lib.hid (show stepM M x = put M x.p x.w x.x from if_pos hk1)
        obtain ⟨M', hM'⟩ : ∃ M', put M x.p x.w x.x = M' := ⟨_, rfl⟩
        have CP : Hid (Calls Try.prog 15 #[.map (some b), .int .u64 x.p, .int .i64 x.w, Lw_.v x.x] w1 fun e w' => e = .returned (.tuple #[]) ∧ Tab w' b (i + 1) M' ∧ w1.grownBy w' (some b)) := by
          have := hiPut_any x.p x.w x.x w1 T1.out HM.out.1 HPW.out
          rwa [hM'] at this
        have CR : Hid (∀ w, Sb w b v0 M → b < w.heap.size → Calls Try.prog 17 #[.slice v0 M.length c', .int .u64 x.p, .int .i64 x.w, Lw_.v x.x] w fun e w' => ∃ v0 c', e = .returned (.slice v0 M'.length c') ∧ Sb w' b v0 M' ∧ Below w.heap.size w w') := fun w hs hb => by
          have := refPut_sb M v0 c' x.p x.w x.x b w hs T1.out.ok.1 HM.out.2.1 hb
          rwa [hM'] at this
        rw [HEQ.out, hM'] at HST HLS
        clear hk1 hM' HEQ
        go_wp2_with (first
          | (go_at_call 15; refine CP.out.mono ?_; rintro e w2 ⟨rfl, ht2, hg2⟩; have T2 := Lib.hid ht2; have S2 := Lib.hid (S1.out.grown hg2); have G2 := Lib.hid (grownBy_trans G1.out hg2); have a2 := (grownBy_oq hg2 X1.out HX1.out).all; have l2 := oq_last (grownBy_oq hg2 X1.out HX1.out); clear ht2 hg2)
          | (go_at_call 17; refine (CR.out _ S2.out T2.out.lt).mono ?_; rintro e w3 ⟨v3, c3, rfl, hs3, hb3⟩; have T3 := Lib.hid (T2.out.below hb3); have S3 := Lib.hid hs3; have G3 := Lib.hid (grownBy_trans G2.out (grownBy_below (r := some b) hb3)); clear hs3 hb3))
        go_roundw
        case rel => exact ⟨i + 1, v3, c3, by go_num, HM.out.2.2, by rw [HST.out], by rw [HST.out]; have := HLS.out; have := HLEN.out; omega, by rw [HST.out]; exact ⟨T3.out, S3.out, G3.out⟩⟩
        case measure => have := HM.out; simp [intOf]; omega
      have d1 : (x.k == 1) = false := by rw [beq_eq_false_iff_ne]; exact hk1
      by_cases hk2 : x.k = 2
      · have d2 : (x.k == 2) = true := by rw [beq_iff_eq]; exact hk2
        have HEQ := Lib.hid (show stepM M x = drp M x.p by unfold stepM; rw [if_neg hk1, if_pos hk2])
        have CP := Lib.hid (hiDrop_any x.p w1 T1.out HPW.out)
        have CR := Lib.hid fun w hs hb => refDrop_sb M v0 c' x.p b w hs HM.out.2.1 hb
        rw [HEQ.out] at HST HLS
        generalize drp M x.p = M' at *
        clear hk1 hk2 HEQ
        go_wp2_with (first
          | (go_at_call 16; refine CP.out.mono ?_; rintro e w2 ⟨rfl, ht2, hg2⟩; have T2 := Lib.hid (ht2.mono (Nat.le_succ i)); have S2 := Lib.hid (S1.out.grown hg2); have G2 := Lib.hid (grownBy_trans G1.out hg2); have a2 := (grownBy_oq hg2 X1.out HX1.out).all; clear ht2 hg2)
          | (go_at_call 18; refine (CR.out _ S2.out T2.out.lt).mono ?_; rintro e w3 ⟨v3, c3, rfl, hs3, hb3⟩; have T3 := Lib.hid (T2.out.below hb3); have S3 := Lib.hid hs3; have G3 := Lib.hid (grownBy_trans G2.out (grownBy_below (r := some b) hb3)); clear hs3 hb3))
        go_roundw
        case rel => exact ⟨i + 1, v3, c3, by go_num, HM.out.2.2, by rw [HST.out], by rw [HST.out]; have := HLS.out; have := HLEN.out; omega, by rw [HST.out]; exact ⟨T3.out, S3.out, G3.out⟩⟩
        case measure => have := HM.out; simp [intOf]; omega
      have d2 : (x.k == 2) = false := by rw [beq_eq_false_iff_ne]; exact hk2
      have HEQ := Lib.hid (show stepM M x = put M x.p x.w (nt x.x.q x.x.f) by unfold stepM; rw [if_neg hk1, if_neg hk2])
      obtain ⟨y, hy⟩ : ∃ y, nt x.x.q x.x.f = y := ⟨_, rfl⟩
      have CG : Hid (∀ w, Below w1.heap.size w1 w → Calls Try.prog 13 #[.map (some b), .int .u64 x.p, .int .i64 x.w] w fun e w' => e = .returned (Lw_.v (get M x.p x.w)) ∧ Below w.heap.size w w') := fun w hb => hiGet_any x.p x.w w (T1.out.below hb) HPW.out
      have CG2 : Hid (∀ w, Below w1.heap.size w1 w → Calls Try.prog 14 #[.slice v0 M.length c', .int .u64 x.p, .int .i64 x.w] w fun e w' => e = .returned (Lw_.v (get M x.p x.w)) ∧ Below w.heap.size w w') := fun w hb => ref19Get_any M v0 c' x.p x.w w (S1.out.below hb).lies T1.out.ok.1 HM.out.2.1
      obtain ⟨h, hh⟩ : ∃ h, get M x.p x.w = h := ⟨_, rfl⟩
      rw [hh] at CG CG2
      have CN : Hid (∀ w, Calls Try.prog 8 #[Lw_.v h, .int .i64 x.x.q, .int .i64 x.x.f] w fun e w' => e = .returned (.tuple #[Lw_.v y, .int .i64 (ag h x.x.q x.x.f)]) ∧ Below w.heap.size w w') := fun w => by
        have := hiNote_any h x.x.q x.x.f w
        unfold NtPost at this
        rwa [hy] at this
      have CN2 : Hid (∀ w, Calls Try.prog 9 #[Lw_.v h, .int .i64 x.x.q, .int .i64 x.x.f] w fun e w' => e = .returned (.tuple #[Lw_.v y, .int .i64 (ag h x.x.q x.x.f)]) ∧ Below w.heap.size w w') := fun w => by
        have := ref19Note_any h x.x.q x.x.f w
        unfold NtPost at this
        rwa [hy] at this
      rw [hy] at HEQ
      generalize ag h x.x.q x.x.f = n at *
      obtain ⟨M', hM'⟩ : ∃ M', put M x.p x.w y = M' := ⟨_, rfl⟩
      have CP : Hid (∀ w, Below w1.heap.size w1 w → Calls Try.prog 15 #[.map (some b), .int .u64 x.p, .int .i64 x.w, Lw_.v y] w fun e w' => e = .returned (.tuple #[]) ∧ Tab w' b (i + 1) M' ∧ w.grownBy w' (some b)) := fun w hb => by
        have := hiPut_any x.p x.w y w (T1.out.below hb) HM.out.1 HPW.out
        rwa [hM'] at this
      have CR : Hid (∀ w, Sb w b v0 M → b < w.heap.size → Calls Try.prog 17 #[.slice v0 M.length c', .int .u64 x.p, .int .i64 x.w, Lw_.v y] w fun e w' => ∃ v0 c', e = .returned (.slice v0 M'.length c') ∧ Sb w' b v0 M' ∧ Below w.heap.size w w') := fun w hs hb => by
        have := refPut_sb M v0 c' x.p x.w y b w hs T1.out.ok.1 HM.out.2.1 hb
        rwa [hM'] at this
      rw [HEQ.out, hM'] at HST HLS
      have HLIM : Hid (∀ w, Below w1.heap.size w1 w → w.cell? ⟨gx, 1, none⟩ = some (.int .u64 x.p) ∧ w.cell? ⟨gx, 2, none⟩ = some (.int .i64 x.w) ∧ w.cell? ⟨gx, 4, none⟩ = some (.int .i64 x.x.q) ∧ w.cell? ⟨gx, 5, none⟩ = some (.int .i64 x.x.f) ∧ Below w1.heap.size w1 w) := fun w hb =>
        have hx := X1.out.below hb X1.out.lt
        ⟨hx.all 1, hx.all 2, hx.all 4, hx.all 5, hb⟩
      have E0 : Hid (Below w1.heap.size w1 w1.drew) := (Below.refl _ _).drew
      have E0a : Hid (Below w1.heap.size w1 (w1.alloc (.cells #[.bool false, .int .i64 0, .int .i64 0] 23)).drew) := ((Below.refl _ _).alloc (Nat.le_refl _) _).drew
      have HSB : Hid (w1.heap.size ≠ b) := by have := T1.out.lt; show w1.heap.size ≠ b; omega
      have HBL1 := Lib.hid T1.out.lt
      clear hk1 hk2 hM' HEQ hh hy
      go_upto_region 7 with fail
      go_cut [8, 9] (fun p v wx => ∃ g, p = .pointer (some ⟨g, 0, none⟩) ∧ v = .int .i64 n ∧ w1.heap.size ≤ g ∧ Lw_.Box wx g y ∧ Below w1.heap.size w1 wx)
      case first =>
        refine wp_region_held_drew (S := (fun w' => w'.cell? ⟨gx, 1, none⟩ = some (.int .u64 x.p) ∧ w'.cell? ⟨gx, 2, none⟩ = some (.int .i64 x.w) ∧ w'.cell? ⟨gx, 4, none⟩ = some (.int .i64 x.x.q) ∧ w'.cell? ⟨gx, 5, none⟩ = some (.int .i64 x.x.f) ∧ Below w1.heap.size w1 w')) (by kernel_rfl) ?_ (fun hHeld => ?_)
        · exact HLIM.out _ E0.out
        refine wpAnyH_take (i := 0) (oi := { dst := some 24, op := Op.move (Operand.tmp 0), type := 35, pos := "law.go:67", after := #[], guard := none }) (v := ?v1) rfl (by kernel_rfl) (by kernel_rfl) (by kernel_rfl) (fun _ _ _ h => h) (Or.inl ⟨by rfl, ?y1⟩) hHeld ?r1
        case y1 => (intro w hSw; (try dsimp only at hSw); go_simp; try with_reducible rfl)
        try simp only [Act.put, List.setIfInBounds_toArray, List.set_cons_zero, List.set_cons_succ]
        refine wpAnyH_take (i := 1) (oi := { dst := some 25, op := Op.fieldAddr 51 (Operand.tmp 7) 1, type := 0, pos := "law.go:67", after := #[], guard := none }) (v := ?v2) rfl (by kernel_rfl) (by kernel_rfl) (by kernel_rfl) (fun _ _ _ h => h) (Or.inl ⟨by rfl, ?y2⟩) hHeld ?r2
        case y2 => (intro w hSw; (try dsimp only at hSw); go_simp; try with_reducible rfl)
        try simp only [Act.put, List.setIfInBounds_toArray, List.set_cons_zero, List.set_cons_succ]
        refine wpAnyH_take (i := 2) (oi := { dst := some 26, op := Op.load 33 (Operand.tmp 25), type := 33, pos := "law.go:67", after := #[{ on := 1, ground := Ground.data }], guard := none }) (v := ?v3) rfl (by kernel_rfl) (by kernel_rfl) (by kernel_rfl) (fun _ _ _ h => h) (Or.inl ⟨by rfl, ?y3⟩) hHeld ?r3
        case y3 => (intro w hSw; (try dsimp only at hSw); go_simp; try with_reducible rfl)
        try simp only [Act.put, List.setIfInBounds_toArray, List.set_cons_zero, List.set_cons_succ]
        refine wpAnyH_take (i := 3) (oi := { dst := some 27, op := Op.fieldAddr 51 (Operand.tmp 7) 2, type := 0, pos := "law.go:67", after := #[], guard := none }) (v := ?v4) rfl (by kernel_rfl) (by kernel_rfl) (by kernel_rfl) (fun _ _ _ h => h) (Or.inl ⟨by rfl, ?y4⟩) hHeld ?r4
        case y4 => (intro w hSw; (try dsimp only at hSw); go_simp; try with_reducible rfl)
        try simp only [Act.put, List.setIfInBounds_toArray, List.set_cons_zero, List.set_cons_succ]
        refine wpAnyH_take (i := 4) (oi := { dst := some 28, op := Op.load 3 (Operand.tmp 27), type := 3, pos := "law.go:67", after := #[{ on := 3, ground := Ground.data }], guard := none }) (v := ?v5) rfl (by kernel_rfl) (by kernel_rfl) (by kernel_rfl) (fun _ _ _ h => h) (Or.inl ⟨by rfl, ?y5⟩) hHeld ?r5
        case y5 => (intro w hSw; (try dsimp only at hSw); go_simp; try with_reducible rfl)
        try simp only [Act.put, List.setIfInBounds_toArray, List.set_cons_zero, List.set_cons_succ]
        refine wpAnyH_take (i := 6) (oi := { dst := some 30, op := Op.fieldAddr 51 (Operand.tmp 7) 3, type := 0, pos := "law.go:67", after := #[], guard := none }) (v := ?v6) rfl (by kernel_rfl) (by kernel_rfl) (by kernel_rfl) (fun _ _ _ h => h) (Or.inl ⟨by rfl, ?y6⟩) hHeld ?r6
        case y6 => (intro w hSw; (try dsimp only at hSw); go_simp; try with_reducible rfl)
        try simp only [Act.put, List.setIfInBounds_toArray, List.set_cons_zero, List.set_cons_succ]
        refine wpAnyH_take (i := 7) (oi := { dst := some 31, op := Op.fieldAddr 23 (Operand.tmp 30) 1, type := 0, pos := "law.go:67", after := #[{ on := 6, ground := Ground.data }], guard := none }) (v := ?v7) rfl (by kernel_rfl) (by kernel_rfl) (by kernel_rfl) (fun _ _ _ h => h) (Or.inl ⟨by rfl, ?y7⟩) hHeld ?r7
        case y7 => (intro w hSw; (try dsimp only at hSw); go_simp; try with_reducible rfl)
        try simp only [Act.put, List.setIfInBounds_toArray, List.set_cons_zero, List.set_cons_succ]
        refine wpAnyH_take (i := 8) (oi := { dst := some 32, op := Op.load 3 (Operand.tmp 31), type := 3, pos := "law.go:67", after := #[{ on := 7, ground := Ground.data }], guard := none }) (v := ?v8) rfl (by kernel_rfl) (by kernel_rfl) (by kernel_rfl) (fun _ _ _ h => h) (Or.inl ⟨by rfl, ?y8⟩) hHeld ?r8
        case y8 => (intro w hSw; (try dsimp only at hSw); go_simp; try with_reducible rfl)
        try simp only [Act.put, List.setIfInBounds_toArray, List.set_cons_zero, List.set_cons_succ]
        refine wpAnyH_take (i := 9) (oi := { dst := some 33, op := Op.fieldAddr 51 (Operand.tmp 7) 3, type := 0, pos := "law.go:67", after := #[], guard := none }) (v := ?v9) rfl (by kernel_rfl) (by kernel_rfl) (by kernel_rfl) (fun _ _ _ h => h) (Or.inl ⟨by rfl, ?y9⟩) hHeld ?r9
        case y9 => (intro w hSw; (try dsimp only at hSw); go_simp; try with_reducible rfl)
        try simp only [Act.put, List.setIfInBounds_toArray, List.set_cons_zero, List.set_cons_succ]
        refine wpAnyH_take (i := 10) (oi := { dst := some 34, op := Op.fieldAddr 23 (Operand.tmp 33) 2, type := 0, pos := "law.go:67", after := #[{ on := 9, ground := Ground.data }], guard := none }) (v := ?v10) rfl (by kernel_rfl) (by kernel_rfl) (by kernel_rfl) (fun _ _ _ h => h) (Or.inl ⟨by rfl, ?y10⟩) hHeld ?r10
        case y10 => (intro w hSw; (try dsimp only at hSw); go_simp; try with_reducible rfl)
        try simp only [Act.put, List.setIfInBounds_toArray, List.set_cons_zero, List.set_cons_succ]
        refine wpAnyH_take (i := 11) (oi := { dst := some 35, op := Op.load 3 (Operand.tmp 34), type := 3, pos := "law.go:67", after := #[{ on := 10, ground := Ground.data }], guard := none }) (v := ?v11) rfl (by kernel_rfl) (by kernel_rfl) (by kernel_rfl) (fun _ _ _ h => h) (Or.inl ⟨by rfl, ?y11⟩) hHeld ?r11
        case y11 => (intro w hSw; (try dsimp only at hSw); go_simp; try with_reducible rfl)
        try simp only [Act.put, List.setIfInBounds_toArray, List.set_cons_zero, List.set_cons_succ]
        refine wpAnyH_ready (rs := [5, 16]) (by kernel_rfl) (by simp) ?_
        refine AllReadyH.cons (o := { dst := some 29, op := Op.call { callee := Callee.value (Operand.func 13), args := #[Operand.tmp 24, Operand.tmp 26, Operand.tmp 28], argTypes := #[35, 33, 3] }, type := 23, pos := "law.go:67", after := #[{ on := 0, ground := Ground.data }, { on := 2, ground := Ground.data }, { on := 4, ground := Ground.data }], guard := none }) rfl (fun K hK => ?_) ?_
        · clear hHeld
          go_simp
          go_at_call 13
          first
            | (refine (CG.out _ (E0.out)).mono ?_; rintro e w5 ⟨rfl, hb5⟩; have G5 := Lib.hid (E0.out.trans (hb5.mono E0.out.size)))
            | (refine (CG.out _ (E0a.out)).mono ?_; rintro e w5 ⟨rfl, hb5⟩; have G5 := Lib.hid (E0a.out.trans (hb5.mono E0a.out.size)); have A5 := Lib.hid ((show Lw_.Box (w1.alloc (.cells #[.bool false, .int .i64 0, .int .i64 0] 23)).drew w1.heap.size zl from Lw_.Box.new w1 zl).below hb5 (by simp)))
          clear hb5
          refine hK.out _ _ ?_ (fun hHeld => ?_)
          · first | exact HLIM.out _ E0a.out | exact HLIM.out _ E0.out | exact HLIM.out _ G5.out | exact HLIM.out _ (G5.out.alloc G5.out.size _) | exact HLIM.out _ N6.out | exact HLIM.out _ (N6.out.alloc N6.out.size _) | exact HLIM.out _ (below_setRow N6.out (Nat.le_refl _) _) | exact HLIM.out _ (below_setRow N6.out G5.out.size _)
          clear hK K
          try simp only [Act.put, List.setIfInBounds_toArray, List.set_cons_zero, List.set_cons_succ]
          refine wpAnyH_ready (rs := [12, 16]) (by kernel_rfl) (by simp) ?_
          refine AllReadyH.cons (o := { dst := some 36, op := Op.call { callee := Callee.value (Operand.func 8), args := #[Operand.tmp 29, Operand.tmp 32, Operand.tmp 35], argTypes := #[23, 3, 3] }, type := 24, pos := "law.go:67", after := #[{ on := 5, ground := Ground.data }, { on := 8, ground := Ground.data }, { on := 11, ground := Ground.data }, { on := 5, ground := Ground.chain }], guard := none }) rfl (fun K hK => ?_) ?_
          · clear hHeld
            go_simp
            go_at_call 8
            refine (CN.out _).mono ?_
            rintro e w6 ⟨rfl, hb6⟩
            have N6 : Hid (Below w1.heap.size w1 w6) := (by first | exact G5.out.trans (hb6.mono G5.out.size) | exact (G5.out.alloc G5.out.size (.cells #[.bool false, .int .i64 0, .int .i64 0] 23)).trans (hb6.mono (Nat.le_trans G5.out.size (by simp))))
            first
              | (have A6 := Lib.hid (A5.out.below hb6 A5.out.lt); have sA := A6.out.storeF y)
              | (have A6 := Lib.hid ((show Lw_.Box (w5.alloc (.cells #[.bool false, .int .i64 0, .int .i64 0] 23)) w5.heap.size zl from Lw_.Box.new w5 zl).below hb6 (by simp)); have sA := A6.out.storeF y)
              | skip
            clear hb6
            refine hK.out _ _ ?_ (fun hHeld => ?_)
            · first | exact HLIM.out _ E0a.out | exact HLIM.out _ E0.out | exact HLIM.out _ G5.out | exact HLIM.out _ (G5.out.alloc G5.out.size _) | exact HLIM.out _ N6.out | exact HLIM.out _ (N6.out.alloc N6.out.size _) | exact HLIM.out _ (below_setRow N6.out (Nat.le_refl _) _) | exact HLIM.out _ (below_setRow N6.out G5.out.size _)
            clear hK K
            try simp only [Act.put, List.setIfInBounds_toArray, List.set_cons_zero, List.set_cons_succ]
            refine wpAnyH_take (i := 13) (oi := { dst := some 23, op := Op.move (Operand.tmp 36), type := 24, pos := "law.go:67", after := #[{ on := 12, ground := Ground.data }], guard := none }) (v := ?v12) rfl (by kernel_rfl) (by kernel_rfl) (by kernel_rfl) (fun _ _ _ h => h) (Or.inl ⟨by rfl, ?y12⟩) hHeld ?r12
            case y12 => (intro w hSw; (try dsimp only at hSw); go_simp; try with_reducible rfl)
            try simp only [Act.put, List.setIfInBounds_toArray, List.set_cons_zero, List.set_cons_succ]
            refine wpAnyH_take (i := 14) (oi := { dst := some 37, op := Op.extract (Operand.tmp 23) 0, type := 23, pos := "law.go:67", after := #[{ on := 13, ground := Ground.data }], guard := none }) (v := ?v13) rfl (by kernel_rfl) (by kernel_rfl) (by kernel_rfl) (fun _ _ _ h => h) (Or.inl ⟨by rfl, ?y13⟩) hHeld ?r13
            case y13 => (intro w hSw; (try dsimp only at hSw); go_simp; try with_reducible rfl)
            try simp only [Act.put, List.setIfInBounds_toArray, List.set_cons_zero, List.set_cons_succ]
            refine wpAnyH_take (i := 15) (oi := { dst := some 38, op := Op.extract (Operand.tmp 23) 1, type := 3, pos := "law.go:67", after := #[{ on := 13, ground := Ground.data }, { on := 17, ground := Ground.gcOnly Departure.lateStores }], guard := none }) (v := ?v14) rfl (by kernel_rfl) (by kernel_rfl) (by kernel_rfl) (fun _ _ _ h => h) (Or.inl ⟨by rfl, ?y14⟩) hHeld ?r14
            case y14 => (intro w hSw; (try dsimp only at hSw); go_simp; try with_reducible rfl)
            try simp only [Act.put, List.setIfInBounds_toArray, List.set_cons_zero, List.set_cons_succ]
            refine wpAnyH_ready (rs := [16]) (by kernel_rfl) (by simp) ?_
            refine AllReadyH.cons (o := { dst := some 8, op := Op.alloc 23, type := 0, pos := "law.go:67", after := #[], guard := none }) rfl (fun K hK => ?_) ?_
            · clear hHeld
              go_simp
              refine hK.out _ _ ?_ (fun hHeld => ?_)
              · first | exact HLIM.out _ E0a.out | exact HLIM.out _ E0.out | exact HLIM.out _ G5.out | exact HLIM.out _ (G5.out.alloc G5.out.size _) | exact HLIM.out _ N6.out | exact HLIM.out _ (N6.out.alloc N6.out.size _) | exact HLIM.out _ (below_setRow N6.out (Nat.le_refl _) _) | exact HLIM.out _ (below_setRow N6.out G5.out.size _)
              clear hK K
              try simp only [Act.put, List.setIfInBounds_toArray, List.set_cons_zero, List.set_cons_succ]
              refine wpAnyH_ready (rs := [17]) (by kernel_rfl) (by simp) ?_
              refine AllReadyH.cons (o := { dst := none, op := Op.store 23 (Operand.tmp 8) (Operand.tmp 37), type := 0, pos := "law.go:67", after := #[{ on := 16, ground := Ground.data }, { on := 14, ground := Ground.data }, { on := 12, ground := Ground.chain }, { on := 0, ground := Ground.phase }, { on := 1, ground := Ground.phase }, { on := 2, ground := Ground.phase }, { on := 3, ground := Ground.phase }, { on := 4, ground := Ground.phase }, { on := 5, ground := Ground.phase }, { on := 6, ground := Ground.phase }, { on := 7, ground := Ground.phase }, { on := 8, ground := Ground.phase }, { on := 9, ground := Ground.phase }, { on := 10, ground := Ground.phase }, { on := 11, ground := Ground.phase }, { on := 12, ground := Ground.phase }, { on := 13, ground := Ground.phase }, { on := 14, ground := Ground.phase }, { on := 15, ground := Ground.textOnly Departure.lateStores }, { on := 16, ground := Ground.phase }], guard := none }) rfl (fun K hK => ?_) ?_
              · clear hHeld
                go_simp
                refine hK.out _ _ ?_ (fun hHeld => ?_)
                · first | exact HLIM.out _ E0a.out | exact HLIM.out _ E0.out | exact HLIM.out _ G5.out | exact HLIM.out _ (G5.out.alloc G5.out.size _) | exact HLIM.out _ N6.out | exact HLIM.out _ (N6.out.alloc N6.out.size _) | exact HLIM.out _ (below_setRow N6.out (Nat.le_refl _) _) | exact HLIM.out _ (below_setRow N6.out G5.out.size _)
                clear hK K
                try simp only [Act.put, List.setIfInBounds_toArray, List.set_cons_zero, List.set_cons_succ]
                refine wpAnyH_take (i := 18) (oi := { dst := some 9, op := Op.assign (Operand.tmp 38), type := 3, pos := "law.go:67", after := #[{ on := 15, ground := Ground.data }, { on := 17, ground := Ground.chain }, { on := 0, ground := Ground.phase }, { on := 1, ground := Ground.phase }, { on := 2, ground := Ground.phase }, { on := 3, ground := Ground.phase }, { on := 4, ground := Ground.phase }, { on := 5, ground := Ground.phase }, { on := 6, ground := Ground.phase }, { on := 7, ground := Ground.phase }, { on := 8, ground := Ground.phase }, { on := 9, ground := Ground.phase }, { on := 10, ground := Ground.phase }, { on := 11, ground := Ground.phase }, { on := 12, ground := Ground.phase }, { on := 13, ground := Ground.phase }, { on := 14, ground := Ground.phase }, { on := 15, ground := Ground.phase }, { on := 16, ground := Ground.phase }, { on := 17, ground := Ground.phase }], guard := none }) (v := ?v15) rfl (by kernel_rfl) (by kernel_rfl) (by kernel_rfl) (fun _ _ _ h => h) (Or.inl ⟨by rfl, ?y15⟩) hHeld ?r15
                case y15 => (intro w hSw; (try dsimp only at hSw); go_simp; try with_reducible rfl)
                try simp only [Act.put, List.setIfInBounds_toArray, List.set_cons_zero, List.set_cons_succ]
                refine wpAnyH_done (by kernel_rfl) ?_ _
                go_wp2_with fail
                go_meet
                first
                  | exact ⟨_, rfl, rfl, Nat.le_refl _, A6.out.setRow y, below_setRow N6.out (Nat.le_refl _) _⟩
                  | exact ⟨_, rfl, rfl, G5.out.size, A6.out.setRow y, below_setRow N6.out G5.out.size _⟩
                  | exact ⟨_, rfl, rfl, N6.out.size, Lw_.Box.new _ y, N6.out.alloc N6.out.size _⟩
              exact AllReadyH.nil
            exact AllReadyH.nil
          refine AllReadyH.cons (o := { dst := some 8, op := Op.alloc 23, type := 0, pos := "law.go:67", after := #[], guard := none }) rfl (fun K hK => ?_) ?_
          · clear hHeld
            go_simp
            refine hK.out _ _ ?_ (fun hHeld => ?_)
            · first | exact HLIM.out _ E0a.out | exact HLIM.out _ E0.out | exact HLIM.out _ G5.out | exact HLIM.out _ (G5.out.alloc G5.out.size _) | exact HLIM.out _ N6.out | exact HLIM.out _ (N6.out.alloc N6.out.size _) | exact HLIM.out _ (below_setRow N6.out (Nat.le_refl _) _) | exact HLIM.out _ (below_setRow N6.out G5.out.size _)
            clear hK K
            try simp only [Act.put, List.setIfInBounds_toArray, List.set_cons_zero, List.set_cons_succ]
            refine wpAnyH_ready (rs := [12]) (by kernel_rfl) (by simp) ?_
            refine AllReadyH.cons (o := { dst := some 36, op := Op.call { callee := Callee.value (Operand.func 8), args := #[Operand.tmp 29, Operand.tmp 32, Operand.tmp 35], argTypes := #[23, 3, 3] }, type := 24, pos := "law.go:67", after := #[{ on := 5, ground := Ground.data }, { on := 8, ground := Ground.data }, { on := 11, ground := Ground.data }, { on := 5, ground := Ground.chain }], guard := none }) rfl (fun K hK => ?_) ?_
            · clear hHeld
              go_simp
              go_at_call 8
              refine (CN.out _).mono ?_
              rintro e w6 ⟨rfl, hb6⟩
              have N6 : Hid (Below w1.heap.size w1 w6) := (by first | exact G5.out.trans (hb6.mono G5.out.size) | exact (G5.out.alloc G5.out.size (.cells #[.bool false, .int .i64 0, .int .i64 0] 23)).trans (hb6.mono (Nat.le_trans G5.out.size (by simp))))
              first
                | (have A6 := Lib.hid (A5.out.below hb6 A5.out.lt); have sA := A6.out.storeF y)
                | (have A6 := Lib.hid ((show Lw_.Box (w5.alloc (.cells #[.bool false, .int .i64 0, .int .i64 0] 23)) w5.heap.size zl from Lw_.Box.new w5 zl).below hb6 (by simp)); have sA := A6.out.storeF y)
                | skip
              clear hb6
              refine hK.out _ _ ?_ (fun hHeld => ?_)
              · first | exact HLIM.out _ E0a.out | exact HLIM.out _ E0.out | exact HLIM.out _ G5.out | exact HLIM.out _ (G5.out.alloc G5.out.size _) | exact HLIM.out _ N6.out | exact HLIM.out _ (N6.out.alloc N6.out.size _) | exact HLIM.out _ (below_setRow N6.out (Nat.le_refl _) _) | exact HLIM.out _ (below_setRow N6.out G5.out.size _)
              clear hK K
              try simp only [Act.put, List.setIfInBounds_toArray, List.set_cons_zero, List.set_cons_succ]
              refine wpAnyH_take (i := 13) (oi := { dst := some 23, op := Op.move (Operand.tmp 36), type := 24, pos := "law.go:67", after := #[{ on := 12, ground := Ground.data }], guard := none }) (v := ?v16) rfl (by kernel_rfl) (by kernel_rfl) (by kernel_rfl) (fun _ _ _ h => h) (Or.inl ⟨by rfl, ?y16⟩) hHeld ?r16
              case y16 => (intro w hSw; (try dsimp only at hSw); go_simp; try with_reducible rfl)
              try simp only [Act.put, List.setIfInBounds_toArray, List.set_cons_zero, List.set_cons_succ]
              refine wpAnyH_take (i := 14) (oi := { dst := some 37, op := Op.extract (Operand.tmp 23) 0, type := 23, pos := "law.go:67", after := #[{ on := 13, ground := Ground.data }], guard := none }) (v := ?v17) rfl (by kernel_rfl) (by kernel_rfl) (by kernel_rfl) (fun _ _ _ h => h) (Or.inl ⟨by rfl, ?y17⟩) hHeld ?r17
              case y17 => (intro w hSw; (try dsimp only at hSw); go_simp; try with_reducible rfl)
              try simp only [Act.put, List.setIfInBounds_toArray, List.set_cons_zero, List.set_cons_succ]
              refine wpAnyH_take (i := 15) (oi := { dst := some 38, op := Op.extract (Operand.tmp 23) 1, type := 3, pos := "law.go:67", after := #[{ on := 13, ground := Ground.data }, { on := 17, ground := Ground.gcOnly Departure.lateStores }], guard := none }) (v := ?v18) rfl (by kernel_rfl) (by kernel_rfl) (by kernel_rfl) (fun _ _ _ h => h) (Or.inl ⟨by rfl, ?y18⟩) hHeld ?r18
              case y18 => (intro w hSw; (try dsimp only at hSw); go_simp; try with_reducible rfl)
              try simp only [Act.put, List.setIfInBounds_toArray, List.set_cons_zero, List.set_cons_succ]
              refine wpAnyH_ready (rs := [17]) (by kernel_rfl) (by simp) ?_
              refine AllReadyH.cons (o := { dst := none, op := Op.store 23 (Operand.tmp 8) (Operand.tmp 37), type := 0, pos := "law.go:67", after := #[{ on := 16, ground := Ground.data }, { on := 14, ground := Ground.data }, { on := 12, ground := Ground.chain }, { on := 0, ground := Ground.phase }, { on := 1, ground := Ground.phase }, { on := 2, ground := Ground.phase }, { on := 3, ground := Ground.phase }, { on := 4, ground := Ground.phase }, { on := 5, ground := Ground.phase }, { on := 6, ground := Ground.phase }, { on := 7, ground := Ground.phase }, { on := 8, ground := Ground.phase }, { on := 9, ground := Ground.phase }, { on := 10, ground := Ground.phase }, { on := 11, ground := Ground.phase }, { on := 12, ground := Ground.phase }, { on := 13, ground := Ground.phase }, { on := 14, ground := Ground.phase }, { on := 15, ground := Ground.textOnly Departure.lateStores }, { on := 16, ground := Ground.phase }], guard := none }) rfl (fun K hK => ?_) ?_
              · clear hHeld
                go_simp
                refine hK.out _ _ ?_ (fun hHeld => ?_)
                · first | exact HLIM.out _ E0a.out | exact HLIM.out _ E0.out | exact HLIM.out _ G5.out | exact HLIM.out _ (G5.out.alloc G5.out.size _) | exact HLIM.out _ N6.out | exact HLIM.out _ (N6.out.alloc N6.out.size _) | exact HLIM.out _ (below_setRow N6.out (Nat.le_refl _) _) | exact HLIM.out _ (below_setRow N6.out G5.out.size _)
                clear hK K
                try simp only [Act.put, List.setIfInBounds_toArray, List.set_cons_zero, List.set_cons_succ]
                refine wpAnyH_take (i := 18) (oi := { dst := some 9, op := Op.assign (Operand.tmp 38), type := 3, pos := "law.go:67", after := #[{ on := 15, ground := Ground.data }, { on := 17, ground := Ground.chain }, { on := 0, ground := Ground.phase }, { on := 1, ground := Ground.phase }, { on := 2, ground := Ground.phase }, { on := 3, ground := Ground.phase }, { on := 4, ground := Ground.phase }, { on := 5, ground := Ground.phase }, { on := 6, ground := Ground.phase }, { on := 7, ground := Ground.phase }, { on := 8, ground := Ground.phase }, { on := 9, ground := Ground.phase }, { on := 10, ground := Ground.phase }, { on := 11, ground := Ground.phase }, { on := 12, ground := Ground.phase }, { on := 13, ground := Ground.phase }, { on := 14, ground := Ground.phase }, { on := 15, ground := Ground.phase }, { on := 16, ground := Ground.phase }, { on := 17, ground := Ground.phase }], guard := none }) (v := ?v19) rfl (by kernel_rfl) (by kernel_rfl) (by kernel_rfl) (fun _ _ _ h => h) (Or.inl ⟨by rfl, ?y19⟩) hHeld ?r19
                case y19 => (intro w hSw; (try dsimp only at hSw); go_simp; try with_reducible rfl)
                try simp only [Act.put, List.setIfInBounds_toArray, List.set_cons_zero, List.set_cons_succ]
                refine wpAnyH_done (by kernel_rfl) ?_ _
                go_wp2_with fail
                go_meet
                first
                  | exact ⟨_, rfl, rfl, Nat.le_refl _, A6.out.setRow y, below_setRow N6.out (Nat.le_refl _) _⟩
                  | exact ⟨_, rfl, rfl, G5.out.size, A6.out.setRow y, below_setRow N6.out G5.out.size _⟩
                  | exact ⟨_, rfl, rfl, N6.out.size, Lw_.Box.new _ y, N6.out.alloc N6.out.size _⟩
              exact AllReadyH.nil
            exact AllReadyH.nil
          exact AllReadyH.nil
        refine AllReadyH.cons (o := { dst := some 8, op := Op.alloc 23, type := 0, pos := "law.go:67", after := #[], guard := none }) rfl (fun K hK => ?_) ?_
        · clear hHeld
          go_simp
          refine hK.out _ _ ?_ (fun hHeld => ?_)
          · first | exact HLIM.out _ E0a.out | exact HLIM.out _ E0.out | exact HLIM.out _ G5.out | exact HLIM.out _ (G5.out.alloc G5.out.size _) | exact HLIM.out _ N6.out | exact HLIM.out _ (N6.out.alloc N6.out.size _) | exact HLIM.out _ (below_setRow N6.out (Nat.le_refl _) _) | exact HLIM.out _ (below_setRow N6.out G5.out.size _)
          clear hK K
          try simp only [Act.put, List.setIfInBounds_toArray, List.set_cons_zero, List.set_cons_succ]
          refine wpAnyH_ready (rs := [5]) (by kernel_rfl) (by simp) ?_
          refine AllReadyH.cons (o := { dst := some 29, op := Op.call { callee := Callee.value (Operand.func 13), args := #[Operand.tmp 24, Operand.tmp 26, Operand.tmp 28], argTypes := #[35, 33, 3] }, type := 23, pos := "law.go:67", after := #[{ on := 0, ground := Ground.data }, { on := 2, ground := Ground.data }, { on := 4, ground := Ground.data }], guard := none }) rfl (fun K hK => ?_) ?_
          · clear hHeld
            go_simp
            go_at_call 13
            first
              | (refine (CG.out _ (E0.out)).mono ?_; rintro e w5 ⟨rfl, hb5⟩; have G5 := Lib.hid (E0.out.trans (hb5.mono E0.out.size)))
              | (refine (CG.out _ (E0a.out)).mono ?_; rintro e w5 ⟨rfl, hb5⟩; have G5 := Lib.hid (E0a.out.trans (hb5.mono E0a.out.size)); have A5 := Lib.hid ((show Lw_.Box (w1.alloc (.cells #[.bool false, .int .i64 0, .int .i64 0] 23)).drew w1.heap.size zl from Lw_.Box.new w1 zl).below hb5 (by simp)))
            clear hb5
            refine hK.out _ _ ?_ (fun hHeld => ?_)
            · first | exact HLIM.out _ E0a.out | exact HLIM.out _ E0.out | exact HLIM.out _ G5.out | exact HLIM.out _ (G5.out.alloc G5.out.size _) | exact HLIM.out _ N6.out | exact HLIM.out _ (N6.out.alloc N6.out.size _) | exact HLIM.out _ (below_setRow N6.out (Nat.le_refl _) _) | exact HLIM.out _ (below_setRow N6.out G5.out.size _)
            clear hK K
            try simp only [Act.put, List.setIfInBounds_toArray, List.set_cons_zero, List.set_cons_succ]
            refine wpAnyH_ready (rs := [12]) (by kernel_rfl) (by simp) ?_
            refine AllReadyH.cons (o := { dst := some 36, op := Op.call { callee := Callee.value (Operand.func 8), args := #[Operand.tmp 29, Operand.tmp 32, Operand.tmp 35], argTypes := #[23, 3, 3] }, type := 24, pos := "law.go:67", after := #[{ on := 5, ground := Ground.data }, { on := 8, ground := Ground.data }, { on := 11, ground := Ground.data }, { on := 5, ground := Ground.chain }], guard := none }) rfl (fun K hK => ?_) ?_
            · clear hHeld
              go_simp
              go_at_call 8
              refine (CN.out _).mono ?_
              rintro e w6 ⟨rfl, hb6⟩
              have N6 : Hid (Below w1.heap.size w1 w6) := (by first | exact G5.out.trans (hb6.mono G5.out.size) | exact (G5.out.alloc G5.out.size (.cells #[.bool false, .int .i64 0, .int .i64 0] 23)).trans (hb6.mono (Nat.le_trans G5.out.size (by simp))))
              first
                | (have A6 := Lib.hid (A5.out.below hb6 A5.out.lt); have sA := A6.out.storeF y)
                | (have A6 := Lib.hid ((show Lw_.Box (w5.alloc (.cells #[.bool false, .int .i64 0, .int .i64 0] 23)) w5.heap.size zl from Lw_.Box.new w5 zl).below hb6 (by simp)); have sA := A6.out.storeF y)
                | skip
              clear hb6
              refine hK.out _ _ ?_ (fun hHeld => ?_)
              · first | exact HLIM.out _ E0a.out | exact HLIM.out _ E0.out | exact HLIM.out _ G5.out | exact HLIM.out _ (G5.out.alloc G5.out.size _) | exact HLIM.out _ N6.out | exact HLIM.out _ (N6.out.alloc N6.out.size _) | exact HLIM.out _ (below_setRow N6.out (Nat.le_refl _) _) | exact HLIM.out _ (below_setRow N6.out G5.out.size _)
              clear hK K
              try simp only [Act.put, List.setIfInBounds_toArray, List.set_cons_zero, List.set_cons_succ]
              refine wpAnyH_take (i := 13) (oi := { dst := some 23, op := Op.move (Operand.tmp 36), type := 24, pos := "law.go:67", after := #[{ on := 12, ground := Ground.data }], guard := none }) (v := ?v20) rfl (by kernel_rfl) (by kernel_rfl) (by kernel_rfl) (fun _ _ _ h => h) (Or.inl ⟨by rfl, ?y20⟩) hHeld ?r20
              case y20 => (intro w hSw; (try dsimp only at hSw); go_simp; try with_reducible rfl)
              try simp only [Act.put, List.setIfInBounds_toArray, List.set_cons_zero, List.set_cons_succ]
              refine wpAnyH_take (i := 14) (oi := { dst := some 37, op := Op.extract (Operand.tmp 23) 0, type := 23, pos := "law.go:67", after := #[{ on := 13, ground := Ground.data }], guard := none }) (v := ?v21) rfl (by kernel_rfl) (by kernel_rfl) (by kernel_rfl) (fun _ _ _ h => h) (Or.inl ⟨by rfl, ?y21⟩) hHeld ?r21
              case y21 => (intro w hSw; (try dsimp only at hSw); go_simp; try with_reducible rfl)
              try simp only [Act.put, List.setIfInBounds_toArray, List.set_cons_zero, List.set_cons_succ]
              refine wpAnyH_take (i := 15) (oi := { dst := some 38, op := Op.extract (Operand.tmp 23) 1, type := 3, pos := "law.go:67", after := #[{ on := 13, ground := Ground.data }, { on := 17, ground := Ground.gcOnly Departure.lateStores }], guard := none }) (v := ?v22) rfl (by kernel_rfl) (by kernel_rfl) (by kernel_rfl) (fun _ _ _ h => h) (Or.inl ⟨by rfl, ?y22⟩) hHeld ?r22
              case y22 => (intro w hSw; (try dsimp only at hSw); go_simp; try with_reducible rfl)
              try simp only [Act.put, List.setIfInBounds_toArray, List.set_cons_zero, List.set_cons_succ]
              refine wpAnyH_ready (rs := [17]) (by kernel_rfl) (by simp) ?_
              refine AllReadyH.cons (o := { dst := none, op := Op.store 23 (Operand.tmp 8) (Operand.tmp 37), type := 0, pos := "law.go:67", after := #[{ on := 16, ground := Ground.data }, { on := 14, ground := Ground.data }, { on := 12, ground := Ground.chain }, { on := 0, ground := Ground.phase }, { on := 1, ground := Ground.phase }, { on := 2, ground := Ground.phase }, { on := 3, ground := Ground.phase }, { on := 4, ground := Ground.phase }, { on := 5, ground := Ground.phase }, { on := 6, ground := Ground.phase }, { on := 7, ground := Ground.phase }, { on := 8, ground := Ground.phase }, { on := 9, ground := Ground.phase }, { on := 10, ground := Ground.phase }, { on := 11, ground := Ground.phase }, { on := 12, ground := Ground.phase }, { on := 13, ground := Ground.phase }, { on := 14, ground := Ground.phase }, { on := 15, ground := Ground.textOnly Departure.lateStores }, { on := 16, ground := Ground.phase }], guard := none }) rfl (fun K hK => ?_) ?_
              · clear hHeld
                go_simp
                refine hK.out _ _ ?_ (fun hHeld => ?_)
                · first | exact HLIM.out _ E0a.out | exact HLIM.out _ E0.out | exact HLIM.out _ G5.out | exact HLIM.out _ (G5.out.alloc G5.out.size _) | exact HLIM.out _ N6.out | exact HLIM.out _ (N6.out.alloc N6.out.size _) | exact HLIM.out _ (below_setRow N6.out (Nat.le_refl _) _) | exact HLIM.out _ (below_setRow N6.out G5.out.size _)
                clear hK K
                try simp only [Act.put, List.setIfInBounds_toArray, List.set_cons_zero, List.set_cons_succ]
                refine wpAnyH_take (i := 18) (oi := { dst := some 9, op := Op.assign (Operand.tmp 38), type := 3, pos := "law.go:67", after := #[{ on := 15, ground := Ground.data }, { on := 17, ground := Ground.chain }, { on := 0, ground := Ground.phase }, { on := 1, ground := Ground.phase }, { on := 2, ground := Ground.phase }, { on := 3, ground := Ground.phase }, { on := 4, ground := Ground.phase }, { on := 5, ground := Ground.phase }, { on := 6, ground := Ground.phase }, { on := 7, ground := Ground.phase }, { on := 8, ground := Ground.phase }, { on := 9, ground := Ground.phase }, { on := 10, ground := Ground.phase }, { on := 11, ground := Ground.phase }, { on := 12, ground := Ground.phase }, { on := 13, ground := Ground.phase }, { on := 14, ground := Ground.phase }, { on := 15, ground := Ground.phase }, { on := 16, ground := Ground.phase }, { on := 17, ground := Ground.phase }], guard := none }) (v := ?v23) rfl (by kernel_rfl) (by kernel_rfl) (by kernel_rfl) (fun _ _ _ h => h) (Or.inl ⟨by rfl, ?y23⟩) hHeld ?r23
                case y23 => (intro w hSw; (try dsimp only at hSw); go_simp; try with_reducible rfl)
                try simp only [Act.put, List.setIfInBounds_toArray, List.set_cons_zero, List.set_cons_succ]
                refine wpAnyH_done (by kernel_rfl) ?_ _
                go_wp2_with fail
                go_meet
                first
                  | exact ⟨_, rfl, rfl, Nat.le_refl _, A6.out.setRow y, below_setRow N6.out (Nat.le_refl _) _⟩
                  | exact ⟨_, rfl, rfl, G5.out.size, A6.out.setRow y, below_setRow N6.out G5.out.size _⟩
                  | exact ⟨_, rfl, rfl, N6.out.size, Lw_.Box.new _ y, N6.out.alloc N6.out.size _⟩
              exact AllReadyH.nil
            exact AllReadyH.nil
          exact AllReadyH.nil
        exact AllReadyH.nil
      case rest =>
        obtain ⟨g8, rfl, rfl, hg8, hy8, hb8⟩ := hcut
        have Y8 := Lib.hid hy8
        have HG8 := Lib.hid hg8
        have HB8 := Lib.hid hb8
        have E0 : Hid (Below wc.heap.size wc wc.drew) := (Below.refl _ _).drew
        have E0a : Hid (Below wc.heap.size wc (wc.alloc (.cells #[.bool false, .int .i64 0, .int .i64 0] 23)).drew) := ((Below.refl _ _).alloc (Nat.le_refl _) _).drew
        have HLIM2 : Hid (∀ w, Below wc.heap.size wc w → w.cell? ⟨gx, 1, none⟩ = some (.int .u64 x.p) ∧ w.cell? ⟨gx, 2, none⟩ = some (.int .i64 x.w) ∧ w.cell? ⟨gx, 4, none⟩ = some (.int .i64 x.x.q) ∧ w.cell? ⟨gx, 5, none⟩ = some (.int .i64 x.x.f) ∧ Below wc.heap.size wc w) := fun w hb =>
          have h0 := HLIM.out w (HB8.out.trans (hb.mono HB8.out.size))
          ⟨h0.1, h0.2.1, h0.2.2.1, h0.2.2.2.1, hb⟩
        have HKY : Hid (∀ w, Below wc.heap.size wc w → Lw_.Box w g8 y) := fun w hb => Y8.out.below hb Y8.out.lt
        clear hy8 hb8 hg8 CG CN
        go_upto_region 8 with fail
        go_cut [10, 11] (fun p v wx => ∃ g, p = .pointer (some ⟨g, 0, none⟩) ∧ v = .int .i64 n ∧ w1.heap.size ≤ g ∧ Lw_.Box wx g y ∧ Below wc.heap.size wc wx)
        case first =>
          refine wp_region_held_drew (S := (fun w' => w'.cell? ⟨gx, 1, none⟩ = some (.int .u64 x.p) ∧ w'.cell? ⟨gx, 2, none⟩ = some (.int .i64 x.w) ∧ w'.cell? ⟨gx, 4, none⟩ = some (.int .i64 x.x.q) ∧ w'.cell? ⟨gx, 5, none⟩ = some (.int .i64 x.x.f) ∧ Below wc.heap.size wc w')) (by kernel_rfl) ?_ (fun hHeld => ?_)
          · exact HLIM2.out _ E0.out
          refine wpAnyH_take (i := 0) (oi := { dst := some 40, op := Op.move (Operand.tmp 5), type := 36, pos := "law.go:68", after := #[], guard := none }) (v := ?vb1) rfl (by kernel_rfl) (by kernel_rfl) (by kernel_rfl) (fun _ _ _ h => h) (Or.inl ⟨by rfl, ?yb1⟩) hHeld ?rb1
          case yb1 => (intro w hSw; (try dsimp only at hSw); go_simp; try with_reducible rfl)
          try simp only [Act.put, List.setIfInBounds_toArray, List.set_cons_zero, List.set_cons_succ]
          refine wpAnyH_take (i := 1) (oi := { dst := some 41, op := Op.fieldAddr 51 (Operand.tmp 7) 1, type := 0, pos := "law.go:68", after := #[], guard := none }) (v := ?vb2) rfl (by kernel_rfl) (by kernel_rfl) (by kernel_rfl) (fun _ _ _ h => h) (Or.inl ⟨by rfl, ?yb2⟩) hHeld ?rb2
          case yb2 => (intro w hSw; (try dsimp only at hSw); go_simp; try with_reducible rfl)
          try simp only [Act.put, List.setIfInBounds_toArray, List.set_cons_zero, List.set_cons_succ]
          refine wpAnyH_take (i := 2) (oi := { dst := some 42, op := Op.load 33 (Operand.tmp 41), type := 33, pos := "law.go:68", after := #[{ on := 1, ground := Ground.data }], guard := none }) (v := ?vb3) rfl (by kernel_rfl) (by kernel_rfl) (by kernel_rfl) (fun _ _ _ h => h) (Or.inl ⟨by rfl, ?yb3⟩) hHeld ?rb3
          case yb3 => (intro w hSw; (try dsimp only at hSw); go_simp; try with_reducible rfl)
          try simp only [Act.put, List.setIfInBounds_toArray, List.set_cons_zero, List.set_cons_succ]
          refine wpAnyH_take (i := 3) (oi := { dst := some 43, op := Op.fieldAddr 51 (Operand.tmp 7) 2, type := 0, pos := "law.go:68", after := #[], guard := none }) (v := ?vb4) rfl (by kernel_rfl) (by kernel_rfl) (by kernel_rfl) (fun _ _ _ h => h) (Or.inl ⟨by rfl, ?yb4⟩) hHeld ?rb4
          case yb4 => (intro w hSw; (try dsimp only at hSw); go_simp; try with_reducible rfl)
          try simp only [Act.put, List.setIfInBounds_toArray, List.set_cons_zero, List.set_cons_succ]
          refine wpAnyH_take (i := 4) (oi := { dst := some 44, op := Op.load 3 (Operand.tmp 43), type := 3, pos := "law.go:68", after := #[{ on := 3, ground := Ground.data }], guard := none }) (v := ?vb5) rfl (by kernel_rfl) (by kernel_rfl) (by kernel_rfl) (fun _ _ _ h => h) (Or.inl ⟨by rfl, ?yb5⟩) hHeld ?rb5
          case yb5 => (intro w hSw; (try dsimp only at hSw); go_simp; try with_reducible rfl)
          try simp only [Act.put, List.setIfInBounds_toArray, List.set_cons_zero, List.set_cons_succ]
          refine wpAnyH_take (i := 6) (oi := { dst := some 46, op := Op.fieldAddr 51 (Operand.tmp 7) 3, type := 0, pos := "law.go:68", after := #[], guard := none }) (v := ?vb6) rfl (by kernel_rfl) (by kernel_rfl) (by kernel_rfl) (fun _ _ _ h => h) (Or.inl ⟨by rfl, ?yb6⟩) hHeld ?rb6
          case yb6 => (intro w hSw; (try dsimp only at hSw); go_simp; try with_reducible rfl)
          try simp only [Act.put, List.setIfInBounds_toArray, List.set_cons_zero, List.set_cons_succ]
          refine wpAnyH_take (i := 7) (oi := { dst := some 47, op := Op.fieldAddr 23 (Operand.tmp 46) 1, type := 0, pos := "law.go:68", after := #[{ on := 6, ground := Ground.data }], guard := none }) (v := ?vb7) rfl (by kernel_rfl) (by kernel_rfl) (by kernel_rfl) (fun _ _ _ h => h) (Or.inl ⟨by rfl, ?yb7⟩) hHeld ?rb7
          case yb7 => (intro w hSw; (try dsimp only at hSw); go_simp; try with_reducible rfl)
          try simp only [Act.put, List.setIfInBounds_toArray, List.set_cons_zero, List.set_cons_succ]
          refine wpAnyH_take (i := 8) (oi := { dst := some 48, op := Op.load 3 (Operand.tmp 47), type := 3, pos := "law.go:68", after := #[{ on := 7, ground := Ground.data }], guard := none }) (v := ?vb8) rfl (by kernel_rfl) (by kernel_rfl) (by kernel_rfl) (fun _ _ _ h => h) (Or.inl ⟨by rfl, ?yb8⟩) hHeld ?rb8
          case yb8 => (intro w hSw; (try dsimp only at hSw); go_simp; try with_reducible rfl)
          try simp only [Act.put, List.setIfInBounds_toArray, List.set_cons_zero, List.set_cons_succ]
          refine wpAnyH_take (i := 9) (oi := { dst := some 49, op := Op.fieldAddr 51 (Operand.tmp 7) 3, type := 0, pos := "law.go:68", after := #[], guard := none }) (v := ?vb9) rfl (by kernel_rfl) (by kernel_rfl) (by kernel_rfl) (fun _ _ _ h => h) (Or.inl ⟨by rfl, ?yb9⟩) hHeld ?rb9
          case yb9 => (intro w hSw; (try dsimp only at hSw); go_simp; try with_reducible rfl)
          try simp only [Act.put, List.setIfInBounds_toArray, List.set_cons_zero, List.set_cons_succ]
          refine wpAnyH_take (i := 10) (oi := { dst := some 50, op := Op.fieldAddr 23 (Operand.tmp 49) 2, type := 0, pos := "law.go:68", after := #[{ on := 9, ground := Ground.data }], guard := none }) (v := ?vb10) rfl (by kernel_rfl) (by kernel_rfl) (by kernel_rfl) (fun _ _ _ h => h) (Or.inl ⟨by rfl, ?yb10⟩) hHeld ?rb10
          case yb10 => (intro w hSw; (try dsimp only at hSw); go_simp; try with_reducible rfl)
          try simp only [Act.put, List.setIfInBounds_toArray, List.set_cons_zero, List.set_cons_succ]
          refine wpAnyH_take (i := 11) (oi := { dst := some 51, op := Op.load 3 (Operand.tmp 50), type := 3, pos := "law.go:68", after := #[{ on := 10, ground := Ground.data }], guard := none }) (v := ?vb11) rfl (by kernel_rfl) (by kernel_rfl) (by kernel_rfl) (fun _ _ _ h => h) (Or.inl ⟨by rfl, ?yb11⟩) hHeld ?rb11
          case yb11 => (intro w hSw; (try dsimp only at hSw); go_simp; try with_reducible rfl)
          try simp only [Act.put, List.setIfInBounds_toArray, List.set_cons_zero, List.set_cons_succ]
          refine wpAnyH_ready (rs := [5, 16]) (by kernel_rfl) (by simp) ?_
          refine AllReadyH.cons (o := { dst := some 45, op := Op.call { callee := Callee.value (Operand.func 14), args := #[Operand.tmp 40, Operand.tmp 42, Operand.tmp 44], argTypes := #[36, 33, 3] }, type := 23, pos := "law.go:68", after := #[{ on := 0, ground := Ground.data }, { on := 2, ground := Ground.data }, { on := 4, ground := Ground.data }], guard := none }) rfl (fun K hK => ?_) ?_
          · clear hHeld
            go_simp
            go_at_call 14
            first
              | (refine (CG2.out _ (HB8.out.trans (E0.out.mono HB8.out.size))).mono ?_; rintro e w5 ⟨rfl, hb5⟩; have G5 := Lib.hid (E0.out.trans (hb5.mono E0.out.size)))
              | (refine (CG2.out _ (HB8.out.trans (E0a.out.mono HB8.out.size))).mono ?_; rintro e w5 ⟨rfl, hb5⟩; have G5 := Lib.hid (E0a.out.trans (hb5.mono E0a.out.size)); have A5 := Lib.hid ((show Lw_.Box (wc.alloc (.cells #[.bool false, .int .i64 0, .int .i64 0] 23)).drew wc.heap.size zl from Lw_.Box.new wc zl).below hb5 (by simp)))
            clear hb5
            refine hK.out _ _ ?_ (fun hHeld => ?_)
            · first | exact HLIM2.out _ E0a.out | exact HLIM2.out _ E0.out | exact HLIM2.out _ G5.out | exact HLIM2.out _ (G5.out.alloc G5.out.size _) | exact HLIM2.out _ N6.out | exact HLIM2.out _ (N6.out.alloc N6.out.size _) | exact HLIM2.out _ (below_setRow N6.out (Nat.le_refl _) _) | exact HLIM2.out _ (below_setRow N6.out G5.out.size _)
            clear hK K
            try simp only [Act.put, List.setIfInBounds_toArray, List.set_cons_zero, List.set_cons_succ]
            refine wpAnyH_ready (rs := [12, 16]) (by kernel_rfl) (by simp) ?_
            refine AllReadyH.cons (o := { dst := some 52, op := Op.call { callee := Callee.value (Operand.func 9), args := #[Operand.tmp 45, Operand.tmp 48, Operand.tmp 51], argTypes := #[23, 3, 3] }, type := 24, pos := "law.go:68", after := #[{ on := 5, ground := Ground.data }, { on := 8, ground := Ground.data }, { on := 11, ground := Ground.data }, { on := 5, ground := Ground.chain }], guard := none }) rfl (fun K hK => ?_) ?_
            · clear hHeld
              go_simp
              go_at_call 9
              refine (CN2.out _).mono ?_
              rintro e w6 ⟨rfl, hb6⟩
              have N6 : Hid (Below wc.heap.size wc w6) := (by first | exact G5.out.trans (hb6.mono G5.out.size) | exact (G5.out.alloc G5.out.size (.cells #[.bool false, .int .i64 0, .int .i64 0] 23)).trans (hb6.mono (Nat.le_trans G5.out.size (by simp))))
              first
                | (have A6 := Lib.hid (A5.out.below hb6 A5.out.lt); have sA := A6.out.storeF y)
                | (have A6 := Lib.hid ((show Lw_.Box (w5.alloc (.cells #[.bool false, .int .i64 0, .int .i64 0] 23)) w5.heap.size zl from Lw_.Box.new w5 zl).below hb6 (by simp)); have sA := A6.out.storeF y)
                | skip
              clear hb6
              refine hK.out _ _ ?_ (fun hHeld => ?_)
              · first | exact HLIM2.out _ E0a.out | exact HLIM2.out _ E0.out | exact HLIM2.out _ G5.out | exact HLIM2.out _ (G5.out.alloc G5.out.size _) | exact HLIM2.out _ N6.out | exact HLIM2.out _ (N6.out.alloc N6.out.size _) | exact HLIM2.out _ (below_setRow N6.out (Nat.le_refl _) _) | exact HLIM2.out _ (below_setRow N6.out G5.out.size _)
              clear hK K
              try simp only [Act.put, List.setIfInBounds_toArray, List.set_cons_zero, List.set_cons_succ]
              refine wpAnyH_take (i := 13) (oi := { dst := some 39, op := Op.move (Operand.tmp 52), type := 24, pos := "law.go:68", after := #[{ on := 12, ground := Ground.data }], guard := none }) (v := ?vb12) rfl (by kernel_rfl) (by kernel_rfl) (by kernel_rfl) (fun _ _ _ h => h) (Or.inl ⟨by rfl, ?yb12⟩) hHeld ?rb12
              case yb12 => (intro w hSw; (try dsimp only at hSw); go_simp; try with_reducible rfl)
              try simp only [Act.put, List.setIfInBounds_toArray, List.set_cons_zero, List.set_cons_succ]
              refine wpAnyH_take (i := 14) (oi := { dst := some 53, op := Op.extract (Operand.tmp 39) 0, type := 23, pos := "law.go:68", after := #[{ on := 13, ground := Ground.data }], guard := none }) (v := ?vb13) rfl (by kernel_rfl) (by kernel_rfl) (by kernel_rfl) (fun _ _ _ h => h) (Or.inl ⟨by rfl, ?yb13⟩) hHeld ?rb13
              case yb13 => (intro w hSw; (try dsimp only at hSw); go_simp; try with_reducible rfl)
              try simp only [Act.put, List.setIfInBounds_toArray, List.set_cons_zero, List.set_cons_succ]
              refine wpAnyH_take (i := 15) (oi := { dst := some 54, op := Op.extract (Operand.tmp 39) 1, type := 3, pos := "law.go:68", after := #[{ on := 13, ground := Ground.data }, { on := 17, ground := Ground.gcOnly Departure.lateStores }], guard := none }) (v := ?vb14) rfl (by kernel_rfl) (by kernel_rfl) (by kernel_rfl) (fun _ _ _ h => h) (Or.inl ⟨by rfl, ?yb14⟩) hHeld ?rb14
              case yb14 => (intro w hSw; (try dsimp only at hSw); go_simp; try with_reducible rfl)
              try simp only [Act.put, List.setIfInBounds_toArray, List.set_cons_zero, List.set_cons_succ]
              refine wpAnyH_ready (rs := [16]) (by kernel_rfl) (by simp) ?_
              refine AllReadyH.cons (o := { dst := some 10, op := Op.alloc 23, type := 0, pos := "law.go:68", after := #[], guard := none }) rfl (fun K hK => ?_) ?_
              · clear hHeld
                go_simp
                refine hK.out _ _ ?_ (fun hHeld => ?_)
                · first | exact HLIM2.out _ E0a.out | exact HLIM2.out _ E0.out | exact HLIM2.out _ G5.out | exact HLIM2.out _ (G5.out.alloc G5.out.size _) | exact HLIM2.out _ N6.out | exact HLIM2.out _ (N6.out.alloc N6.out.size _) | exact HLIM2.out _ (below_setRow N6.out (Nat.le_refl _) _) | exact HLIM2.out _ (below_setRow N6.out G5.out.size _)
                clear hK K
                try simp only [Act.put, List.setIfInBounds_toArray, List.set_cons_zero, List.set_cons_succ]
                refine wpAnyH_ready (rs := [17]) (by kernel_rfl) (by simp) ?_
                refine AllReadyH.cons (o := { dst := none, op := Op.store 23 (Operand.tmp 10) (Operand.tmp 53), type := 0, pos := "law.go:68", after := #[{ on := 16, ground := Ground.data }, { on := 14, ground := Ground.data }, { on := 12, ground := Ground.chain }, { on := 0, ground := Ground.phase }, { on := 1, ground := Ground.phase }, { on := 2, ground := Ground.phase }, { on := 3, ground := Ground.phase }, { on := 4, ground := Ground.phase }, { on := 5, ground := Ground.phase }, { on := 6, ground := Ground.phase }, { on := 7, ground := Ground.phase }, { on := 8, ground := Ground.phase }, { on := 9, ground := Ground.phase }, { on := 10, ground := Ground.phase }, { on := 11, ground := Ground.phase }, { on := 12, ground := Ground.phase }, { on := 13, ground := Ground.phase }, { on := 14, ground := Ground.phase }, { on := 15, ground := Ground.textOnly Departure.lateStores }, { on := 16, ground := Ground.phase }], guard := none }) rfl (fun K hK => ?_) ?_
                · clear hHeld
                  go_simp
                  refine hK.out _ _ ?_ (fun hHeld => ?_)
                  · first | exact HLIM2.out _ E0a.out | exact HLIM2.out _ E0.out | exact HLIM2.out _ G5.out | exact HLIM2.out _ (G5.out.alloc G5.out.size _) | exact HLIM2.out _ N6.out | exact HLIM2.out _ (N6.out.alloc N6.out.size _) | exact HLIM2.out _ (below_setRow N6.out (Nat.le_refl _) _) | exact HLIM2.out _ (below_setRow N6.out G5.out.size _)
                  clear hK K
                  try simp only [Act.put, List.setIfInBounds_toArray, List.set_cons_zero, List.set_cons_succ]
                  refine wpAnyH_take (i := 18) (oi := { dst := some 11, op := Op.assign (Operand.tmp 54), type := 3, pos := "law.go:68", after := #[{ on := 15, ground := Ground.data }, { on := 17, ground := Ground.chain }, { on := 0, ground := Ground.phase }, { on := 1, ground := Ground.phase }, { on := 2, ground := Ground.phase }, { on := 3, ground := Ground.phase }, { on := 4, ground := Ground.phase }, { on := 5, ground := Ground.phase }, { on := 6, ground := Ground.phase }, { on := 7, ground := Ground.phase }, { on := 8, ground := Ground.phase }, { on := 9, ground := Ground.phase }, { on := 10, ground := Ground.phase }, { on := 11, ground := Ground.phase }, { on := 12, ground := Ground.phase }, { on := 13, ground := Ground.phase }, { on := 14, ground := Ground.phase }, { on := 15, ground := Ground.phase }, { on := 16, ground := Ground.phase }, { on := 17, ground := Ground.phase }], guard := none }) (v := ?vb15) rfl (by kernel_rfl) (by kernel_rfl) (by kernel_rfl) (fun _ _ _ h => h) (Or.inl ⟨by rfl, ?yb15⟩) hHeld ?rb15
                  case yb15 => (intro w hSw; (try dsimp only at hSw); go_simp; try with_reducible rfl)
                  try simp only [Act.put, List.setIfInBounds_toArray, List.set_cons_zero, List.set_cons_succ]
                  refine wpAnyH_done (by kernel_rfl) ?_ _
                  go_wp2_with fail
                  go_meet
                  first
                    | exact ⟨_, rfl, rfl, HB8.out.size, A6.out.setRow y, below_setRow N6.out (Nat.le_refl _) _⟩
                    | exact ⟨_, rfl, rfl, Nat.le_trans HB8.out.size G5.out.size, A6.out.setRow y, below_setRow N6.out G5.out.size _⟩
                    | exact ⟨_, rfl, rfl, Nat.le_trans HB8.out.size N6.out.size, Lw_.Box.new _ y, N6.out.alloc N6.out.size _⟩
                exact AllReadyH.nil
              exact AllReadyH.nil
            refine AllReadyH.cons (o := { dst := some 10, op := Op.alloc 23, type := 0, pos := "law.go:68", after := #[], guard := none }) rfl (fun K hK => ?_) ?_
            · clear hHeld
              go_simp
              refine hK.out _ _ ?_ (fun hHeld => ?_)
              · first | exact HLIM2.out _ E0a.out | exact HLIM2.out _ E0.out | exact HLIM2.out _ G5.out | exact HLIM2.out _ (G5.out.alloc G5.out.size _) | exact HLIM2.out _ N6.out | exact HLIM2.out _ (N6.out.alloc N6.out.size _) | exact HLIM2.out _ (below_setRow N6.out (Nat.le_refl _) _) | exact HLIM2.out _ (below_setRow N6.out G5.out.size _)
              clear hK K
              try simp only [Act.put, List.setIfInBounds_toArray, List.set_cons_zero, List.set_cons_succ]
              refine wpAnyH_ready (rs := [12]) (by kernel_rfl) (by simp) ?_
              refine AllReadyH.cons (o := { dst := some 52, op := Op.call { callee := Callee.value (Operand.func 9), args := #[Operand.tmp 45, Operand.tmp 48, Operand.tmp 51], argTypes := #[23, 3, 3] }, type := 24, pos := "law.go:68", after := #[{ on := 5, ground := Ground.data }, { on := 8, ground := Ground.data }, { on := 11, ground := Ground.data }, { on := 5, ground := Ground.chain }], guard := none }) rfl (fun K hK => ?_) ?_
              · clear hHeld
                go_simp
                go_at_call 9
                refine (CN2.out _).mono ?_
                rintro e w6 ⟨rfl, hb6⟩
                have N6 : Hid (Below wc.heap.size wc w6) := (by first | exact G5.out.trans (hb6.mono G5.out.size) | exact (G5.out.alloc G5.out.size (.cells #[.bool false, .int .i64 0, .int .i64 0] 23)).trans (hb6.mono (Nat.le_trans G5.out.size (by simp))))
                first
                  | (have A6 := Lib.hid (A5.out.below hb6 A5.out.lt); have sA := A6.out.storeF y)
                  | (have A6 := Lib.hid ((show Lw_.Box (w5.alloc (.cells #[.bool false, .int .i64 0, .int .i64 0] 23)) w5.heap.size zl from Lw_.Box.new w5 zl).below hb6 (by simp)); have sA := A6.out.storeF y)
                  | skip
                clear hb6
                refine hK.out _ _ ?_ (fun hHeld => ?_)
                · first | exact HLIM2.out _ E0a.out | exact HLIM2.out _ E0.out | exact HLIM2.out _ G5.out | exact HLIM2.out _ (G5.out.alloc G5.out.size _) | exact HLIM2.out _ N6.out | exact HLIM2.out _ (N6.out.alloc N6.out.size _) | exact HLIM2.out _ (below_setRow N6.out (Nat.le_refl _) _) | exact HLIM2.out _ (below_setRow N6.out G5.out.size _)
                clear hK K
                try simp only [Act.put, List.setIfInBounds_toArray, List.set_cons_zero, List.set_cons_succ]
                refine wpAnyH_take (i := 13) (oi := { dst := some 39, op := Op.move (Operand.tmp 52), type := 24, pos := "law.go:68", after := #[{ on := 12, ground := Ground.data }], guard := none }) (v := ?vb16) rfl (by kernel_rfl) (by kernel_rfl) (by kernel_rfl) (fun _ _ _ h => h) (Or.inl ⟨by rfl, ?yb16⟩) hHeld ?rb16
                case yb16 => (intro w hSw; (try dsimp only at hSw); go_simp; try with_reducible rfl)
                try simp only [Act.put, List.setIfInBounds_toArray, List.set_cons_zero, List.set_cons_succ]
                refine wpAnyH_take (i := 14) (oi := { dst := some 53, op := Op.extract (Operand.tmp 39) 0, type := 23, pos := "law.go:68", after := #[{ on := 13, ground := Ground.data }], guard := none }) (v := ?vb17) rfl (by kernel_rfl) (by kernel_rfl) (by kernel_rfl) (fun _ _ _ h => h) (Or.inl ⟨by rfl, ?yb17⟩) hHeld ?rb17
                case yb17 => (intro w hSw; (try dsimp only at hSw); go_simp; try with_reducible rfl)
                try simp only [Act.put, List.setIfInBounds_toArray, List.set_cons_zero, List.set_cons_succ]
                refine wpAnyH_take (i := 15) (oi := { dst := some 54, op := Op.extract (Operand.tmp 39) 1, type := 3, pos := "law.go:68", after := #[{ on := 13, ground := Ground.data }, { on := 17, ground := Ground.gcOnly Departure.lateStores }], guard := none }) (v := ?vb18) rfl (by kernel_rfl) (by kernel_rfl) (by kernel_rfl) (fun _ _ _ h => h) (Or.inl ⟨by rfl, ?yb18⟩) hHeld ?rb18
                case yb18 => (intro w hSw; (try dsimp only at hSw); go_simp; try with_reducible rfl)
                try simp only [Act.put, List.setIfInBounds_toArray, List.set_cons_zero, List.set_cons_succ]
                refine wpAnyH_ready (rs := [17]) (by kernel_rfl) (by simp) ?_
                refine AllReadyH.cons (o := { dst := none, op := Op.store 23 (Operand.tmp 10) (Operand.tmp 53), type := 0, pos := "law.go:68", after := #[{ on := 16, ground := Ground.data }, { on := 14, ground := Ground.data }, { on := 12, ground := Ground.chain }, { on := 0, ground := Ground.phase }, { on := 1, ground := Ground.phase }, { on := 2, ground := Ground.phase }, { on := 3, ground := Ground.phase }, { on := 4, ground := Ground.phase }, { on := 5, ground := Ground.phase }, { on := 6, ground := Ground.phase }, { on := 7, ground := Ground.phase }, { on := 8, ground := Ground.phase }, { on := 9, ground := Ground.phase }, { on := 10, ground := Ground.phase }, { on := 11, ground := Ground.phase }, { on := 12, ground := Ground.phase }, { on := 13, ground := Ground.phase }, { on := 14, ground := Ground.phase }, { on := 15, ground := Ground.textOnly Departure.lateStores }, { on := 16, ground := Ground.phase }], guard := none }) rfl (fun K hK => ?_) ?_
                · clear hHeld
                  go_simp
                  refine hK.out _ _ ?_ (fun hHeld => ?_)
                  · first | exact HLIM2.out _ E0a.out | exact HLIM2.out _ E0.out | exact HLIM2.out _ G5.out | exact HLIM2.out _ (G5.out.alloc G5.out.size _) | exact HLIM2.out _ N6.out | exact HLIM2.out _ (N6.out.alloc N6.out.size _) | exact HLIM2.out _ (below_setRow N6.out (Nat.le_refl _) _) | exact HLIM2.out _ (below_setRow N6.out G5.out.size _)
                  clear hK K
                  try simp only [Act.put, List.setIfInBounds_toArray, List.set_cons_zero, List.set_cons_succ]
                  refine wpAnyH_take (i := 18) (oi := { dst := some 11, op := Op.assign (Operand.tmp 54), type := 3, pos := "law.go:68", after := #[{ on := 15, ground := Ground.data }, { on := 17, ground := Ground.chain }, { on := 0, ground := Ground.phase }, { on := 1, ground := Ground.phase }, { on := 2, ground := Ground.phase }, { on := 3, ground := Ground.phase }, { on := 4, ground := Ground.phase }, { on := 5, ground := Ground.phase }, { on := 6, ground := Ground.phase }, { on := 7, ground := Ground.phase }, { on := 8, ground := Ground.phase }, { on := 9, ground := Ground.phase }, { on := 10, ground := Ground.phase }, { on := 11, ground := Ground.phase }, { on := 12, ground := Ground.phase }, { on := 13, ground := Ground.phase }, { on := 14, ground := Ground.phase }, { on := 15, ground := Ground.phase }, { on := 16, ground := Ground.phase }, { on := 17, ground := Ground.phase }], guard := none }) (v := ?vb19) rfl (by kernel_rfl) (by kernel_rfl) (by kernel_rfl) (fun _ _ _ h => h) (Or.inl ⟨by rfl, ?yb19⟩) hHeld ?rb19
                  case yb19 => (intro w hSw; (try dsimp only at hSw); go_simp; try with_reducible rfl)
                  try simp only [Act.put, List.setIfInBounds_toArray, List.set_cons_zero, List.set_cons_succ]
                  refine wpAnyH_done (by kernel_rfl) ?_ _
                  go_wp2_with fail
                  go_meet
                  first
                    | exact ⟨_, rfl, rfl, HB8.out.size, A6.out.setRow y, below_setRow N6.out (Nat.le_refl _) _⟩
                    | exact ⟨_, rfl, rfl, Nat.le_trans HB8.out.size G5.out.size, A6.out.setRow y, below_setRow N6.out G5.out.size _⟩
                    | exact ⟨_, rfl, rfl, Nat.le_trans HB8.out.size N6.out.size, Lw_.Box.new _ y, N6.out.alloc N6.out.size _⟩
                exact AllReadyH.nil
              exact AllReadyH.nil
            exact AllReadyH.nil
          refine AllReadyH.cons (o := { dst := some 10, op := Op.alloc 23, type := 0, pos := "law.go:68", after := #[], guard := none }) rfl (fun K hK => ?_) ?_
          · clear hHeld
            go_simp
            refine hK.out _ _ ?_ (fun hHeld => ?_)
            · first | exact HLIM2.out _ E0a.out | exact HLIM2.out _ E0.out | exact HLIM2.out _ G5.out | exact HLIM2.out _ (G5.out.alloc G5.out.size _) | exact HLIM2.out _ N6.out | exact HLIM2.out _ (N6.out.alloc N6.out.size _) | exact HLIM2.out _ (below_setRow N6.out (Nat.le_refl _) _) | exact HLIM2.out _ (below_setRow N6.out G5.out.size _)
            clear hK K
            try simp only [Act.put, List.setIfInBounds_toArray, List.set_cons_zero, List.set_cons_succ]
            refine wpAnyH_ready (rs := [5]) (by kernel_rfl) (by simp) ?_
            refine AllReadyH.cons (o := { dst := some 45, op := Op.call { callee := Callee.value (Operand.func 14), args := #[Operand.tmp 40, Operand.tmp 42, Operand.tmp 44], argTypes := #[36, 33, 3] }, type := 23, pos := "law.go:68", after := #[{ on := 0, ground := Ground.data }, { on := 2, ground := Ground.data }, { on := 4, ground := Ground.data }], guard := none }) rfl (fun K hK => ?_) ?_
            · clear hHeld
              go_simp
              go_at_call 14
              first
                | (refine (CG2.out _ (HB8.out.trans (E0.out.mono HB8.out.size))).mono ?_; rintro e w5 ⟨rfl, hb5⟩; have G5 := Lib.hid (E0.out.trans (hb5.mono E0.out.size)))
                | (refine (CG2.out _ (HB8.out.trans (E0a.out.mono HB8.out.size))).mono ?_; rintro e w5 ⟨rfl, hb5⟩; have G5 := Lib.hid (E0a.out.trans (hb5.mono E0a.out.size)); have A5 := Lib.hid ((show Lw_.Box (wc.alloc (.cells #[.bool false, .int .i64 0, .int .i64 0] 23)).drew wc.heap.size zl from Lw_.Box.new wc zl).below hb5 (by simp)))
              clear hb5
              refine hK.out _ _ ?_ (fun hHeld => ?_)
              · first | exact HLIM2.out _ E0a.out | exact HLIM2.out _ E0.out | exact HLIM2.out _ G5.out | exact HLIM2.out _ (G5.out.alloc G5.out.size _) | exact HLIM2.out _ N6.out | exact HLIM2.out _ (N6.out.alloc N6.out.size _) | exact HLIM2.out _ (below_setRow N6.out (Nat.le_refl _) _) | exact HLIM2.out _ (below_setRow N6.out G5.out.size _)
              clear hK K
              try simp only [Act.put, List.setIfInBounds_toArray, List.set_cons_zero, List.set_cons_succ]
              refine wpAnyH_ready (rs := [12]) (by kernel_rfl) (by simp) ?_
              refine AllReadyH.cons (o := { dst := some 52, op := Op.call { callee := Callee.value (Operand.func 9), args := #[Operand.tmp 45, Operand.tmp 48, Operand.tmp 51], argTypes := #[23, 3, 3] }, type := 24, pos := "law.go:68", after := #[{ on := 5, ground := Ground.data }, { on := 8, ground := Ground.data }, { on := 11, ground := Ground.data }, { on := 5, ground := Ground.chain }], guard := none }) rfl (fun K hK => ?_) ?_
              · clear hHeld
                go_simp
                go_at_call 9
                refine (CN2.out _).mono ?_
                rintro e w6 ⟨rfl, hb6⟩
                have N6 : Hid (Below wc.heap.size wc w6) := (by first | exact G5.out.trans (hb6.mono G5.out.size) | exact (G5.out.alloc G5.out.size (.cells #[.bool false, .int .i64 0, .int .i64 0] 23)).trans (hb6.mono (Nat.le_trans G5.out.size (by simp))))
                first
                  | (have A6 := Lib.hid (A5.out.below hb6 A5.out.lt); have sA := A6.out.storeF y)
                  | (have A6 := Lib.hid ((show Lw_.Box (w5.alloc (.cells #[.bool false, .int .i64 0, .int .i64 0] 23)) w5.heap.size zl from Lw_.Box.new w5 zl).below hb6 (by simp)); have sA := A6.out.storeF y)
                  | skip
                clear hb6
                refine hK.out _ _ ?_ (fun hHeld => ?_)
                · first | exact HLIM2.out _ E0a.out | exact HLIM2.out _ E0.out | exact HLIM2.out _ G5.out | exact HLIM2.out _ (G5.out.alloc G5.out.size _) | exact HLIM2.out _ N6.out | exact HLIM2.out _ (N6.out.alloc N6.out.size _) | exact HLIM2.out _ (below_setRow N6.out (Nat.le_refl _) _) | exact HLIM2.out _ (below_setRow N6.out G5.out.size _)
                clear hK K
                try simp only [Act.put, List.setIfInBounds_toArray, List.set_cons_zero, List.set_cons_succ]
                refine wpAnyH_take (i := 13) (oi := { dst := some 39, op := Op.move (Operand.tmp 52), type := 24, pos := "law.go:68", after := #[{ on := 12, ground := Ground.data }], guard := none }) (v := ?vb20) rfl (by kernel_rfl) (by kernel_rfl) (by kernel_rfl) (fun _ _ _ h => h) (Or.inl ⟨by rfl, ?yb20⟩) hHeld ?rb20
                case yb20 => (intro w hSw; (try dsimp only at hSw); go_simp; try with_reducible rfl)
                try simp only [Act.put, List.setIfInBounds_toArray, List.set_cons_zero, List.set_cons_succ]
                refine wpAnyH_take (i := 14) (oi := { dst := some 53, op := Op.extract (Operand.tmp 39) 0, type := 23, pos := "law.go:68", after := #[{ on := 13, ground := Ground.data }], guard := none }) (v := ?vb21) rfl (by kernel_rfl) (by kernel_rfl) (by kernel_rfl) (fun _ _ _ h => h) (Or.inl ⟨by rfl, ?yb21⟩) hHeld ?rb21
                case yb21 => (intro w hSw; (try dsimp only at hSw); go_simp; try with_reducible rfl)
                try simp only [Act.put, List.setIfInBounds_toArray, List.set_cons_zero, List.set_cons_succ]
                refine wpAnyH_take (i := 15) (oi := { dst := some 54, op := Op.extract (Operand.tmp 39) 1, type := 3, pos := "law.go:68", after := #[{ on := 13, ground := Ground.data }, { on := 17, ground := Ground.gcOnly Departure.lateStores }], guard := none }) (v := ?vb22) rfl (by kernel_rfl) (by kernel_rfl) (by kernel_rfl) (fun _ _ _ h => h) (Or.inl ⟨by rfl, ?yb22⟩) hHeld ?rb22
                case yb22 => (intro w hSw; (try dsimp only at hSw); go_simp; try with_reducible rfl)
                try simp only [Act.put, List.setIfInBounds_toArray, List.set_cons_zero, List.set_cons_succ]
                refine wpAnyH_ready (rs := [17]) (by kernel_rfl) (by simp) ?_
                refine AllReadyH.cons (o := { dst := none, op := Op.store 23 (Operand.tmp 10) (Operand.tmp 53), type := 0, pos := "law.go:68", after := #[{ on := 16, ground := Ground.data }, { on := 14, ground := Ground.data }, { on := 12, ground := Ground.chain }, { on := 0, ground := Ground.phase }, { on := 1, ground := Ground.phase }, { on := 2, ground := Ground.phase }, { on := 3, ground := Ground.phase }, { on := 4, ground := Ground.phase }, { on := 5, ground := Ground.phase }, { on := 6, ground := Ground.phase }, { on := 7, ground := Ground.phase }, { on := 8, ground := Ground.phase }, { on := 9, ground := Ground.phase }, { on := 10, ground := Ground.phase }, { on := 11, ground := Ground.phase }, { on := 12, ground := Ground.phase }, { on := 13, ground := Ground.phase }, { on := 14, ground := Ground.phase }, { on := 15, ground := Ground.textOnly Departure.lateStores }, { on := 16, ground := Ground.phase }], guard := none }) rfl (fun K hK => ?_) ?_
                · clear hHeld
                  go_simp
                  refine hK.out _ _ ?_ (fun hHeld => ?_)
                  · first | exact HLIM2.out _ E0a.out | exact HLIM2.out _ E0.out | exact HLIM2.out _ G5.out | exact HLIM2.out _ (G5.out.alloc G5.out.size _) | exact HLIM2.out _ N6.out | exact HLIM2.out _ (N6.out.alloc N6.out.size _) | exact HLIM2.out _ (below_setRow N6.out (Nat.le_refl _) _) | exact HLIM2.out _ (below_setRow N6.out G5.out.size _)
                  clear hK K
                  try simp only [Act.put, List.setIfInBounds_toArray, List.set_cons_zero, List.set_cons_succ]
                  refine wpAnyH_take (i := 18) (oi := { dst := some 11, op := Op.assign (Operand.tmp 54), type := 3, pos := "law.go:68", after := #[{ on := 15, ground := Ground.data }, { on := 17, ground := Ground.chain }, { on := 0, ground := Ground.phase }, { on := 1, ground := Ground.phase }, { on := 2, ground := Ground.phase }, { on := 3, ground := Ground.phase }, { on := 4, ground := Ground.phase }, { on := 5, ground := Ground.phase }, { on := 6, ground := Ground.phase }, { on := 7, ground := Ground.phase }, { on := 8, ground := Ground.phase }, { on := 9, ground := Ground.phase }, { on := 10, ground := Ground.phase }, { on := 11, ground := Ground.phase }, { on := 12, ground := Ground.phase }, { on := 13, ground := Ground.phase }, { on := 14, ground := Ground.phase }, { on := 15, ground := Ground.phase }, { on := 16, ground := Ground.phase }, { on := 17, ground := Ground.phase }], guard := none }) (v := ?vb23) rfl (by kernel_rfl) (by kernel_rfl) (by kernel_rfl) (fun _ _ _ h => h) (Or.inl ⟨by rfl, ?yb23⟩) hHeld ?rb23
                  case yb23 => (intro w hSw; (try dsimp only at hSw); go_simp; try with_reducible rfl)
                  try simp only [Act.put, List.setIfInBounds_toArray, List.set_cons_zero, List.set_cons_succ]
                  refine wpAnyH_done (by kernel_rfl) ?_ _
                  go_wp2_with fail
                  go_meet
                  first
                    | exact ⟨_, rfl, rfl, HB8.out.size, A6.out.setRow y, below_setRow N6.out (Nat.le_refl _) _⟩
                    | exact ⟨_, rfl, rfl, Nat.le_trans HB8.out.size G5.out.size, A6.out.setRow y, below_setRow N6.out G5.out.size _⟩
                    | exact ⟨_, rfl, rfl, Nat.le_trans HB8.out.size N6.out.size, Lw_.Box.new _ y, N6.out.alloc N6.out.size _⟩
                exact AllReadyH.nil
              exact AllReadyH.nil
            exact AllReadyH.nil
          exact AllReadyH.nil
        case rest =>
          obtain ⟨g10, rfl, rfl, hg10, hy10, hb10⟩ := hcut
          have HB10 := Lib.hid (HB8.out.trans (hb10.mono HB8.out.size))
          have Y10 := Lib.hid hy10
          have HG10 : Hid (g10 ≠ b) := by have := HBL1.out; show g10 ≠ b; omega
          have l8 := (HKY.out _ hb10).loadF
          have X10 := Lib.hid (X1.out.below HB10.out X1.out.lt)
          have a10 := X10.out.all
          clear hy10 hb10 hg10 CG2 CN2 HLIM2 HKY E0 E0a HLIM l1 a1
          go_wp2_with (first
            | (go_at_call 15; refine (CP.out _ HB10.out).mono ?_; rintro e w2 ⟨rfl, ht2, hg2⟩; have T2 := Lib.hid ht2; have S2 := Lib.hid ((S1.out.below HB10.out).grown hg2); have G2 := Lib.hid (grownBy_trans G1.out (grownBy_trans (grownBy_below (r := some b) HB10.out) hg2)); have a2 := (grownBy_oq hg2 X10.out HX1.out).all; have l2 := (grownBy_la hg2 Y10.out HG10.out).loadF; clear ht2 hg2)
            | (go_at_call 17; refine (CR.out _ S2.out T2.out.lt).mono ?_; rintro e w3 ⟨v3, c3, rfl, hs3, hb3⟩; have T3 := Lib.hid (T2.out.below hb3); have S3 := Lib.hid hs3; have G3 := Lib.hid (grownBy_trans G2.out (grownBy_below (r := some b) hb3)); clear hs3 hb3))
          go_roundw
          case rel => exact ⟨i + 1, v3, c3, by go_num, HM.out.2.2, by rw [HST.out], by rw [HST.out]; have := HLS.out; have := HLEN.out; omega, by rw [HST.out]; exact ⟨T3.out, S3.out, G3.out⟩⟩
          case measure => have := HM.out; simp [intOf]; omega
    · obtain rfl : i = l.length := by omega
      rw [List.take_length] at HR
      go_wp2
      go_returns
      exact ⟨v0, c', by rw [List.take_length]; rfl, HR.out⟩
end Go.Proofs.Ytacjdgglfeemcaa
