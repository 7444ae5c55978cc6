/-
  WALKS of the reference of layer 22: Missed (written by a generator: one tail for each branch).
-/
import Derived.Test.YtldeflpaghbmmaaWnRef7
import Derived.Deep.DeepCutAuto
import Derived.Deep.RegionHeld
import Derived.Deep.MidRow
namespace Go.Proofs.Ytldeflpaghbmmaa
open Go.RowKit Go.Wn Go.Sq Go.Wr
attribute [local go_sem ↓ high] Wv_.loadF Wv_.storeF Wv_.v_cells Wv_.v_match
attribute [local go_sem] Wv_.C0 Wv_.C1 Wv_.C2 Wv_.C3 Wv_.loadF_new Wv_.storeF_zero Oper.semAt_some

def mL (seqs : List Int) (lim : Int) (l : List Sn) (i : Nat) : List Sn := (chg (ms seqs) bump (l.take i)).filter (lft seqs lim)
def mI (seqs : List Int) (lim : Int) (l : List Sn) (i : Nat) : List Int := ids ((chg (ms seqs) bump (l.take i)).filter (lst seqs lim))
theorem mL_len (seqs : List Int) (lim : Int) (l : List Sn) (i : Nat) : (mL seqs lim l i).length ≤ l.length :=
  Nat.le_trans (List.length_filter_le _ _) (by rw [chg_len]; exact take_len22 _ _)
theorem mI_len (seqs : List Int) (lim : Int) (l : List Sn) (i : Nat) : (mI seqs lim l i).length ≤ l.length :=
  Nat.le_trans (ids_flt _ _) (by rw [chg_len]; exact take_len22 _ _)
theorem m_keep {seqs : List Int} {lim : Int} {l : List Sn} {i : Nat} (h : i < l.length) (hm : ms seqs l[i] = false) : mL seqs lim l (i + 1) = mL seqs lim l i ++ [l[i]] ∧ mI seqs lim l (i + 1) = mI seqs lim l i := by
  have h1 : lst seqs lim l[i] = false := by unfold lst; rw [hm]; rfl
  have h2 : lft seqs lim l[i] = true := by unfold lft; rw [h1]; rfl
  unfold mL mI ids
  rw [chg_take h, hm, if_neg (by simp), List.filter_append, List.filter_append]
  constructor
  · congr 1; simp [h2]
  · simp [h1]
theorem m_hit {seqs : List Int} {lim : Int} {l : List Sn} {i : Nat} (h : i < l.length) (hm : ms seqs l[i] = true) : (lim ≤ (bump l[i]).tr → mL seqs lim l (i + 1) = mL seqs lim l i ∧ mI seqs lim l (i + 1) = mI seqs lim l i ++ [l[i].id]) ∧
    (¬ lim ≤ (bump l[i]).tr → mL seqs lim l (i + 1) = mL seqs lim l i ++ [bump l[i]] ∧ mI seqs lim l (i + 1) = mI seqs lim l i) := by
  have hb : ms seqs (bump l[i]) = true := by
    have e : ms seqs (bump l[i]) = ms seqs l[i] := by unfold bump; split <;> rfl
    rw [e, hm]
  have hid : (bump l[i]).id = l[i].id := by unfold bump; split <;> rfl
  have h1 : lst seqs lim (bump l[i]) = decide (lim ≤ (bump l[i]).tr) := by unfold lst; rw [hb]; rfl
  have h2 : lft seqs lim (bump l[i]) = !decide (lim ≤ (bump l[i]).tr) := by unfold lft; rw [h1]
  unfold mL mI ids
  rw [chg_take h, if_pos hm, List.filter_append, List.filter_append]
  constructor
  · intro hc
    rw [decide_eq_true hc] at h1 h2
    constructor
    · simp [h2]
    · rw [List.map_append]; simp [h1, hid]
  · intro hc
    rw [decide_eq_false hc] at h1 h2
    constructor
    · congr 1; simp [h2]
    · simp [h1]
theorem mL_all (seqs : List Int) (lim : Int) (s : St) : missed s seqs lim = ({ s with l := trimL (mL seqs lim s.l s.l.length), rq := rqOf s (mI seqs lim s.l s.l.length) }, mI seqs lim s.l s.l.length) := by
  unfold mL mI
  rw [List.take_length]
  rfl
theorem bump_lt {h : Sn} (e : h.tr < 1073741824) : bump h = { h with tr := h.tr + 1 } := if_pos e
theorem bump_ge {h : Sn} (e : ¬ h.tr < 1073741824) : bump h = h := if_neg e
theorem rq_of22 {s : St} {I : List Int} {x : Wn} (h1 : x.rq = s.rq) (h2 : x.sz = s.sz) : rqOf s I = (x.rq || (decide (0 < I.length) && decide (x.sz ≠ 0))) := by
  unfold rqOf; rw [h1, h2]

/-- Behind the region that trims and lays the state: the state in the block g. -/
structure Mc (w : World) (x : Wn) (L : List Sn) (I : List Int) (su : Option Addr) (cu Z g : Nat) (sa' : Option Addr) (c' : Nat) (wx : World) : Prop where
  Y : Wv_.Box wx g ⟨x.nx, x.sz, sa', (trimL L).length, c', x.rq⟩
  T : TwoV w x zw wx
  S : Sn_.Sl wx sa' (trimL L) c'
  I : Is_.Sl wx su I cu
  HG : w.heap.size + 2 ≤ g
  LT : ∀ bb off, sa' = some ⟨bb, off, none⟩ → bb < Z
  HGW : Z ≤ g
  FT : Fr (w.heap.size + 2) sa'

theorem below_rowB {B : Nat} {w : World} {r : Nat} (hr : B ≤ r) (c : Array Value) : Below B w (w.setRow r c) :=
  ⟨rfl, rfl, rfl, by simp [World.setRow], fun k hk => Ww_.setRow_other (by omega) c⟩
theorem sl_row_ne {w : World} {sa : Option Addr} {l : List Sn} {c r : Nat} {cs : Array Value} (h : Sn_.Sl w sa l c) (hf : ∀ bb off, sa = some ⟨bb, off, none⟩ → bb ≠ r) : Sn_.Sl (w.setRow r cs) sa l c :=
  ⟨h.lies.block (by simp [World.setRow]) (fun bb off e => Ww_.setRow_other (hf bb off e) _), h.le, h.nil⟩
theorem is_row_ne {w : World} {sa : Option Addr} {l : List Int} {c r : Nat} {cs : Array Value} (h : Is_.Sl w sa l c) (hf : ∀ bb off, sa = some ⟨bb, off, none⟩ → bb ≠ r) : Is_.Sl (w.setRow r cs) sa l c :=
  ⟨h.lies.block (by simp [World.setRow]) (fun bb off e => Ww_.setRow_other (hf bb off e) _), h.le, h.nil⟩
theorem sl_cell_ne {w : World} {sa : Option Addr} {l : List Sn} {c : Nat} {a : Addr} {u : Value} (h : Sn_.Sl w sa l c) (hf : ∀ bb off, sa = some ⟨bb, off, none⟩ → bb ≠ a.block) : Sn_.Sl (w.setCell a u) sa l c :=
  ⟨h.lies.block (by simp [World.setCell]) (fun bb off e => Below.heap_setCell _ _ _ _ (hf bb off e)), h.le, h.nil⟩
theorem is_cell_ne {w : World} {sa : Option Addr} {l : List Int} {c : Nat} {a : Addr} {u : Value} (h : Is_.Sl w sa l c) (hf : ∀ bb off, sa = some ⟨bb, off, none⟩ → bb ≠ a.block) : Is_.Sl (w.setCell a u) sa l c :=
  ⟨h.lies.block (by simp [World.setCell]) (fun bb off e => Below.heap_setCell _ _ _ _ (hf bb off e)), h.le, h.nil⟩

set_option maxRecDepth 100000 in
set_option maxHeartbeats 16000000 in
theorem r22_missed_any (x : Wn) (s : St) (sq : Option Addr) (seqs : List Int) (cq : Nat) (lim : Int) (w : World) (hL : Lies w x s) (hl : s.l.length ≤ 1000) (hQ : Is_.Sl w sq seqs cq) (hq : seqs.length ≤ 1000) (ht : ∀ p ∈ s.l, 0 ≤ p.tr ∧ (0 ≤ p.q ∧ p.q < 4096)) :
    Calls Try.prog 30 #[Wv_.v x, .slice sq seqs.length cq, .int .i64 lim] w fun e w' => StIdsV (missed s seqs lim) w e w' := by
  obtain ⟨w1, hw1⟩ : ∃ w1, w.alloc (.cells (Wv_.C x) 24) = w1 := ⟨_, rfl⟩
  obtain ⟨w2, hw2⟩ : ∃ w2, w1.alloc (.cells (Wv_.C zw) 24) = w2 := ⟨_, rfl⟩
  have hw2' : w1.alloc (.cells #[.int .i64 0, .int .i64 0, .slice none 0 0, .bool false] 24) = w2 := hw2
  have z1 : w1.heap.size = w.heap.size + 1 := by rw [← hw1]; simp
  have z2 : w2.heap.size = w.heap.size + 2 := by rw [← hw2]; simp [z1]
  obtain ⟨w3, hw3⟩ : ∃ w3, w2.alloc (.cells #[] 76) = w3 := ⟨_, rfl⟩
  have z3 : w3.heap.size = w.heap.size + 3 := by rw [← hw3]; simp [z2]
  obtain ⟨w4, hw4⟩ : ∃ w4, w3.alloc (.cells #[] 3) = w4 := ⟨_, rfl⟩
  have T2 := TwoV.new hw1 hw2
  have b3 : Below w2.heap.size w2 w3 := hw3 ▸ (Below.refl _ _).alloc (Nat.le_refl _) _
  have b4 : Below w3.heap.size w3 w4 := hw4 ▸ (Below.refl _ _).alloc (Nat.le_refl _) _
  have O3 : w3.ownsRow (w.heap.size + 2) 76 5 (.slice (some ⟨w.heap.size + 2, 0, none⟩) 0 0) 0 (Sn_.flat []) := by
    have h := Sn_.owns_lit w2 [] (base := w.heap.size + 2) (by omega) (Nat.zero_le _)
    rw [z2] at h
    rw [← hw3]
    exact h
  have O4 : w4.ownsRow (w.heap.size + 2) 3 1 (.slice (some ⟨w.heap.size + 3, 0, none⟩) 0 0) 0 (Is_.vs []) := by
    have h := Is_.owns_lit w3 [] (base := w.heap.size + 2) (by omega) (Nat.zero_le _)
    rw [z3] at h
    rw [← hw4]
    exact h
  have R4 : Hid (Ra w x (.slice (some ⟨w.heap.size + 2, 0, none⟩) 0 0) (.slice (some ⟨w.heap.size + 3, 0, none⟩) 0 0) [] [] w4) := ⟨(T2.below b3).below b4, owns_below22 O3 b4, O4⟩
  have e1 := T2.bx.all
  have HI8 := Lib.hid (info_parts Sn_.info)
  have HI9 := Lib.hid (info_parts Is_.info)
  have HL := Lib.hid hL
  have HLN := Lib.hid hl
  obtain ⟨n, hn1⟩ : ∃ n, s.l.length = n := ⟨_, rfl⟩
  have hxn : x.n = n := hL.n.trans hn1
  have HN := Lib.hid hn1
  have CA := Lib.hid (fun (q : Int) W (hW : Below w.heap.size w W) (h : 0 ≤ q ∧ q < 4096) => r22_among_any sq seqs cq q W (hQ.below hW) hq h)
  have HT := Lib.hid ht
  have HD : Hid (missed s seqs lim = ({ s with l := trimL (mL seqs lim s.l n), rq := rqOf s (mI seqs lim s.l n) }, mI seqs lim s.l n)) := by show _ = _; rw [← hn1]; exact mL_all _ _ _
  clear T2 b3 b4 O3 O4 hL hl hn1 hw2 hQ hq ht
  go_enter Try.func30, Try.ntmps30
  go_wp2
  clear e1
  go_loopw [8, 9, 10] (fun v u z wr => ∃ i : Nat, z = .int .i64 i ∧ i ≤ n ∧ Hid (∃ sa c sb cb, v = .slice sa (mL seqs lim s.l i).length c ∧ u = .slice sb (mI seqs lim s.l i).length cb) ∧ Hid (Ra w x v u (mL seqs lim s.l i) (mI seqs lim s.l i) wr)) (fun _ _ z _ => n - (intOf z).toNat)
  case atStart => exact ⟨0, rfl, Nat.zero_le _, ⟨_, _, _, _, rfl, rfl⟩, R4⟩
  case round =>
    rename World => wr
    obtain ⟨i, rfl, hi, HV, HR⟩ := hrel
    obtain ⟨sv, cv, su, cu, rfl, rfl⟩ := HV.out
    have e1 := HR.out.two.bx.all
    have hi1 : i ≤ 1000 := by have := HLN.out; have := HN.out; omega
    by_cases hlt : i < n
    · have hil : i < s.l.length := by have := HN.out; omega
      obtain ⟨b, off, hsa, hbl, k0, k1, k2, k3, k4⟩ := HL.out.sl.lies i hil
      have c0 := (HR.out.two.bel.cell hbl).trans k0
      have c1 := (HR.out.two.bel.cell hbl).trans k1
      have c2 := (HR.out.two.bel.cell hbl).trans k2
      have c3 := (HR.out.two.bel.cell hbl).trans k3
      have c4 := (HR.out.two.bel.cell hbl).trans k4
      have hle : n ≤ x.c := by have := HL.out.sl.le; have := HN.out; omega
      have HK := Lib.hid (m_keep (seqs := seqs) (lim := lim) hil)
      have HH := Lib.hid (m_hit (seqs := seqs) (lim := lim) hil)
      have HP8 : Hid ((mL seqs lim s.l i).length ≤ 1000) := Nat.le_trans (mL_len _ _ _ _) HLN.out
      have HP9 : Hid ((mI seqs lim s.l i).length ≤ 1000) := Nat.le_trans (mI_len _ _ _ _) HLN.out
      have HMS : Hid (ms seqs s.l[i] = (!s.l[i].dn && amg seqs s.l[i].q)) := rfl
      have HTI := Lib.hid (HT.out s.l[i] (List.getElem_mem hil))
      have CAq := Lib.hid (CA.out s.l[i].q)
      have HLT := Lib.hid hlt
      have hi0 : (0 : Int) ≤ (i : Int) := by omega
      have hi2 : (i : Int) < (n : Int) := by omega
      generalize s.l[i] = h at *
      generalize hL1 : mL seqs lim s.l (i + 1) = L1 at *
      generalize hI1 : mI seqs lim s.l (i + 1) = I1 at *
      have HL1 := Lib.hid hL1
      have HI1 := Lib.hid hI1
      clear hL1 hI1
      generalize mL seqs lim s.l i = L at *
      generalize mI seqs lim s.l i = I at *
      generalize amg seqs h.q = AM at *
      obtain ⟨w5, hw5⟩ : ∃ w5, wr.alloc (.cells #[.int .i64 h.id, .int .i64 h.q, .int .i64 h.tr, .bool h.dn, .string h.da] 76) = w5 := ⟨_, rfl⟩
      have X5 := (show Sn_.Box w5 wr.heap.size h from hw5 ▸ Sn_.Box.new wr h rfl)
      have HX5 := Lib.hid X5
      have l5 := X5.load
      have e5 := X5.cells
      have f5 := X5.frozen
      have b5 : Below wr.heap.size wr w5 := hw5 ▸ (Below.refl _ _).alloc (Nat.le_refl _) _
      have R5 := Lib.hid (HR.out.keep b5)
      have CAi := Lib.hid (CAq.out w5 R5.out.two.bel HTI.out.2)
      have HM8 : Hid (L.length + 1 ≤ maxLen ∧ (L.length + 1) * 48 ≤ 140737488355328) := by
        have := HP8.out
        refine ⟨?_, by omega⟩
        unfold maxLen; omega
      have HM9 : Hid (I.length + 1 ≤ maxLen ∧ (I.length + 1) * 8 ≤ 140737488355328) := by
        have := HP9.out
        refine ⟨?_, by omega⟩
        unfold maxLen; omega
      have HZ := Lib.hid HR.out.two.size
      have ZR : Hid (wr.heap.size < w5.heap.size) := X5.lt
      clear k0 k1 k2 k3 k4 hbl hil X5
      by_cases hd : h.dn = true
      · have HE := Lib.hid (HK.out (by rw [HMS.out, hd]; rfl))
        have HCS : Hid (Sn_.cs h = [.int .i64 h.id, .int .i64 h.q, .int .i64 h.tr, .bool true, .string h.da]) := by unfold Sn_.cs; rw [hd]; exact rfl
        rw [hd] at c3 l5 e5 hw5
        clear HK HH HMS hd
        go_wp2_with (first
          | (at_builtin; obtain ⟨i0, hi0', hz0, hz1, hz2⟩ := HI8.out; refine wpList_append_own _ rfl _ _ 22 rfl (w.heap.size + 2) 76 i0 (.agg #[.int .i64 0, .int .i64 0, .int .i64 0, .bool false, .string ⟨#[]⟩]) 5 48 Try.underlying22 hi0' hz0 hz1 hz2 rfl (by decide) _ _ _ rfl (R5.out.alloc _).o8 ⟨w5.heap.size, 0, none⟩ 1 1 (Sn_.cs h) rfl rfl ?c1 (Sn_.flat_one _) HM8.out.1 HM8.out.2 ?c5 ?_))
        case c1 =>
          rw [HCS.out]
          intro j x hj
          match j, hj with
          | 0, hj => simp at hj; subst hj; simp [Addr.add]
          | 1, hj => simp at hj; subst hj; simp [Addr.add]
          | 2, hj => simp at hj; subst hj; simp [Addr.add]
          | 3, hj => simp at hj; subst hj; simp [Addr.add]
          | 4, hj => simp at hj; subst hj; simp [Addr.add]
        case c5 => have := R5.out.two.size; simp; omega
        intro v8 w8 hown8 hgrow hn'
        clear hi0' hz0 hz1 hz2
        obtain ⟨sv8, cv8, rfl⟩ := Sn_.slice_form hown8
        have R8 : Hid (Ra w x (.slice sv8 (L.length + 1) cv8) (.slice su I.length cu) (L ++ [h]) I w8) := by
          refine (R5.out.alloc _).app8 ?_ hgrow
          rw [Sn_.flat_snoc, List.length_append]
          exact hown8
        clear hown8 hgrow hn'
        go_wp2
        go_roundw
        case rel => exact ⟨i + 1, by go_num, HLT.out, by rw [HL1.out, HI1.out, HE.out.1, HE.out.2, List.length_append]; exact ⟨sv8, cv8, su, cu, rfl, rfl⟩, by rw [HL1.out, HI1.out, HE.out.1, HE.out.2]; exact R8⟩
        case measure => have := HLT.out; simp [intOf]; omega
      · have hd : h.dn = false := by simpa using hd
        cases AM
        · have HE := Lib.hid (HK.out (by rw [HMS.out, hd]; rfl))
          have HCS : Hid (Sn_.cs h = [.int .i64 h.id, .int .i64 h.q, .int .i64 h.tr, .bool false, .string h.da]) := by unfold Sn_.cs; rw [hd]; exact rfl
          rw [hd] at c3 l5 e5 hw5
          clear HK HH HMS hd
          go_wp2_with (first
            | (go_at_call 64; refine CAi.out.mono ?_; rintro e w' ⟨rfl, rfl⟩)
            | (at_builtin; obtain ⟨i0, hi0', hz0, hz1, hz2⟩ := HI8.out; refine wpList_append_own _ rfl _ _ 22 rfl (w.heap.size + 2) 76 i0 (.agg #[.int .i64 0, .int .i64 0, .int .i64 0, .bool false, .string ⟨#[]⟩]) 5 48 Try.underlying22 hi0' hz0 hz1 hz2 rfl (by decide) _ _ _ rfl (R5.out.alloc _).o8 ⟨w5.heap.size, 0, none⟩ 1 1 (Sn_.cs h) rfl rfl ?c1 (Sn_.flat_one _) HM8.out.1 HM8.out.2 ?c5 ?_))
          case c1 =>
            rw [HCS.out]
            intro j x hj
            match j, hj with
            | 0, hj => simp at hj; subst hj; simp [Addr.add]
            | 1, hj => simp at hj; subst hj; simp [Addr.add]
            | 2, hj => simp at hj; subst hj; simp [Addr.add]
            | 3, hj => simp at hj; subst hj; simp [Addr.add]
            | 4, hj => simp at hj; subst hj; simp [Addr.add]
          case c5 => have := R5.out.two.size; simp; omega
          intro v8 w8 hown8 hgrow hn'
          clear hi0' hz0 hz1 hz2
          obtain ⟨sv8, cv8, rfl⟩ := Sn_.slice_form hown8
          have R8 : Hid (Ra w x (.slice sv8 (L.length + 1) cv8) (.slice su I.length cu) (L ++ [h]) I w8) := by
            refine (R5.out.alloc _).app8 ?_ hgrow
            rw [Sn_.flat_snoc, List.length_append]
            exact hown8
          clear hown8 hgrow hn'
          go_wp2
          go_roundw
          case rel => exact ⟨i + 1, by go_num, HLT.out, by rw [HL1.out, HI1.out, HE.out.1, HE.out.2, List.length_append]; exact ⟨sv8, cv8, su, cu, rfl, rfl⟩, by rw [HL1.out, HI1.out, HE.out.1, HE.out.2]; exact R8⟩
          case measure => have := HLT.out; simp [intOf]; omega
        · have HHH := Lib.hid (HH.out (by rw [HMS.out, hd]; rfl))
          by_cases htr : h.tr < 1073741824
          · have HBM := Lib.hid (bump_lt htr)
            have htw : wrap64 (h.tr + 1) = h.tr + 1 := IntWalk.wrap64_in _ (by have := HTI.out.1; omega)
            obtain ⟨w6, hw6⟩ : ∃ w6, w5.setCell ⟨wr.heap.size, 2, none⟩ (.int .i64 (h.tr + 1)) = w6 := ⟨_, rfl⟩
            have X6 : Hid (Sn_.Box w6 wr.heap.size { h with tr := h.tr + 1 }) := hw6 ▸ box_set2 HX5.out (h.tr + 1)
            have e6 : (w6.cell? ⟨wr.heap.size, 0, none⟩ = some (.int .i64 h.id) ∧ w6.cell? ⟨wr.heap.size, 1, none⟩ = some (.int .i64 h.q) ∧ w6.cell? ⟨wr.heap.size, 2, none⟩ = some (.int .i64 (h.tr + 1)) ∧ w6.cell? ⟨wr.heap.size, 3, none⟩ = some (.bool false) ∧ w6.cell? ⟨wr.heap.size, 4, none⟩ = some (.string h.da)) := by rw [← hd]; exact X6.out.cells
            have l6 : (loadCellsFrom ⟨wr.heap.size, 0, none⟩ 0 5 #[]).run Try.prog w6 = .ok #[.int .i64 h.id, .int .i64 h.q, .int .i64 (h.tr + 1), .bool false, .string h.da] w6 := by rw [← hd]; exact X6.out.load
            have b6 : Below wr.heap.size wr w6 := hw6 ▸ b5.setCell (Nat.le_refl _) _
            have R6 := Lib.hid (HR.out.keep b6)
            have ZR6 : Hid (wr.heap.size < w6.heap.size) := X6.out.lt
            rw [HBM.out] at HHH
            by_cases hlim : lim ≤ h.tr + 1
            · have HE := Lib.hid (HHH.out.1 hlim)
              rw [hd] at c3 l5 e5 hw5
              clear HK HH HMS HHH hd b6 HBM
              go_wp2_with (first
                | (go_at_call 64; refine CAi.out.mono ?_; rintro e w' ⟨rfl, rfl⟩)
                | (at_builtin; obtain ⟨i0, hi0', hz0, hz1, hz2⟩ := HI9.out; refine wpList_append_own _ rfl _ _ 48 rfl (w.heap.size + 2) 3 i0 (.int .i64 0) 1 8 Try.underlying48 hi0' hz0 hz1 hz2 rfl (by decide) _ _ _ rfl (R6.out.alloc _).o9 ⟨w6.heap.size, 0, none⟩ 1 1 [.int .i64 h.id] rfl rfl ?c1 ?c2 HM9.out.1 HM9.out.2 ?c5 ?_))
              case c1 =>
                intro j x hj
                match j, hj with
                | 0, hj => simp at hj; subst hj; simp [Addr.add]
              case c2 => intro x hx; simp at hx; subst hx; rfl
              case c5 => have := R6.out.two.size; simp; omega
              intro v7 w7 hown7 hgrow7 hn7
              clear hi0' hz0 hz1 hz2
              obtain ⟨su7, cu7, rfl⟩ := Is_.slice_form hown7
              have R7 : Hid (Ra w x (.slice sv L.length cv) (.slice su7 (I.length + 1) cu7) L (I ++ [h.id]) w7) := by
                refine (R6.out.alloc _).app9 ?_ hgrow7
                rw [Is_.vs_snoc, List.length_append]
                exact hown7
              clear hown7 hgrow7 hn7
              go_wp2
              go_roundw
              case rel => exact ⟨i + 1, by go_num, HLT.out, by rw [HL1.out, HI1.out, HE.out.1, HE.out.2, List.length_append]; exact ⟨sv, cv, su7, cu7, rfl, rfl⟩, by rw [HL1.out, HI1.out, HE.out.1, HE.out.2]; exact R7⟩
              case measure => have := HLT.out; simp [intOf]; omega
            · have hp2 : ({ h with tr := h.tr + 1 } : Sn) = ⟨h.id, h.q, h.tr + 1, false, h.da⟩ := by rw [← hd]
              rw [hp2] at HHH
              have HE := Lib.hid (HHH.out.2 hlim)
              have HCS : Hid (Sn_.cs (⟨h.id, h.q, h.tr + 1, false, h.da⟩ : Sn) = [.int .i64 h.id, .int .i64 h.q, .int .i64 (h.tr + 1), .bool false, .string h.da]) := rfl
              rw [hd] at c3 l5 e5 hw5
              clear HK HH HMS HHH hd b6 HBM hp2
              go_wp2_with (first
                | (go_at_call 64; refine CAi.out.mono ?_; rintro e w' ⟨rfl, rfl⟩)
                | (at_builtin; obtain ⟨i0, hi0', hz0, hz1, hz2⟩ := HI8.out; refine wpList_append_own _ rfl _ _ 22 rfl (w.heap.size + 2) 76 i0 (.agg #[.int .i64 0, .int .i64 0, .int .i64 0, .bool false, .string ⟨#[]⟩]) 5 48 Try.underlying22 hi0' hz0 hz1 hz2 rfl (by decide) _ _ _ rfl (R6.out.alloc _).o8 ⟨w6.heap.size, 0, none⟩ 1 1 (Sn_.cs ⟨h.id, h.q, h.tr + 1, false, h.da⟩) rfl rfl ?c1 (Sn_.flat_one _) HM8.out.1 HM8.out.2 ?c5 ?_))
              case c1 =>
                rw [HCS.out]
                intro j x hj
                match j, hj with
                | 0, hj => simp at hj; subst hj; simp [Addr.add]
                | 1, hj => simp at hj; subst hj; simp [Addr.add]
                | 2, hj => simp at hj; subst hj; simp [Addr.add]
                | 3, hj => simp at hj; subst hj; simp [Addr.add]
                | 4, hj => simp at hj; subst hj; simp [Addr.add]
              case c5 => have := R6.out.two.size; simp; omega
              intro v8 w8 hown8 hgrow hn'
              clear hi0' hz0 hz1 hz2
              obtain ⟨sv8, cv8, rfl⟩ := Sn_.slice_form hown8
              have R8 : Hid (Ra w x (.slice sv8 (L.length + 1) cv8) (.slice su I.length cu) (L ++ [⟨h.id, h.q, h.tr + 1, false, h.da⟩]) I w8) := by
                refine (R6.out.alloc _).app8 ?_ hgrow
                rw [Sn_.flat_snoc, List.length_append]
                exact hown8
              clear hown8 hgrow hn'
              go_wp2
              go_roundw
              case rel => exact ⟨i + 1, by go_num, HLT.out, by rw [HL1.out, HI1.out, HE.out.1, HE.out.2, List.length_append]; exact ⟨sv8, cv8, su, cu, rfl, rfl⟩, by rw [HL1.out, HI1.out, HE.out.1, HE.out.2]; exact R8⟩
              case measure => have := HLT.out; simp [intOf]; omega
          · have HBM := Lib.hid (bump_ge htr)
            rw [HBM.out] at HHH
            by_cases hlim : lim ≤ h.tr
            · have HE := Lib.hid (HHH.out.1 hlim)
              rw [hd] at c3 l5 e5 hw5
              clear HK HH HMS HHH hd HBM
              go_wp2_with (first
                | (go_at_call 64; refine CAi.out.mono ?_; rintro e w' ⟨rfl, rfl⟩)
                | (at_builtin; obtain ⟨i0, hi0', hz0, hz1, hz2⟩ := HI9.out; refine wpList_append_own _ rfl _ _ 48 rfl (w.heap.size + 2) 3 i0 (.int .i64 0) 1 8 Try.underlying48 hi0' hz0 hz1 hz2 rfl (by decide) _ _ _ rfl (R5.out.alloc _).o9 ⟨w5.heap.size, 0, none⟩ 1 1 [.int .i64 h.id] rfl rfl ?c1 ?c2 HM9.out.1 HM9.out.2 ?c5 ?_))
              case c1 =>
                intro j x hj
                match j, hj with
                | 0, hj => simp at hj; subst hj; simp [Addr.add]
              case c2 => intro x hx; simp at hx; subst hx; rfl
              case c5 => have := R5.out.two.size; simp; omega
              intro v7 w7 hown7 hgrow7 hn7
              clear hi0' hz0 hz1 hz2
              obtain ⟨su7, cu7, rfl⟩ := Is_.slice_form hown7
              have R7 : Hid (Ra w x (.slice sv L.length cv) (.slice su7 (I.length + 1) cu7) L (I ++ [h.id]) w7) := by
                refine (R5.out.alloc _).app9 ?_ hgrow7
                rw [Is_.vs_snoc, List.length_append]
                exact hown7
              clear hown7 hgrow7 hn7
              go_wp2
              go_roundw
              case rel => exact ⟨i + 1, by go_num, HLT.out, by rw [HL1.out, HI1.out, HE.out.1, HE.out.2, List.length_append]; exact ⟨sv, cv, su7, cu7, rfl, rfl⟩, by rw [HL1.out, HI1.out, HE.out.1, HE.out.2]; exact R7⟩
              case measure => have := HLT.out; simp [intOf]; omega
            · have HE := Lib.hid (HHH.out.2 hlim)
              have HCS : Hid (Sn_.cs h = [.int .i64 h.id, .int .i64 h.q, .int .i64 h.tr, .bool false, .string h.da]) := by unfold Sn_.cs; rw [hd]; exact rfl
              rw [hd] at c3 l5 e5 hw5
              clear HK HH HMS HHH hd HBM
              go_wp2_with (first
                | (go_at_call 64; refine CAi.out.mono ?_; rintro e w' ⟨rfl, rfl⟩)
                | (at_builtin; obtain ⟨i0, hi0', hz0, hz1, hz2⟩ := HI8.out; refine wpList_append_own _ rfl _ _ 22 rfl (w.heap.size + 2) 76 i0 (.agg #[.int .i64 0, .int .i64 0, .int .i64 0, .bool false, .string ⟨#[]⟩]) 5 48 Try.underlying22 hi0' hz0 hz1 hz2 rfl (by decide) _ _ _ rfl (R5.out.alloc _).o8 ⟨w5.heap.size, 0, none⟩ 1 1 (Sn_.cs h) rfl rfl ?c1 (Sn_.flat_one _) HM8.out.1 HM8.out.2 ?c5 ?_))
              case c1 =>
                rw [HCS.out]
                intro j x hj
                match j, hj with
                | 0, hj => simp at hj; subst hj; simp [Addr.add]
                | 1, hj => simp at hj; subst hj; simp [Addr.add]
                | 2, hj => simp at hj; subst hj; simp [Addr.add]
                | 3, hj => simp at hj; subst hj; simp [Addr.add]
                | 4, hj => simp at hj; subst hj; simp [Addr.add]
              case c5 => have := R5.out.two.size; simp; omega
              intro v8 w8 hown8 hgrow hn'
              clear hi0' hz0 hz1 hz2
              obtain ⟨sv8, cv8, rfl⟩ := Sn_.slice_form hown8
              have R8 : Hid (Ra w x (.slice sv8 (L.length + 1) cv8) (.slice su I.length cu) (L ++ [h]) I w8) := by
                refine (R5.out.alloc _).app8 ?_ hgrow
                rw [Sn_.flat_snoc, List.length_append]
                exact hown8
              clear hown8 hgrow hn'
              go_wp2
              go_roundw
              case rel => exact ⟨i + 1, by go_num, HLT.out, by rw [HL1.out, HI1.out, HE.out.1, HE.out.2, List.length_append]; exact ⟨sv8, cv8, su, cu, rfl, rfl⟩, by rw [HL1.out, HI1.out, HE.out.1, HE.out.2]; exact R8⟩
              case measure => have := HLT.out; simp [intOf]; omega
    · obtain rfl : i = n := by omega
      have HLL : Hid ((mL seqs lim s.l i).length ≤ 1000) := Nat.le_trans (mL_len _ _ _ _) HLN.out
      have HRQ := Lib.hid (rq_of22 (I := mI seqs lim s.l i) HL.out.rq HL.out.sz)
      generalize mL seqs lim s.l i = L at *
      generalize mI seqs lim s.l i = I at *
      have HP8 : Hid (L.length ≤ 1000) := HLL.out
      have RD := Lib.hid (HR.out.keep (wj := wr.drew) ⟨rfl, rfl, rfl, Nat.le_refl _, fun _ _ => rfl⟩)
      have RA := Lib.hid ((HR.out.alloc (.cells (Wv_.C zw) 24)).keep (wj := (wr.alloc (.cells (Wv_.C zw) 24)).drew) ⟨rfl, rfl, rfl, Nat.le_refl _, fun _ _ => rfl⟩)
      have l1 := RD.out.two.bx.loadF
      have l1b := RA.out.two.bx.loadF
      have l1a : (Wv_.LoadF ⟨w.heap.size, 0, none⟩).run Try.prog (wr.alloc (.cells #[.int .i64 0, .int .i64 0, .slice none 0 0, .bool false] 24)).drew = .ok (Wv_.v x) (wr.alloc (.cells #[.int .i64 0, .int .i64 0, .slice none 0 0, .bool false] 24)).drew := RA.out.two.bx.loadF
      have S8 := Lib.hid (Sn_.sl_owns RD.out.o8)
      have BAL : Hid (Below wr.drew.heap.size wr.drew (wr.alloc (.cells (Wv_.C zw) 24)).drew) := (have h := (Below.refl wr.heap.size wr).alloc (Nat.le_refl _) (.cells (Wv_.C zw) 24); ⟨h.os, rfl, h.output, h.size, h.block⟩)
      have S8A := Lib.hid (Sn_.sl_owns RA.out.o8)
      have S9A := Lib.hid (Is_.sl_owns RA.out.o9)
      have F8 := Lib.hid (Fr.own RD.out.o8)
      have S9 := Lib.hid (Is_.sl_owns RD.out.o9)
      have F9 := Lib.hid (Fr.own RD.out.o9)
      have CT := Lib.hid (fun W (h : Sn_.Sl W sv L cv) => r22_trim_any sv L cv W h HP8.out)
      have CW := Lib.hid (fun (sa : Option Addr) (n c : Nat) W => r22_with_any x sa n c W)
      have HZ := Lib.hid HR.out.two.size
      have LU : Hid (∀ bb off, su = some ⟨bb, off, none⟩ → bb < wr.heap.size) := (fun bb off e => (RD.out.o9.lt bb (by rw [e]; rfl)).2)
      have hrx := HL.out.rq
      have hszx := HL.out.sz
      clear hrx hszx
      clear HR HV R4 hw1 hw2' hw3 hw4
      go_upto_region 14 with fail
      go_cut [12] (fun p wx => ∃ (g : Nat) (sa' : Option Addr) (c' : Nat), p = .pointer (some ⟨g, 0, none⟩) ∧ Hid (Mc w x L I su cu wr.heap.size g sa' c' wx))
      case first =>
        go_region_with (first
          | (go_at_call 57; (first | refine (CT.out _ S8.out).mono ?_ | refine (CT.out _ S8A.out).mono ?_); rintro e w' ⟨sa', c', rfl, hS', hsib, rfl⟩; have ST := Lib.hid hS'; have FT := Lib.hid (F8.out.sib hsib); have LT : Hid (∀ bb off, sa' = some ⟨bb, off, none⟩ → bb < wr.heap.size) := (fun bb off e => by obtain ⟨o2, e2⟩ := hsib bb off e; exact (RD.out.o8.lt bb (by rw [e2]; rfl)).2); clear hS' hsib)
          | (go_at_call 47; refine (CW.out _ _ _ _).mono ?_; rintro e w9 ⟨rfl, hb9⟩; (first | have ST9 := Lib.hid (ST.out.below hb9) | have ST9 := Lib.hid ((ST.out.below BAL.out).below hb9)); first | (have Z9 := Lib.hid (Wv_.Box.below (Wv_.Box.drew (Wv_.Box.new wr zw)) hb9 (Wv_.Box.drew (Wv_.Box.new wr zw)).lt); have t9 := Z9.out.storeF ⟨x.nx, x.sz, sa', (trimL L).length, c', x.rq⟩; have T9 := Lib.hid (RA.out.two.below hb9); have S9b := Lib.hid (S9A.out.below hb9); have SZ9 : Hid (wr.heap.size < _) := Z9.out.lt) | (have T9 := Lib.hid (RD.out.two.below hb9); have S9b := Lib.hid (S9.out.below hb9); have SZ9 : Hid (wr.heap.size ≤ _) := hb9.size); clear hb9))
        all_goals
          go_wp2_with fail
          go_meet
          first
            | exact ⟨wr.heap.size, sa', c', rfl, ⟨Z9.out.setRow ⟨x.nx, x.sz, sa', (trimL L).length, c', x.rq⟩, T9.out.up (below_rowB HZ.out _), sl_row_ne ST9.out (fun bb off e => by have := LT.out bb off e; omega), is_row_ne S9b.out (fun bb off e => by have := LU.out bb off e; omega), HZ.out, LT.out, Nat.le_refl _, FT.out⟩⟩
            | exact ⟨w9.heap.size, sa', c', rfl, ⟨Wv_.Box.new w9 ⟨x.nx, x.sz, sa', (trimL L).length, c', x.rq⟩, T9.out.below ((Below.refl _ _).alloc (Nat.le_refl _) _), ST9.out.below ((Below.refl _ _).alloc (Nat.le_refl _) _), S9b.out.below ((Below.refl _ _).alloc (Nat.le_refl _) _), Nat.le_trans HZ.out SZ9.out, LT.out, SZ9.out, FT.out⟩⟩
      case rest =>
        obtain ⟨g, sa', c', rfl, M⟩ := hcut
        have e10 := M.out.T.bx.all
        have y10 := M.out.Y.all
        have f10 := M.out.Y.frozen
        clear l1 l1a l1b CT CW
        cases hq : x.rq
        · by_cases hN : 0 < I.length
          · have hN' : (0 : Int) < (I.length : Int) := by omega
            cases hz : (x.sz != 0)
            · have HRR := Lib.hid (show rqOf s I = false by rw [HRQ.out, hq, decide_eq_false (show ¬ x.sz ≠ 0 by simpa using hz), Bool.and_false]; rfl)
              have T11 := Lib.hid (M.out.T.up (show Below (w.heap.size + 2) wc (wc.setCell ⟨g, 3, none⟩ (.bool false)) from (Below.refl _ _).setCell M.out.HG _))
              have Y11 : Hid (Wv_.Box (wc.setCell ⟨g, 3, none⟩ (.bool false)) g ⟨x.nx, x.sz, sa', (trimL L).length, c', false⟩) := M.out.Y.set3 false
              have S11 := Lib.hid (sl_cell_ne (a := ⟨g, 3, none⟩) (u := .bool false) M.out.S (fun bb off e => by have := M.out.LT bb off e; have := M.out.HGW; show bb ≠ g; omega))
              have I11 := Lib.hid (is_cell_ne (a := ⟨g, 3, none⟩) (u := .bool false) M.out.I (fun bb off e => by have := LU.out bb off e; have := M.out.HGW; show bb ≠ g; omega))
              have l11 := Y11.out.loadF
              have t11 := T11.out.rs.storeF ⟨x.nx, x.sz, sa', (trimL L).length, c', false⟩
              have T12 := Lib.hid (T11.out.setY ⟨x.nx, x.sz, sa', (trimL L).length, c', false⟩)
              have S12 := Lib.hid (sl_row22 (r := w.heap.size + 1) (cs := Wv_.C ⟨x.nx, x.sz, sa', (trimL L).length, c', false⟩) S11.out M.out.FT (by omega))
              have I12 := Lib.hid (is_row22 (r := w.heap.size + 1) (cs := Wv_.C ⟨x.nx, x.sz, sa', (trimL L).length, c', false⟩) I11.out F9.out (by omega))
              go_wp2
              refine ret_wv2 Try.results30 rfl rfl T12.out.rs rfl ?_
              show StIdsV (missed s seqs lim) w _ _
              rw [HD.out, HRR.out]
              exact ⟨⟨x.nx, x.sz, sa', (trimL L).length, c', false⟩, su, cu, rfl, ⟨⟨HL.out.nx, HL.out.sz, rfl, rfl, S12.out⟩, T12.out.bel, M.out.FT.up (by omega)⟩, I12.out, F9.out.up (by omega)⟩
            · have HRR := Lib.hid (show rqOf s I = true by rw [HRQ.out, decide_eq_true hN, decide_eq_true (show x.sz ≠ 0 by simpa using hz), Bool.and_true, Bool.or_true])
              have T11 := Lib.hid (M.out.T.up (show Below (w.heap.size + 2) wc (wc.setCell ⟨g, 3, none⟩ (.bool true)) from (Below.refl _ _).setCell M.out.HG _))
              have Y11 : Hid (Wv_.Box (wc.setCell ⟨g, 3, none⟩ (.bool true)) g ⟨x.nx, x.sz, sa', (trimL L).length, c', true⟩) := M.out.Y.set3 true
              have S11 := Lib.hid (sl_cell_ne (a := ⟨g, 3, none⟩) (u := .bool true) M.out.S (fun bb off e => by have := M.out.LT bb off e; have := M.out.HGW; show bb ≠ g; omega))
              have I11 := Lib.hid (is_cell_ne (a := ⟨g, 3, none⟩) (u := .bool true) M.out.I (fun bb off e => by have := LU.out bb off e; have := M.out.HGW; show bb ≠ g; omega))
              have l11 := Y11.out.loadF
              have t11 := T11.out.rs.storeF ⟨x.nx, x.sz, sa', (trimL L).length, c', true⟩
              have T12 := Lib.hid (T11.out.setY ⟨x.nx, x.sz, sa', (trimL L).length, c', true⟩)
              have S12 := Lib.hid (sl_row22 (r := w.heap.size + 1) (cs := Wv_.C ⟨x.nx, x.sz, sa', (trimL L).length, c', true⟩) S11.out M.out.FT (by omega))
              have I12 := Lib.hid (is_row22 (r := w.heap.size + 1) (cs := Wv_.C ⟨x.nx, x.sz, sa', (trimL L).length, c', true⟩) I11.out F9.out (by omega))
              go_wp2
              refine ret_wv2 Try.results30 rfl rfl T12.out.rs rfl ?_
              show StIdsV (missed s seqs lim) w _ _
              rw [HD.out, HRR.out]
              exact ⟨⟨x.nx, x.sz, sa', (trimL L).length, c', true⟩, su, cu, rfl, ⟨⟨HL.out.nx, HL.out.sz, rfl, rfl, S12.out⟩, T12.out.bel, M.out.FT.up (by omega)⟩, I12.out, F9.out.up (by omega)⟩
          · have hN' : ¬ (0 : Int) < (I.length : Int) := by omega
            have HRR := Lib.hid (show rqOf s I = false by rw [HRQ.out, hq, decide_eq_false hN]; rfl)
            have T11 := Lib.hid (M.out.T.up (show Below (w.heap.size + 2) wc (wc.setCell ⟨g, 3, none⟩ (.bool false)) from (Below.refl _ _).setCell M.out.HG _))
            have Y11 : Hid (Wv_.Box (wc.setCell ⟨g, 3, none⟩ (.bool false)) g ⟨x.nx, x.sz, sa', (trimL L).length, c', false⟩) := M.out.Y.set3 false
            have S11 := Lib.hid (sl_cell_ne (a := ⟨g, 3, none⟩) (u := .bool false) M.out.S (fun bb off e => by have := M.out.LT bb off e; have := M.out.HGW; show bb ≠ g; omega))
            have I11 := Lib.hid (is_cell_ne (a := ⟨g, 3, none⟩) (u := .bool false) M.out.I (fun bb off e => by have := LU.out bb off e; have := M.out.HGW; show bb ≠ g; omega))
            have l11 := Y11.out.loadF
            have t11 := T11.out.rs.storeF ⟨x.nx, x.sz, sa', (trimL L).length, c', false⟩
            have T12 := Lib.hid (T11.out.setY ⟨x.nx, x.sz, sa', (trimL L).length, c', false⟩)
            have S12 := Lib.hid (sl_row22 (r := w.heap.size + 1) (cs := Wv_.C ⟨x.nx, x.sz, sa', (trimL L).length, c', false⟩) S11.out M.out.FT (by omega))
            have I12 := Lib.hid (is_row22 (r := w.heap.size + 1) (cs := Wv_.C ⟨x.nx, x.sz, sa', (trimL L).length, c', false⟩) I11.out F9.out (by omega))
            go_wp2
            refine ret_wv2 Try.results30 rfl rfl T12.out.rs rfl ?_
            show StIdsV (missed s seqs lim) w _ _
            rw [HD.out, HRR.out]
            exact ⟨⟨x.nx, x.sz, sa', (trimL L).length, c', false⟩, su, cu, rfl, ⟨⟨HL.out.nx, HL.out.sz, rfl, rfl, S12.out⟩, T12.out.bel, M.out.FT.up (by omega)⟩, I12.out, F9.out.up (by omega)⟩
        · have HRR := Lib.hid (show rqOf s I = true by rw [HRQ.out, hq]; rfl)
          have T11 := Lib.hid (M.out.T.up (show Below (w.heap.size + 2) wc (wc.setCell ⟨g, 3, none⟩ (.bool true)) from (Below.refl _ _).setCell M.out.HG _))
          have Y11 : Hid (Wv_.Box (wc.setCell ⟨g, 3, none⟩ (.bool true)) g ⟨x.nx, x.sz, sa', (trimL L).length, c', true⟩) := M.out.Y.set3 true
          have S11 := Lib.hid (sl_cell_ne (a := ⟨g, 3, none⟩) (u := .bool true) M.out.S (fun bb off e => by have := M.out.LT bb off e; have := M.out.HGW; show bb ≠ g; omega))
          have I11 := Lib.hid (is_cell_ne (a := ⟨g, 3, none⟩) (u := .bool true) M.out.I (fun bb off e => by have := LU.out bb off e; have := M.out.HGW; show bb ≠ g; omega))
          have l11 := Y11.out.loadF
          have t11 := T11.out.rs.storeF ⟨x.nx, x.sz, sa', (trimL L).length, c', true⟩
          have T12 := Lib.hid (T11.out.setY ⟨x.nx, x.sz, sa', (trimL L).length, c', true⟩)
          have S12 := Lib.hid (sl_row22 (r := w.heap.size + 1) (cs := Wv_.C ⟨x.nx, x.sz, sa', (trimL L).length, c', true⟩) S11.out M.out.FT (by omega))
          have I12 := Lib.hid (is_row22 (r := w.heap.size + 1) (cs := Wv_.C ⟨x.nx, x.sz, sa', (trimL L).length, c', true⟩) I11.out F9.out (by omega))
          go_wp2
          refine ret_wv2 Try.results30 rfl rfl T12.out.rs rfl ?_
          show StIdsV (missed s seqs lim) w _ _
          rw [HD.out, HRR.out]
          exact ⟨⟨x.nx, x.sz, sa', (trimL L).length, c', true⟩, su, cu, rfl, ⟨⟨HL.out.nx, HL.out.sz, rfl, rfl, S12.out⟩, T12.out.bel, M.out.FT.up (by omega)⟩, I12.out, F9.out.up (by omega)⟩
end Go.Proofs.Ytldeflpaghbmmaa
