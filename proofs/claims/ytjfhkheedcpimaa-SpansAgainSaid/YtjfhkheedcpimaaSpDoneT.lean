/-
  WALKS OF THE LANDED CODE OF LAYER 7: Total, Gaps.
-/
import Derived.Test.YtjfhkheedcpimaaSpDoneU
import Derived.Test.YtjfhkheedcpimaaSpDoneC
namespace Go.Proofs.Ytjfhkheedcpimaa
open Go.RowKit Go.Sp

theorem sum_snoc (l : List Sp) (s : Sp) : sum (l ++ [s]) = sum l + len s := by unfold sum; rw [List.map_append, List.foldl_append]; rfl
theorem sum_bound {l : List Sp} (h : ∀ s ∈ l, near s) : ∀ k, k ≤ l.length → 0 ≤ sum (l.take k) ∧ sum (l.take k) ≤ 2199023255552 * k := by
  intro k
  induction k with
  | zero => intro _; simp [sum]
  | succ k ih =>
    intro hk
    have h1 := ih (by omega)
    have h2 := h l[k] (List.getElem_mem _)
    rw [List.take_succ_eq_append_getElem (by omega), sum_snoc]
    unfold near at h2
    have h3 : 0 ≤ len l[k] ∧ len l[k] ≤ 2199023255552 := by unfold len; split <;> omega
    omega

set_option maxRecDepth 100000 in
set_option maxHeartbeats 2000000 in
theorem total_any (l u : List Sp) (sa : Option Addr) (c : Nat) (w : World) (hl : l.length ≤ 12) (hn : ∀ s ∈ l, near s) (h : SpAt w sa l) (hu : IsUnion l u) :
    Calls Try.prog 20 #[.slice sa l.length c] w fun e w' => e = .returned (.int .i64 (sum u)) ∧ Below w.heap.size w w' := by
  have HC := Lib.hid (union_any l sa c w (by omega) hn h)
  have HU := Lib.hid hu
  have HL := Lib.hid (fun s w hs => length_any s w hs)
  unfold sv at HL
  clear h hn hu
  go_enter Try.func20, Try.ntmps20
  go_wp2_with fail
  refine HC.out.mono ?_
  rintro e w0 ⟨⟨u', su, cu, rfl, hu, hul, hnr, hsp⟩, hb0⟩
  obtain rfl := HU.out.unique hu
  have HSP := Lib.hid hsp
  have HB0 := Lib.hid hb0
  have HN := Lib.hid hnr
  have HSB := Lib.hid (sum_bound hnr)
  have hul' : u.length ≤ 12 := by omega
  clear hu hsp hb0 HC hnr
  go_wp2
  go_loopw [3, 9] (fun z i wr => ∃ (k : Nat) (n : Int), k ≤ u.length ∧ i = .int .i64 k ∧ z = .int .i64 n ∧ n = sum (u.take k) ∧ Below w0.heap.size w0 wr)
    (fun _ i _ => u.length - (intOf i).toNat)
  case atStart => exact ⟨0, 0, Nat.zero_le _, rfl, rfl, rfl, Below.refl _ _⟩
  case round =>
    rename_i wr
    obtain ⟨k, n, hk, rfl, rfl, hn, hb⟩ := hrel
    have hb1 := HSB.out k hk
    rw [← hn] at hb1
    have HNN := Lib.hid hn
    clear hn
    by_cases hlt : k < u.length
    · obtain ⟨b, off, rfl, -, c0, c1⟩ := (HSP.out.below hb) k hlt
      have i0 : (0 : Int) ≤ (k : Int) := by omega
      have i1 : (k : Int) < (u.length : Int) := by omega
      have hlt' := Lib.hid hlt
      have HLK := Lib.hid (fun w => HL.out u[k] w (HN.out _ (List.getElem_mem hlt)))
      have hb2 := HSB.out (k + 1) (by omega)
      have es : sum (u.take (k + 1)) = n + len u[k] := by rw [List.take_succ_eq_append_getElem hlt, sum_snoc, ← HNN.out] <;> rfl
      rw [es] at hb2
      have HW := Lib.hid (IntWalk.wrap64_in (n + len u[k]) ⟨by omega, by omega⟩)
      have HES := Lib.hid es
      clear es hb1 hb2
      generalize len u[k] = y at *
      generalize u[k].f = f at *
      generalize u[k].t = t at *
      clear hlt
      go_wp2_with (go_at_call 12; refine (HLK.out _).mono ?_; rintro e w2 ⟨rfl, hb2⟩; have B2 := Lib.hid (hb.trans (((Below.refl _ wr).alloc (Nat.le_refl _) _).trans (hb2.mono (by simp)) |>.mono hb.size)); clear hb2 hb)
      go_roundw
      case rel => exact ⟨k + 1, n + y, hlt'.out, by go_num, by rw [HW.out], HES.out.symm, B2.out⟩
      case measure => have := hlt'.out; simp [intOf]; omega
    · obtain rfl : k = u.length := by omega
      have hs := HNN.out
      rw [List.take_length] at hs
      subst hs
      have HB := Lib.hid (HB0.out.trans (hb.mono HB0.out.size))
      clear hb HNN
      go_wp2
      go_returns
      exact ⟨rfl, HB.out⟩

set_option maxRecDepth 100000 in
set_option maxHeartbeats 2000000 in
theorem gaps_any (s : Sp) (l : List Sp) (sa : Option Addr) (c : Nat) (w : World) (hl : l.length ≤ 12) (hn : ∀ s ∈ l, near s) (h : SpAt w sa l) :
    Calls Try.prog 21 #[sv s, .slice sa l.length c] w fun e w' => (∃ g v0 c', e = .returned (.slice v0 g.length c') ∧ IsGaps s l g ∧ g.length ≤ l.length + 1 ∧ SpAt w' v0 g) ∧ Below w.heap.size w w' := by
  have HI := Lib.hid (info_parts infoSpan)
  have HC := Lib.hid (fun (w : World) (h : SpAt w sa l) => union_any l sa c w (by omega) hn h)
  have HX := Lib.hid (fun (a b : Sp) w => cross_any a b w)
  obtain ⟨sf, st⟩ := s
  have h1 := h.below ((Below.refl _ w).alloc (Nat.le_refl _) (.cells #[.int .i64 sf, .int .i64 st] 23))
  have HS := Lib.hid h1
  unfold sv at *
  clear h hn h1
  go_enter Try.func21, Try.ntmps21
  go_wp2_with fail
  refine (HC.out _ HS.out).mono ?_
  rintro e w0 ⟨⟨u, su, cu, rfl, hu, hul, hnr, hsp⟩, hb0⟩
  have x0 : w0.cell? ⟨w.heap.size, 0, none⟩ = some (.int .i64 sf) := (hb0.cell (p := ⟨w.heap.size, 0, none⟩) (by simp)).trans (by simp)
  have x1 : w0.cell? ⟨w.heap.size, 1, none⟩ = some (.int .i64 st) := (hb0.cell (p := ⟨w.heap.size, 1, none⟩) (by simp)).trans (by simp)
  have xl : w.heap.size < w0.heap.size := Nat.lt_of_lt_of_le (by simp) hb0.size
  have HX0 := Lib.hid (And.intro x0 (And.intro x1 xl))
  have HSP := Lib.hid hsp
  have HB0 := Lib.hid (((Below.refl _ w).alloc (Nat.le_refl _) (.cells #[.int .i64 sf, .int .i64 st] 23)).trans (hb0.mono (by simp)))
  have HU := Lib.hid hu
  have hul' : u.length ≤ 12 := by omega
  clear hu hsp hb0 HC hnr x0 x1 HS
  have y0 := HX0.out.1
  go_wp2
  clear y0
  go_loopw [5, 6, 18] (fun v z i wr => ∃ (k : Nat) (g : List Sp) (fr : Int), k ≤ u.length ∧ i = .int .i64 k ∧ z = .int .i64 fr ∧ GapI ⟨sf, st⟩ u k g fr ∧ wr.ownsRow w0.heap.size 23 2 v g.length (flt g) ∧ Below w0.heap.size w0 wr)
    (fun _ _ i _ => u.length - (intOf i).toNat)
  case atStart => exact ⟨0, [], sf, Nat.zero_le _, rfl, rfl, gapI_start _ u, World.ownsRow_nil _ _ _ _, Below.refl _ _⟩
  case round =>
    rename_i wr
    obtain ⟨k, g, fr, hk, rfl, rfl, hgi, hown, hb⟩ := hrel
    have hgl := hgi.len
    have x0 := (hb.cell (p := ⟨w.heap.size, 0, none⟩) xl).trans HX0.out.1
    have x1 := (hb.cell (p := ⟨w.heap.size, 1, none⟩) xl).trans HX0.out.2.1
    obtain ⟨v0, cap, rfl⟩ := slice_form hown
    by_cases hlt : k < u.length
    · obtain ⟨b, off, rfl, -, c0, c1⟩ := (HSP.out.below hb) k hlt
      have i0 : (0 : Int) ≤ (k : Int) := by omega
      have i1 : (k : Int) < (u.length : Int) := by omega
      have hlt' := Lib.hid hlt
      have hst : ∀ f t, f = u[k].f → t = u[k].t → ∀ g', ((¬ (if f < st then f else st) ≤ (if sf < fr then fr else sf) ∧ g' = g ++ [⟨if sf < fr then fr else sf, if f < st then f else st⟩]) ∨ ((if f < st then f else st) ≤ (if sf < fr then fr else sf) ∧ g' = g)) → GapI ⟨sf, st⟩ u (k + 1) g' t := by
        rintro f t rfl rfl g' hg
        exact hgi.step HU.out.1 hlt g' hg
      obtain ⟨f, hf⟩ : ∃ f, f = u[k].f := ⟨_, rfl⟩
      obtain ⟨t, ht⟩ : ∃ t, t = u[k].t := ⟨_, rfl⟩
      replace c0 : wr.cell? ⟨b, off + k * 2, none⟩ = some (.int .i64 f) := by rw [hf]; exact c0
      replace c1 : wr.cell? ⟨b, off + k * 2 + 1, none⟩ = some (.int .i64 t) := by rw [ht]; exact c1
      replace hst := hst f t hf ht
      have HXK := HX.out ⟨sf, st⟩ ⟨fr, f⟩
      unfold cross at HXK
      simp only at HXK
      obtain ⟨mf, hmf⟩ : ∃ mf, (if sf < fr then fr else sf) = mf := ⟨_, rfl⟩
      obtain ⟨mt, hmt⟩ : ∃ mt, (if f < st then f else st) = mt := ⟨_, rfl⟩
      rw [hmf, hmt] at HXK hst
      have HZ := Lib.hid hb.size
      have y0 : (wr.alloc (.cells #[.int .i64 f, .int .i64 t] 23)).cell? ⟨w.heap.size, 0, none⟩ = some (.int .i64 sf) := (((Below.refl _ wr).alloc (Nat.le_refl _) _).cell (p := ⟨w.heap.size, 0, none⟩) (Nat.lt_of_lt_of_le xl hb.size)).trans x0
      have y1 : (wr.alloc (.cells #[.int .i64 f, .int .i64 t] 23)).cell? ⟨w.heap.size, 1, none⟩ = some (.int .i64 st) := (((Below.refl _ wr).alloc (Nat.le_refl _) _).cell (p := ⟨w.heap.size, 1, none⟩) (Nat.lt_of_lt_of_le xl hb.size)).trans x1
      clear x0 x1
      have hg2 := fun j hj => (hown.lt j hj)
      have HG2 := Lib.hid hg2
      clear hmf hmt hgi hg2 hf ht hlt
      by_cases hle : mt ≤ mf
      · rw [if_pos hle] at HXK
        have HGI : Hid (GapI ⟨sf, st⟩ u (k + 1) g t) := hst g (.inr ⟨hle, rfl⟩)
        have HXX := Lib.hid HXK
        clear hst HXK hle
        go_wp2_with fail
        refine (HXX.out _).mono ?_
        rintro e w2 ⟨rfl, hb2⟩
        have e1 : w2.cell? ⟨wr.heap.size, 1, none⟩ = some (.int .i64 t) := (hb2.cell (p := ⟨wr.heap.size, 1, none⟩) (by simp)).trans (by simp)
        have hown2 := Lib.hid (owns_below (hown.alloc _) hb2)
        have B2 := Lib.hid ((hb.alloc hb.size _).trans (hb2.mono (by have := hb.size; simp; omega)))
        have hw2 : wr.heap.size < w2.heap.size := Nat.lt_of_lt_of_le (by simp) hb2.size
        have e2 : ∀ o, (w2.alloc o).cell? ⟨wr.heap.size, 1, none⟩ = some (.int .i64 t) := fun o => (((Below.refl _ w2).alloc (Nat.le_refl _) o).cell (p := ⟨wr.heap.size, 1, none⟩) hw2).trans e1
        clear hb2 hown hb e1
        go_wp2
        go_roundw
        case rel => exact ⟨k + 1, g, t, hlt'.out, by go_num, rfl, HGI.out, hown2.out.alloc _, B2.out.alloc (by have := HZ.out; omega) _⟩
        case measure => have := hlt'.out; simp [intOf]; omega
      · rw [if_neg hle] at HXK
        have HGI : Hid (GapI ⟨sf, st⟩ u (k + 1) (g ++ [⟨mf, mt⟩]) t) := hst _ (.inl ⟨hle, rfl⟩)
        have HXX := Lib.hid HXK
        have hgl2 : g.length + 1 ≤ 1000 := by omega
        clear hst HXK hle
        go_wp2_with fail
        refine (HXX.out _).mono ?_
        rintro e w2 ⟨rfl, hb2⟩
        have e1 : w2.cell? ⟨wr.heap.size, 1, none⟩ = some (.int .i64 t) := (hb2.cell (p := ⟨wr.heap.size, 1, none⟩) (by simp)).trans (by simp)
        have hown2 := owns_below (hown.alloc _) hb2
        have hbb := (hb.alloc hb.size _).trans (hb2.mono (by have := hb.size; simp; omega))
        have hw2 : wr.heap.size < w2.heap.size := Nat.lt_of_lt_of_le (by simp) hb2.size
        clear hb2 hown hb
        go_wp2_with (at_builtin; obtain ⟨i0, hi, hz0, hz1, hz2⟩ := HI.out; refine wpList_append_own _ rfl _ _ 31 rfl w0.heap.size 23 i0 (.agg #[.int .i64 0, .int .i64 0]) 2 16 Try.underlying31 hi hz0 hz1 hz2 rfl (by decide) _ _ _ rfl ((hown2.alloc _).alloc _) ⟨w2.heap.size + 1, 0, none⟩ 1 1 [.int .i64 mf, .int .i64 mt] rfl rfl ?c1 ?c2 ?c3 ?c4 ?c5 ?_)
        case c1 =>
          intro j u hj
          match j, hj with
          | 0, hj => simp at hj; subst hj; exact (two_new _ _ _ _ _ (by simp)).1
          | 1, hj => simp at hj; subst hj; exact (two_new _ _ _ _ _ (by simp)).2
        case c2 => intro u hu; simp at hu; rcases hu with rfl | rfl <;> rfl
        case c3 => unfold maxLen; omega
        case c4 => omega
        case c5 => have := hbb.size; simp; omega
        intro v' w3 hown' hgrow hn'
        clear hi hz0 hz1 hz2
        have R : w3.ownsRow w0.heap.size 23 2 v' (g ++ [⟨mf, mt⟩] : List Sp).length (flt (g ++ [⟨mf, mt⟩])) ∧ Below w0.heap.size w0 w3 := by
          refine ⟨?_, ?_⟩
          · rw [flt_snoc, List.length_append]
            exact hown'
          · have hz := hbb.size
            refine Below.grown ((hbb.alloc hz _).alloc (by simp; omega) _) hgrow (by simp; omega) (fun j hj => ?_)
            exact (HG2.out j hj).1
        have e3 : w3.cell? ⟨wr.heap.size, 1, none⟩ = some (.int .i64 t) := by
          have hx : w3.heap[wr.heap.size]? = w2.heap[wr.heap.size]? := by
            rw [hgrow.block wr.heap.size (by simp; omega) (fun e => by have := (HG2.out wr.heap.size e.symm).2; omega)]
            rw [Below.heap_alloc _ _ _ (by simp; omega), Below.heap_alloc _ _ _ (by omega)]
          exact (World.cell?_of_block (w := w2) hx).trans e1
        clear hown' hgrow hown2 hbb hn' e1
        go_wp2
        go_roundw
        case rel => exact ⟨k + 1, g ++ [⟨mf, mt⟩], t, hlt'.out, by go_num, rfl, HGI.out, R.1, R.2⟩
        case measure => have := hlt'.out; simp [intOf]; omega
    · obtain rfl : k = u.length := by omega
      have hst := fun g' hg => hgi.last g' hg
      have HXK := HX.out ⟨sf, st⟩ ⟨fr, st⟩
      unfold cross at HXK
      simp only at HXK hst
      obtain ⟨mf, hmf⟩ : ∃ mf, (if sf < fr then fr else sf) = mf := ⟨_, rfl⟩
      obtain ⟨mt, hmt⟩ : ∃ mt, (if st < st then st else st) = mt := ⟨_, rfl⟩
      rw [hmf, hmt] at HXK hst
      have HZ := Lib.hid hb.size
      have HG2 := Lib.hid (fun j hj => (hown.lt j hj))
      clear hmf hmt hgi
      by_cases hle : mt ≤ mf
      · rw [if_pos hle] at HXK
        have hgi := hst g (.inr ⟨hle, rfl⟩)
        have HGI : Hid (IsGaps ⟨sf, st⟩ l g ∧ g.length ≤ l.length + 1) := ⟨⟨hgi.1.1, fun t => by rw [hgi.1.2, HU.out.2]⟩, by omega⟩
        have HXX := Lib.hid HXK
        clear hst HXK hle hgi
        go_wp2_with fail
        refine (HXX.out _).mono ?_
        rintro e w2 ⟨rfl, hb2⟩
        have hown2 := Lib.hid (owns_below hown hb2)
        have B2 := Lib.hid (HB0.out.trans ((hb.trans (hb2.mono hb.size)).mono HB0.out.size))
        clear hb2 hown hb
        have hw := Lib.hid B2.out.size
        go_wp2
        go_returns
        exact ⟨⟨g, v0, cap, rfl, HGI.out.1, HGI.out.2, spat_owns (hown2.out.alloc _)⟩, B2.out.alloc hw.out _⟩
      · rw [if_neg hle] at HXK
        have hgi := hst (g ++ [⟨mf, mt⟩]) (.inl ⟨hle, rfl⟩)
        have HGI : Hid (IsGaps ⟨sf, st⟩ l (g ++ [⟨mf, mt⟩]) ∧ (g ++ [⟨mf, mt⟩] : List Sp).length ≤ l.length + 1) := ⟨⟨hgi.1.1, fun t => by rw [hgi.1.2, HU.out.2]⟩, by omega⟩
        have HXX := Lib.hid HXK
        have hgl2 : g.length + 1 ≤ 1000 := by omega
        clear hst HXK hle hgi
        go_wp2_with fail
        refine (HXX.out _).mono ?_
        rintro e w2 ⟨rfl, hb2⟩
        have hown2 := owns_below hown hb2
        have hbb := hb.trans (hb2.mono hb.size)
        clear hb2 hown hb
        go_wp2_with (at_builtin; obtain ⟨i0, hi, hz0, hz1, hz2⟩ := HI.out; refine wpList_append_own _ rfl _ _ 31 rfl w0.heap.size 23 i0 (.agg #[.int .i64 0, .int .i64 0]) 2 16 Try.underlying31 hi hz0 hz1 hz2 rfl (by decide) _ _ _ rfl ((hown2.alloc _).alloc _) ⟨w2.heap.size + 1, 0, none⟩ 1 1 [.int .i64 mf, .int .i64 mt] rfl rfl ?c1 ?c2 ?c3 ?c4 ?c5 ?_)
        case c1 =>
          intro j u hj
          match j, hj with
          | 0, hj => simp at hj; subst hj; exact (two_new _ _ _ _ _ (by simp)).1
          | 1, hj => simp at hj; subst hj; exact (two_new _ _ _ _ _ (by simp)).2
        case c2 => intro u hu; simp at hu; rcases hu with rfl | rfl <;> rfl
        case c3 => unfold maxLen; omega
        case c4 => omega
        case c5 => have := hbb.size; simp; omega
        intro v' w3 hown' hgrow hn'
        clear hi hz0 hz1 hz2
        have R : w3.ownsRow w0.heap.size 23 2 v' (g ++ [⟨mf, mt⟩] : List Sp).length (flt (g ++ [⟨mf, mt⟩])) ∧ Below w0.heap.size w0 w3 := by
          refine ⟨?_, ?_⟩
          · rw [flt_snoc, List.length_append]
            exact hown'
          · have hz := hbb.size
            refine Below.grown ((hbb.alloc hz _).alloc (by simp; omega) _) hgrow (by simp; omega) (fun j hj => ?_)
            exact (HG2.out j hj).1
        clear hown' hgrow hown2 hbb hn'
        obtain ⟨v3, cap3, rfl⟩ := slice_form R.1
        have R2 := Lib.hid R
        clear R
        go_wp2
        go_returns
        exact ⟨⟨_, v3, cap3, rfl, HGI.out.1, HGI.out.2, spat_owns R2.out.1⟩, HB0.out.trans (R2.out.2.mono HB0.out.size)⟩
end Go.Proofs.Ytjfhkheedcpimaa
