/-
  THE WALK OF THE LANDED CODE OF LAYER 7: Union.
-/
import Derived.Test.YtjfhkheedcpimaaSpDoneM
import Derived.Test.YtjfhkheedcpimaaSpDoneD
namespace Go.Proofs.Ytjfhkheedcpimaa
open Go.RowKit Go.Sp

/-- When the first k spans have been taken in. -/
structure UnI (m : List Sp) (k : Nat) (u : List Sp) : Prop where
  un : IsUnion (m.take k) u
  le : ∀ x ∈ u, ∀ y ∈ m.drop k, x.f ≤ y.f
  nr : ∀ x ∈ u, near x
  len : u.length ≤ k

theorem unI_start (m : List Sp) : UnI m 0 [] := ⟨⟨⟨by simp, by simp⟩, fun t => by simp [InL.nil]⟩, by simp, by simp, Nat.le_refl _⟩

theorem UnI.add {m u : List Sp} {k : Nat} (h : UnI m k u) (hk : k < m.length) (hs : m[k].f < m[k].t) (hn : near m[k]) (ha : m.Pairwise fun a b => a.f ≤ b.f) (hl : ∀ x ∈ u, x.t < m[k].f) : UnI m (k + 1) (u ++ [m[k]]) := by
  have hd : m.drop k = m[k] :: m.drop (k + 1) := List.drop_eq_getElem_cons hk
  have hp : (m.drop k).Pairwise fun a b => a.f ≤ b.f := ha.sublist (List.drop_sublist _ _)
  rw [hd] at hp
  refine ⟨by rw [List.take_succ_eq_append_getElem hk]; exact un_snoc h.un hs hl, fun x hx y hy => ?_, fun x hx => ?_, by have := h.len; simp; omega⟩
  · rcases List.mem_append.1 hx with hx | hx
    · exact h.le x hx y (by rw [hd]; exact List.mem_cons_of_mem _ hy)
    · simp at hx; subst hx; exact (List.pairwise_cons.1 hp).1 y hy
  · rcases List.mem_append.1 hx with hx | hx
    · exact h.nr x hx
    · simp at hx; subst hx; exact hn

theorem UnI.merge {m i : List Sp} {x : Sp} {k : Nat} (h : UnI m k (i ++ [x])) (hk : k < m.length) (hn : near m[k]) (hl : ¬ x.t < m[k].f) : UnI m (k + 1) (i ++ [⟨x.f, if x.t < m[k].t then m[k].t else x.t⟩]) := by
  have hd : m.drop k = m[k] :: m.drop (k + 1) := List.drop_eq_getElem_cons hk
  refine ⟨by rw [List.take_succ_eq_append_getElem hk]; exact un_merge h.un (h.le x (by simp) m[k] (by rw [hd]; exact List.mem_cons_self ..)) (by omega), fun z hz y hy => ?_, fun z hz => ?_, by have := h.len; simp at this ⊢; omega⟩
  · rcases List.mem_append.1 hz with hz | hz
    · exact h.le z (List.mem_append_left _ hz) y (by rw [hd]; exact List.mem_cons_of_mem _ hy)
    · simp at hz; subst hz
      exact h.le x (by simp) y (by rw [hd]; exact List.mem_cons_of_mem _ hy)
  · rcases List.mem_append.1 hz with hz | hz
    · exact h.nr z (List.mem_append_left _ hz)
    · simp at hz; subst hz
      have h1 := h.nr x (by simp)
      unfold near at h1 hn ⊢
      simp only
      split <;> omega

theorem asc_union {l m u : List Sp} (ha : Asc l m) (h : IsUnion m u) : IsUnion l u := by
  refine ⟨h.1, fun t => (h.2 t).trans ((InL.perm ha.perm t).trans ⟨?_, ?_⟩)⟩
  · rintro ⟨x, hx, h1⟩
    exact ⟨x, (List.mem_filter.1 hx).1, h1⟩
  · rintro ⟨x, hx, h1⟩
    exact ⟨x, List.mem_filter.2 ⟨hx, decide_eq_true (by unfold has at h1; omega)⟩, h1⟩
theorem asc_mem {l m : List Sp} (ha : Asc l m) {x : Sp} (hx : x ∈ m) : x ∈ l ∧ x.f < x.t := by
  have := List.mem_filter.1 (ha.perm.mem_iff.1 hx)
  exact ⟨this.1, of_decide_eq_true this.2⟩
theorem asc_len {l m : List Sp} (ha : Asc l m) : m.length ≤ l.length := by
  rw [ha.perm.length_eq]; exact List.length_filter_le _ _

theorem flt_set (i : List Sp) (x : Sp) (t : Int) : (flt (i ++ [x])).set (2 * i.length + 1) (.int .i64 t) = flt (i ++ [⟨x.f, t⟩]) := by
  rw [flt_snoc, flt_snoc, List.set_append, if_neg (by rw [flt_len]; omega), flt_len]
  have : 2 * i.length + 1 - i.length * 2 = 1 := by omega
  rw [this]
  rfl

theorem owns_some {W : World} {base n : Nat} {e : TypeId} {size : Nat} {v : Value} {xs : List Value} (h : W.ownsRow base e size v (n + 1) xs) : ∃ g cap, v = .slice (some ⟨g, 0, none⟩) (n + 1) cap := by
  obtain ⟨_, ⟨h1, h2⟩ | ⟨g, cap, cur, h1, _⟩⟩ := h
  · omega
  · exact ⟨g, _, h1⟩

theorem two_new (W : World) (a b : Value) (T : TypeId) (n : Nat) (h : W.heap.size = n) :
    (W.alloc (.cells #[a, b] T)).cell? ⟨n, 0, none⟩ = some a ∧ (W.alloc (.cells #[a, b] T)).cell? ⟨n, 1, none⟩ = some b := by
  subst h; simp
theorem size_drewN (W : World) (o : Obj) (q : Nat) : ((W.alloc o).drewN q).heap.size = W.heap.size + 1 := by
  show (W.alloc o).heap.size = _
  simp

set_option maxRecDepth 100000 in
set_option maxHeartbeats 2000000 in
theorem union_any (l : List Sp) (sa : Option Addr) (c : Nat) (w : World) (hl : l.length ≤ 1000000) (hn : ∀ s ∈ l, near s) (h : SpAt w sa l) :
    Calls Try.prog 19 #[.slice sa l.length c] w fun e w' => (∃ u v0 c', e = .returned (.slice v0 u.length c') ∧ IsUnion l u ∧ u.length ≤ l.length ∧ (∀ s ∈ u, near s) ∧ SpAt w' v0 u) ∧ Below w.heap.size w w' := by
  have HI := Lib.hid (info_parts infoSpan)
  have HC := Lib.hid (ascending_any l sa c w hl h)
  have HN := Lib.hid hn
  clear h hn
  go_enter Try.func19, Try.ntmps19
  go_wp2_with fail
  refine HC.out.mono ?_
  rintro e w0 ⟨⟨m, sm, cm, rfl, ha, hsp⟩, hb0⟩
  have HA := Lib.hid ha
  have HSP := Lib.hid hsp
  have HB0 := Lib.hid hb0
  have hml : m.length ≤ 1000000 := by have := asc_len ha; omega
  clear ha hsp hb0 HC
  go_wp2
  go_loopw [3, 10] (fun v i wr => ∃ (k : Nat) (u : List Sp), k ≤ m.length ∧ i = .int .i64 k ∧ UnI m k u ∧ wr.ownsRow w0.heap.size 23 2 v u.length (flt u) ∧ Below w0.heap.size w0 wr)
    (fun _ i _ => m.length - (intOf i).toNat)
  case atStart => exact ⟨0, [], Nat.zero_le _, rfl, unI_start m, World.ownsRow_nil _ _ _ _, Below.refl _ _⟩
  case round =>
    rename_i wr
    obtain ⟨k, u, hk, rfl, hu, hown, hb⟩ := hrel
    have hul := hu.len
    have HU := Lib.hid hu
    clear hu
    by_cases hlt : k < m.length
    · obtain ⟨b, off, rfl, -, c0, c1⟩ := (HSP.out.below hb) k hlt
      have i0 : (0 : Int) ≤ (k : Int) := by omega
      have i1 : (k : Int) < (m.length : Int) := by omega
      have hlt' := Lib.hid hlt
      have hmem := asc_mem HA.out (List.getElem_mem hlt)
      have HM := Lib.hid (And.intro hmem.2 (HN.out _ hmem.1))
      clear hmem
      have hf0 : (wr.alloc (.cells #[.int .i64 m[k].f, .int .i64 m[k].t] 23)).cell? ⟨wr.heap.size, 0, none⟩ = some (.int .i64 m[k].f) := by simp
      have hf1 : (wr.alloc (.cells #[.int .i64 m[k].f, .int .i64 m[k].t] 23)).cell? ⟨wr.heap.size, 1, none⟩ = some (.int .i64 m[k].t) := by simp
      rcases List.eq_nil_or_concat u with rfl | ⟨i, x, rfl⟩
      · obtain ⟨v0, cap, rfl⟩ := slice_form hown
        have HADD := Lib.hid (HU.out.add hlt HM.out.1 HM.out.2 HA.out.sorted (by simp))
        have HADD2 : Hid (UnI m (k + 1) [⟨m[k].f, m[k].t⟩]) := HADD.out
        clear hul HADD HM HU
        generalize m[k].f = f at *
        generalize m[k].t = t at *
        clear hlt
        go_wp2
        go_quiet (fail)
        go_wp2_with (at_builtin; obtain ⟨i0, hi, hz0, hz1, hz2⟩ := HI.out; refine wpList_append_own _ rfl _ _ 31 rfl w0.heap.size 23 i0 (.agg #[.int .i64 0, .int .i64 0]) 2 16 Try.underlying31 hi hz0 hz1 hz2 rfl (by decide) _ _ _ rfl ((hown.alloc _).alloc _) ⟨wr.heap.size + 1, 0, none⟩ 1 1 [.int .i64 f, .int .i64 t] rfl rfl ?c1 ?c2 ?c3 ?c4 ?c5 ?_)
        case c1 =>
          intro j u hj
          match j, hj with
          | 0, hj => simp at hj; subst hj; exact (two_new _ _ _ _ _ (size_drewN _ _ _)).1
          | 1, hj => simp at hj; subst hj; exact (two_new _ _ _ _ _ (size_drewN _ _ _)).2
        case c2 => intro u hu; simp at hu; rcases hu with rfl | rfl <;> rfl
        case c3 => unfold maxLen; simp
        case c4 => simp
        case c5 => have := hb.size; rw [World.size_alloc, size_drewN]; omega
        intro v' w3 hown' hgrow hn'
        clear hi hz0 hz1 hz2
        have R : w3.ownsRow w0.heap.size 23 2 v' ([⟨f, t⟩] : List Sp).length (flt [⟨f, t⟩]) ∧ Below w0.heap.size w0 w3 := by
          refine ⟨hown', ?_⟩
          have hbb : Below w0.heap.size w0 ((wr.alloc (.cells #[.int .i64 f, .int .i64 t] 23)).drewN nq) := let x := hb.alloc hb.size (.cells #[.int .i64 f, .int .i64 t] 23); ⟨x.os, x.tape, x.output, x.size, x.block⟩
          have hz := hb.size
          refine Below.grown (hbb.alloc (by rw [size_drewN]; omega) _) hgrow (by rw [World.size_alloc, size_drewN]; omega) (fun j hj => ?_)
          exact (hown.lt j hj).1
        clear hown' hgrow hown hb hn'
        go_wp2
        go_roundw
        case rel => exact ⟨k + 1, [⟨f, t⟩], hlt'.out, by go_num, HADD2.out, R.1, R.2⟩
        case measure => have := hlt'.out; simp [intOf]; omega
      · rw [List.concat_eq_append] at *
        have el : (i ++ [x]).length = i.length + 1 := by simp
        rw [el] at hown hul
        obtain ⟨g, cap, rfl⟩ := owns_some hown
        have hown1 := hown.alloc (.cells #[.int .i64 m[k].f, .int .i64 m[k].t] 23)
        have d1 := hown1.cellAt (i.length * 2 + 1) (by omega)
        have eg := (flt_get (i ++ [x]) i.length (by simp)).2
        rw [Nat.mul_comm 2, List.getElem_concat_length rfl] at eg
        rw [eg] at d1
        have hg := hown.lt g rfl
        have il : i.length + 1 ≤ 1000000 := by omega
        have j0 : ((i.length : Int) + 1) - 1 = (i.length : Int) := by omega
        have j1 : (0 : Int) ≤ (i.length : Int) := by omega
        have j2 : (i.length : Int) < (i.length : Int) + 1 := by omega
        have j3 : decide ((i.length : Int) < 0) = false := decide_eq_false (by omega)
        have j4 : ¬ (i.length : Int) < 0 := by omega
        by_cases hlx : x.t < m[k].f
        · have HADD := Lib.hid (HU.out.add hlt HM.out.1 HM.out.2 HA.out.sorted (tidy_last HU.out.un.1 hlx))
          have HADD2 : Hid (UnI m (k + 1) (i ++ [x] ++ [⟨m[k].f, m[k].t⟩])) := HADD.out
          have hown0 : wr.ownsRow w0.heap.size 23 2 (.slice (some ⟨g, 0, none⟩) (i.length + 1) cap) (i.length + 1) (flt (i ++ [x])) := hown
          have HK := Lib.hid hul
          clear hul HADD HM HU el eg hown hown1
          generalize x.f = xf at *
          generalize x.t = xt at *
          generalize m[k].f = f at *
          generalize m[k].t = t at *
          clear hlt
          go_wp2
          go_quiet (fail)
          go_wp2_with (at_builtin; obtain ⟨i0, hi, hz0, hz1, hz2⟩ := HI.out; refine wpList_append_own _ rfl _ _ 31 rfl w0.heap.size 23 i0 (.agg #[.int .i64 0, .int .i64 0]) 2 16 Try.underlying31 hi hz0 hz1 hz2 rfl (by decide) _ _ _ rfl ((hown0.alloc _).alloc _) ⟨wr.heap.size + 1, 0, none⟩ 1 1 [.int .i64 f, .int .i64 t] rfl rfl ?c1 ?c2 ?c3 ?c4 ?c5 ?_)
          case c1 =>
            intro j u hj
            match j, hj with
            | 0, hj => simp at hj; subst hj; exact (two_new _ _ _ _ _ (size_drewN _ _ _)).1
            | 1, hj => simp at hj; subst hj; exact (two_new _ _ _ _ _ (size_drewN _ _ _)).2
          case c2 => intro u hu; simp at hu; rcases hu with rfl | rfl <;> rfl
          case c3 => unfold maxLen; omega
          case c4 => omega
          case c5 => have := hb.size; rw [World.size_alloc, size_drewN]; omega
          intro v' w3 hown' hgrow hn'
          clear hi hz0 hz1 hz2
          have R : w3.ownsRow w0.heap.size 23 2 v' (i ++ [x] ++ [⟨f, t⟩] : List Sp).length (flt (i ++ [x] ++ [⟨f, t⟩])) ∧ Below w0.heap.size w0 w3 := by
            refine ⟨?_, ?_⟩
            · rw [flt_snoc, List.length_append, List.length_append]
              exact hown'
            · have hbb : Below w0.heap.size w0 ((wr.alloc (.cells #[.int .i64 f, .int .i64 t] 23)).drewN nq) := let x := hb.alloc hb.size (.cells #[.int .i64 f, .int .i64 t] 23); ⟨x.os, x.tape, x.output, x.size, x.block⟩
              have hz := hb.size
              refine Below.grown (hbb.alloc (by rw [size_drewN]; omega) _) hgrow (by rw [World.size_alloc, size_drewN]; omega) (fun j hj => ?_)
              exact (hown0.lt j hj).1
          clear hown' hgrow hown0 hb hn'
          go_wp2
          go_roundw
          case rel => exact ⟨k + 1, i ++ [x] ++ [⟨f, t⟩], hlt'.out, by go_num, HADD2.out, R.1, R.2⟩
          case measure => have := hlt'.out; simp [intOf]; omega
        · obtain ⟨mx, hmx⟩ : ∃ mx, max x.t m[k].t = mx := ⟨_, rfl⟩
          have emx : (if x.t < m[k].t then m[k].t else x.t) = mx := by split <;> omega
          have HMG : Hid (UnI m (k + 1) (i ++ [⟨x.f, mx⟩])) := by rw [← emx]; exact HU.out.merge hlt HM.out.2 hlx
          clear emx
          have f1 := hown1.frozenAt (i.length * 2 + 1)
          have HST := hown1.stored (i.length * 2 + 1) (.int .i64 mx)
          rw [Nat.mul_comm i.length 2, flt_set] at HST
          have HST := Lib.hid HST
          have HK := Lib.hid hul
          clear hul HM HU el eg hown1 hown
          generalize x.f = xf at *
          generalize x.t = xt at *
          generalize m[k].f = f at *
          generalize m[k].t = t at *
          clear hlt
          go_wp2
          go_quiet (fail)
          go_wp2
          go_region
          have R : (((wr.alloc (.cells #[.int .i64 f, .int .i64 t] 23)).drewN (nq + 1)).setCell ⟨g, i.length * 2 + 1, none⟩ (.int .i64 mx)).ownsRow w0.heap.size 23 2 (.slice (some ⟨g, 0, none⟩) (i ++ [⟨xf, mx⟩] : List Sp).length cap) (i ++ [⟨xf, mx⟩] : List Sp).length (flt (i ++ [⟨xf, mx⟩])) ∧ Below w0.heap.size w0 (((wr.alloc (.cells #[.int .i64 f, .int .i64 t] 23)).drewN (nq + 1)).setCell ⟨g, i.length * 2 + 1, none⟩ (.int .i64 mx)) := by
            refine ⟨?_, ?_⟩
            · rw [List.length_append, Nat.mul_comm i.length 2]
              exact HST.out.1
            · have hbb : Below w0.heap.size w0 ((wr.alloc (.cells #[.int .i64 f, .int .i64 t] 23)).drewN (nq + 1)) := let x := hb.alloc hb.size (.cells #[.int .i64 f, .int .i64 t] 23); ⟨x.os, x.tape, x.output, x.size, x.block⟩
              exact hbb.setCell (by show w0.heap.size ≤ g; omega) _
          have el : (i ++ [⟨xf, mx⟩] : List Sp).length = i.length + 1 := by simp
          have R2 := Lib.hid (And.intro R el)
          clear R el hb
          generalize (((wr.alloc (.cells #[.int .i64 f, .int .i64 t] 23)).drewN (nq + 1)).setCell ⟨g, i.length * 2 + 1, none⟩ (.int .i64 mx)) = w3 at *
          go_wp2
          go_roundw
          case rel => exact ⟨k + 1, i ++ [⟨xf, mx⟩], hlt'.out, by go_num, HMG.out, by have h1 := R2.out.2; have h2 := R2.out.1.1; rw [h1] at h2 ⊢; exact h2, R2.out.1.2⟩
          case measure => have := hlt'.out; simp [intOf]; omega
    · obtain rfl : k = m.length := by omega
      obtain ⟨v0, cap, rfl⟩ := slice_form hown
      have hun := HU.out.un
      rw [List.take_length] at hun
      have HR := Lib.hid (And.intro (asc_union HA.out hun) (And.intro (Nat.le_trans hul (asc_len HA.out)) (And.intro HU.out.nr (spat_owns hown))))
      have HB := Lib.hid (HB0.out.trans (hb.mono HB0.out.size))
      clear hun hown hb hul
      go_wp2
      go_returns
      exact ⟨⟨u, v0, cap, rfl, HR.out⟩, HB.out⟩
end Go.Proofs.Ytjfhkheedcpimaa
