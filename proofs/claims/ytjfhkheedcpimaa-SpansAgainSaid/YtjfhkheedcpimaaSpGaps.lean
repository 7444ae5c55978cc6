/-
  THE WALKS of the reference's Gaps, Same, Cross.
-/
import Derived.Test.YtjfhkheedcpimaaSpRuns
namespace Go.Proofs.Ytjfhkheedcpimaa
open Go.RowKit Go.Sp

set_option maxRecDepth 100000 in
set_option maxHeartbeats 2000000 in
theorem refGaps_any (s : Sp) (l : List Sp) (sa : Option Addr) (c : Nat) (w : World) (hl : l.length ≤ 1000) (h : SpAt w sa l) :
    Calls Try.prog 22 #[sv s, .slice sa l.length c] w fun e w' => (∃ v0 c, e = .returned (.slice v0 (rs (mkG s l) 403).1.length c) ∧ SpAt w' v0 (rs (mkG s l) 403).1) ∧ Below w.heap.size w w' := by
  have HI := Lib.hid (info_parts infoBool)
  have HN := Lib.hid (fun (k : Nat) (wr : World) (h : SpAt wr sa l) => refIn_any l sa c ((k : Int) - 201) wr (by omega) h)
  have HH := Lib.hid (fun (k : Nat) (wr : World) => refHas_any s ((k : Int) - 201) wr)
  have HR := Lib.hid (runs_any (mkG s l))
  have HD : Hid (∀ k : Nat, mkG s l k = (decide (has s ((k : Int) - 201)) && !decide (InL l ((k : Int) - 201)))) := fun _ => rfl
  unfold sv at *
  have ha0 : SpAt (w.alloc (.cells #[.int .i64 s.f, .int .i64 s.t] 23)) sa l := h.below ((Below.refl _ _).alloc (Nat.le_refl _) _)
  have hx0 : (w.alloc (.cells #[.int .i64 s.f, .int .i64 s.t] 23)).cell? ⟨w.heap.size, 0, none⟩ = some (.int .i64 s.f) := by simp
  have hx1 : (w.alloc (.cells #[.int .i64 s.f, .int .i64 s.t] 23)).cell? ⟨w.heap.size, 1, none⟩ = some (.int .i64 s.t) := by simp
  have hbl : Below w.heap.size w (w.alloc (.cells #[.int .i64 s.f, .int .i64 s.t] 23)) := (Below.refl _ _).alloc (Nat.le_refl _) _
  have hlt0 : w.heap.size < (w.alloc (.cells #[.int .i64 s.f, .int .i64 s.t] 23)).heap.size := by simp
  have hsz : (w.alloc (.cells #[.int .i64 s.f, .int .i64 s.t] 23)).heap.size = w.heap.size + 1 := by simp
  clear h hl
  go_enter Try.func22, Try.ntmps22
  go_wp2
  generalize w.alloc (.cells #[.int .i64 s.f, .int .i64 s.t] 23) = w0 at *
  obtain ⟨b, hbe⟩ : ∃ b, b = w.heap.size := ⟨_, rfl⟩
  have HBE := Lib.hid hbe
  have HA := Lib.hid ha0
  have HX := Lib.hid (And.intro hx0 (And.intro hx1 hlt0))
  have HBL := Lib.hid hbl
  have HSZ := Lib.hid hsz
  generalize s.f = sf at *
  generalize s.t = st at *
  clear ha0 hx0 hx1 hbl hlt0 hbe hsz
  go_loopw [5, 6] (fun v i wr => ∃ (k : Nat) (z : Int), k ≤ 403 ∧ z = (k : Int) - 201 ∧ i = .int .i64 z ∧ wr.ownsRow w0.heap.size 4 1 v k (mks (mkG s l) k) ∧ Below w0.heap.size w0 wr)
    (fun _ i _ => (202 - intOf i).toNat)
  case atStart =>
    have h := World.ownsRow_made (base := w0.heap.size) (e := 4) (size := 1) w0 #[] 0 (Nat.le_refl _) (by decide) rfl
    have h2 := HSZ.out
    refine ⟨0, -201, by omega, by omega, rfl, ?_, (Below.refl _ _).alloc (Nat.le_refl _) _⟩
    rw [← h2]
    simpa [mks] using h
  case round =>
    rename_i wr
    obtain ⟨k, z, hk, hz, rfl, hown, hb⟩ := hrel
    by_cases hlt : k < 403
    · have hlt' := Lib.hid hlt
      have HZ := Lib.hid hz
      have hz1 : z ≤ 201 := by omega
      have hz2' : -201 ≤ z := by omega
      have x0 := (hb.cell (p := ⟨w.heap.size, 0, none⟩) HX.out.2.2).trans HX.out.1
      have x1 := (hb.cell (p := ⟨w.heap.size, 1, none⟩) HX.out.2.2).trans HX.out.2.1
      have hh := HH.out k wr
      have hi := fun (w1 : World) (h1 : SpAt w1 sa l) => HN.out k w1 h1
      have hd := HD.out k
      have hsp := HA.out.below hb
      rw [← hz] at hh hi hd
      have HS := Lib.hid (mks_succ (mkG s l) k)
      generalize decide (has s z) = p at *
      generalize decide (InL l z) = q at *
      generalize mkG s l k = m at *
      have CH := Lib.hid hh
      have CI := Lib.hid hi
      have HSP := Lib.hid hsp
      clear hi hh hz hsp
      cases p
      · cases q
        all_goals
          obtain rfl := hd
          go_wp2_with (first
            | (go_at_call 15; refine CH.out.mono ?_; rintro e w1 ⟨rfl, hb1⟩; have hown1 := owns_below hown hb1; have hsp1 := HSP.out.below hb1; have hbb := hb.trans (hb1.mono hb.size); clear hown hb hb1)
            | (go_at_call 28; refine (CI.out _ hsp1).mono ?_; rintro e w1b ⟨rfl, hb2⟩; have hown2 := owns_below hown1 hb2; have hbc := hbb.trans (hb2.mono hbb.size); clear hown1 hbb hb2 hsp1)
            | (at_builtin; obtain ⟨i0, hi, hz0, hz1, hz2⟩ := HI.out; refine wpList_append_own _ rfl _ _ 43 rfl w0.heap.size 4 i0 (.bool false) 1 1 Try.underlying43 hi hz0 hz1 hz2 rfl (by decide) _ _ _ rfl (hown1.alloc _) ⟨w1.heap.size, 0, none⟩ 1 1 [.bool false] rfl rfl ?c1 ?c2 ?c3 ?c4 ?c5 ?_))
          case c1 =>
            intro j u hj
            match j, hj with
            | 0, hj => simp at hj; subst hj; simp [Addr.add]
          case c2 => intro u hu; simp at hu; subst hu; rfl
          case c3 => unfold maxLen; omega
          case c4 => omega
          case c5 => have := hbb.size; simp; omega
          intro v' w2 hown' hgrow hn'
          clear hi hz0 hz1 hz2
          have R : w2.ownsRow w0.heap.size 4 1 v' (k + 1) (mks (mkG s l) (k + 1)) ∧ Below w0.heap.size w0 w2 := by
            refine ⟨?_, ?_⟩
            · rw [HS.out]; exact hown'
            · refine Below.grown (hbb.alloc hbb.size _) hgrow (by simp; have := hbb.size; omega) (fun j hj => ?_)
              exact (hown1.lt j hj).1
          clear hown' hgrow hown1 hn'
          go_wp2
          go_roundw
          case rel => exact ⟨k + 1, z + 1, hlt'.out, by have := HZ.out; omega, by go_num, R.1, R.2⟩
          case measure => simp [intOf]; omega
      · cases q
        · obtain rfl := hd
          go_wp2_with (first
            | (go_at_call 15; refine CH.out.mono ?_; rintro e w1 ⟨rfl, hb1⟩; have hown1 := owns_below hown hb1; have hsp1 := HSP.out.below hb1; have hbb := hb.trans (hb1.mono hb.size); clear hown hb hb1)
            | (go_at_call 28; refine (CI.out _ hsp1).mono ?_; rintro e w1b ⟨rfl, hb2⟩; have hown2 := owns_below hown1 hb2; have hbc := hbb.trans (hb2.mono hbb.size); clear hown1 hbb hb2 hsp1)
            | (at_builtin; obtain ⟨i0, hi, hz0, hz1, hz2⟩ := HI.out; refine wpList_append_own _ rfl _ _ 43 rfl w0.heap.size 4 i0 (.bool false) 1 1 Try.underlying43 hi hz0 hz1 hz2 rfl (by decide) _ _ _ rfl (hown2.alloc _) ⟨w1b.heap.size, 0, none⟩ 1 1 [.bool true] rfl rfl ?c1 ?c2 ?c3 ?c4 ?c5 ?_))
          case c1 =>
            intro j u hj
            match j, hj with
            | 0, hj => simp at hj; subst hj; simp [Addr.add]
          case c2 => intro u hu; simp at hu; subst hu; rfl
          case c3 => unfold maxLen; omega
          case c4 => omega
          case c5 => have := hbc.size; simp; omega
          intro v' w2 hown' hgrow hn'
          clear hi hz0 hz1 hz2
          have R : w2.ownsRow w0.heap.size 4 1 v' (k + 1) (mks (mkG s l) (k + 1)) ∧ Below w0.heap.size w0 w2 := by
            refine ⟨?_, ?_⟩
            · rw [HS.out]; exact hown'
            · refine Below.grown (hbc.alloc hbc.size _) hgrow (by simp; have := hbc.size; omega) (fun j hj => ?_)
              exact (hown2.lt j hj).1
          clear hown' hgrow hown2 hn'
          go_wp2
          go_roundw
          case rel => exact ⟨k + 1, z + 1, hlt'.out, by have := HZ.out; omega, by go_num, R.1, R.2⟩
          case measure => simp [intOf]; omega
        · obtain rfl := hd
          go_wp2_with (first
            | (go_at_call 15; refine CH.out.mono ?_; rintro e w1 ⟨rfl, hb1⟩; have hown1 := owns_below hown hb1; have hsp1 := HSP.out.below hb1; have hbb := hb.trans (hb1.mono hb.size); clear hown hb hb1)
            | (go_at_call 28; refine (CI.out _ hsp1).mono ?_; rintro e w1b ⟨rfl, hb2⟩; have hown2 := owns_below hown1 hb2; have hbc := hbb.trans (hb2.mono hbb.size); clear hown1 hbb hb2 hsp1)
            | (at_builtin; obtain ⟨i0, hi, hz0, hz1, hz2⟩ := HI.out; refine wpList_append_own _ rfl _ _ 43 rfl w0.heap.size 4 i0 (.bool false) 1 1 Try.underlying43 hi hz0 hz1 hz2 rfl (by decide) _ _ _ rfl (hown2.alloc _) ⟨w1b.heap.size, 0, none⟩ 1 1 [.bool false] rfl rfl ?c1 ?c2 ?c3 ?c4 ?c5 ?_))
          case c1 =>
            intro j u hj
            match j, hj with
            | 0, hj => simp at hj; subst hj; simp [Addr.add]
          case c2 => intro u hu; simp at hu; subst hu; rfl
          case c3 => unfold maxLen; omega
          case c4 => omega
          case c5 => have := hbc.size; simp; omega
          intro v' w2 hown' hgrow hn'
          clear hi hz0 hz1 hz2
          have R : w2.ownsRow w0.heap.size 4 1 v' (k + 1) (mks (mkG s l) (k + 1)) ∧ Below w0.heap.size w0 w2 := by
            refine ⟨?_, ?_⟩
            · rw [HS.out]; exact hown'
            · refine Below.grown (hbc.alloc hbc.size _) hgrow (by simp; have := hbc.size; omega) (fun j hj => ?_)
              exact (hown2.lt j hj).1
          clear hown' hgrow hown2 hn'
          go_wp2
          go_roundw
          case rel => exact ⟨k + 1, z + 1, hlt'.out, by have := HZ.out; omega, by go_num, R.1, R.2⟩
          case measure => simp [intOf]; omega
    · obtain rfl : k = 403 := by omega
      obtain ⟨g, cap, rfl, hg, hc⟩ := mks_cells hown (by decide)
      have HC := Lib.hid (HR.out g cap _ hc hg)
      have HB := Lib.hid (HBL.out.trans (hb.mono HBL.out.size))
      have hz1 : ¬ z ≤ 201 := by omega
      clear hown hb hg hc hz
      go_wp2_with (go_at_call 29; refine HC.out.mono ?_; rintro e w2 ⟨⟨v0, c2, rfl, hsp⟩, hb2⟩; have HS := Lib.hid hsp; have HB2 := Lib.hid (HB.out.trans (hb2.mono HB.out.size)); clear hsp hb2)
      go_returns
      exact ⟨⟨v0, c2, rfl, HS.out⟩, HB2.out⟩
end Go.Proofs.Ytjfhkheedcpimaa
