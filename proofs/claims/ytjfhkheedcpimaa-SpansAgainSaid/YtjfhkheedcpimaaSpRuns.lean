/-
  THE WALK of the reference's runs.
-/
import Derived.Test.YtjfhkheedcpimaaSpRef
namespace Go.Proofs.Ytjfhkheedcpimaa
open Go.RowKit Go.Sp

theorem infoSpan : (Try.prog.info? 23).map (fun i => (i.zero, i.size, i.bytes)) = some (some (.agg #[.int .i64 0, .int .i64 0]), 2, 16) := by kernel_rfl

def flt (l : List Sp) : List Value := l.flatMap fun s => [.int .i64 s.f, .int .i64 s.t]
theorem flt_len (l : List Sp) : (flt l).length = l.length * 2 := by
  unfold flt
  induction l with
  | nil => rfl
  | cons s l ih => rw [List.flatMap_cons, List.length_append, ih]; simp; omega
theorem flt_get (l : List Sp) : ∀ (i : Nat) (h : i < l.length), (flt l)[2 * i]? = some (.int .i64 l[i].f) ∧ (flt l)[2 * i + 1]? = some (.int .i64 l[i].t) := by
  induction l with
  | nil => intro i h; cases h
  | cons s l ih =>
    intro i h
    cases i with
    | zero => exact ⟨rfl, rfl⟩
    | succ i =>
      have := ih i (by simpa using h)
      exact this
theorem flt_snoc (l : List Sp) (s : Sp) : flt (l ++ [s]) = flt l ++ [.int .i64 s.f, .int .i64 s.t] := by unfold flt; rw [List.flatMap_append]; rfl

theorem spat_owns {l : List Sp} {base cap : Nat} {v0 : Option Addr} {wr : World} (h : wr.ownsRow base 23 2 (.slice v0 l.length cap) l.length (flt l)) : SpAt wr v0 l := by
  intro i hi
  have h0 := h
  obtain ⟨_, ⟨h1, h2⟩ | ⟨g, cap', cur, h1, hb, hh, hn, hc, hs, ht⟩⟩ := h
  · omega
  · injection h1 with e1 e2 e3
    subst e1
    obtain ⟨g1, g2⟩ := flt_get l i hi
    have c1 := h0.cells (g := g) rfl (2 * i) _ g1
    have c2 := h0.cells (g := g) rfl (2 * i + 1) _ g2
    have e : ∀ j : Nat, (⟨g, 0, none⟩ : Addr).add j = ⟨g, j, none⟩ := fun j => by unfold Addr.add; split <;> simp_all
    rw [e] at c1 c2
    refine ⟨g, 0, rfl, (Array.getElem?_eq_some_iff.1 hh).1, ?_, ?_⟩
    · rw [Nat.zero_add, Nat.mul_comm]; exact c1
    · rw [Nat.zero_add, Nat.mul_comm]; exact c2
theorem slice_form {base n size : Nat} {e : TypeId} {v : Value} {wr : World} {xs : List Value} (h : wr.ownsRow base e size v n xs) : ∃ v0 cap, v = .slice v0 n cap := by
  obtain ⟨_, ⟨h1, h2⟩ | ⟨g, cap, cur, h1, _⟩⟩ := h
  · exact ⟨none, 0, by rw [h1, h2]⟩
  · exact ⟨_, _, h1⟩

theorem rs_len (mk : Nat → Bool) : ∀ k, (rs mk k).1.length ≤ k
  | 0 => Nat.le_refl _
  | k + 1 => by
    have := rs_len mk k
    rw [rs]
    simp only
    split
    · rw [List.length_append]; simp; omega
    · omega

set_option maxRecDepth 100000 in
set_option maxHeartbeats 2000000 in
theorem runs_any (mk : Nat → Bool) (g cap : Nat) (w : World) (h : ∀ j, j < 403 → w.cell? ⟨g, j, none⟩ = some (.bool (mk j))) (hg : g < w.heap.size) :
    Calls Try.prog 29 #[.slice (some ⟨g, 0, none⟩) 403 cap] w fun e w' => (∃ v0 c, e = .returned (.slice v0 (rs mk 403).1.length c) ∧ SpAt w' v0 (rs mk 403).1) ∧ Below w.heap.size w w' := by
  have HI := Lib.hid (info_parts infoSpan)
  have HM := Lib.hid h
  have HG := Lib.hid hg
  clear h hg
  go_enter Try.func29, Try.ntmps29
  go_wp2
  go_loopw [3, 4, 5, 6] (fun v f b i wr => ∃ (k : Nat) (z : Int), k ≤ 403 ∧ i = .int .i64 k ∧ f = .int .i64 z ∧ z = (rs mk k).2.1 ∧ b = .bool (rs mk k).2.2 ∧ wr.ownsRow w.heap.size 23 2 v (rs mk k).1.length (flt (rs mk k).1) ∧ Below w.heap.size w wr)
    (fun _ _ _ i _ => 403 - (intOf i).toNat)
  case atStart =>
    have h := World.ownsRow_made (base := w.heap.size) (e := 23) (size := 2) w #[] 0 (Nat.le_refl _) (by decide) rfl
    exact ⟨0, 0, by omega, rfl, rfl, rfl, rfl, by simpa [rs, flt] using h, (Below.refl _ _).alloc (Nat.le_refl _) _⟩
  case round =>
    rename_i wr
    obtain ⟨k, z, hk, rfl, rfl, hz, rfl, hown, hb⟩ := hrel
    have hln := rs_len mk k
    by_cases hlt : k < 403
    · have hc0 := HM.out k hlt
      have hc := (hb.cell (p := ⟨g, k, none⟩) HG.out).trans hc0
      have hlt' := Lib.hid hlt
      have HS : Hid (rs mk (k + 1) = (if mk k = false ∧ (rs mk k).2.2 = true then (rs mk k).1 ++ [⟨(rs mk k).2.1, (k : Int) - 201⟩] else (rs mk k).1, if mk k = true ∧ (rs mk k).2.2 = false then (k : Int) - 201 else (rs mk k).2.1, mk k)) := rfl
      rw [← hz] at HS
      have HB := Lib.hid hb
      generalize mk k = m at hc hc0 HS
      generalize (rs mk k).1 = out at *
      generalize (rs mk k).2.2 = ins at *
      clear hz
      have hw : IntKind.i64.wrap ((k : Int) - 201) = k - 201 := IntWalk.i64_in _ (by omega)
      cases m <;> cases ins
      · rw [if_neg (by simp), if_neg (by simp)] at HS
        clear hb
        go_wp2
        go_roundw
        case rel => exact ⟨k + 1, z, hlt'.out, by go_num, rfl, by rw [HS.out], by rw [HS.out], by rw [HS.out]; exact hown, HB.out⟩
        case measure => have := hlt'.out; simp [intOf]; omega
      · rw [if_pos ⟨rfl, rfl⟩, if_neg (by simp)] at HS
        go_wp2_with (at_builtin; obtain ⟨i0, hi, hz0, hz1, hz2⟩ := HI.out; refine wpList_append_own _ rfl _ _ 31 rfl w.heap.size 23 i0 (.agg #[.int .i64 0, .int .i64 0]) 2 16 Try.underlying31 hi hz0 hz1 hz2 rfl (by decide) _ _ _ rfl (hown.alloc _) ⟨wr.heap.size, 0, none⟩ 1 1 [.int .i64 z, .int .i64 ((k : Int) - 201)] rfl rfl ?c1 ?c2 ?c3 ?c4 ?c5 ?_)
        case c1 =>
          intro j u hj
          match j, hj with
          | 0, hj => simp at hj; subst hj; simp [Addr.add]
          | 1, hj => simp at hj; subst hj; simp [Addr.add]
        case c2 => intro u hu; simp at hu; rcases hu with rfl | rfl <;> rfl
        case c3 => unfold maxLen; omega
        case c4 => omega
        case c5 => have := hb.size; simp; omega
        intro v' w1 hown' hgrow hn'
        clear hi hz0 hz1 hz2
        have R : w1.ownsRow w.heap.size 23 2 v' (rs mk (k + 1)).1.length (flt (rs mk (k + 1)).1) ∧ Below w.heap.size w w1 := by
          refine ⟨?_, ?_⟩
          · rw [HS.out]
            simp only
            rw [flt_snoc, List.length_append]
            exact hown'
          · refine Below.grown (hb.alloc hb.size _) hgrow (by simp; have := hb.size; omega) (fun j hj => ?_)
            exact (hown.lt j hj).1
        have hc1 := (R.2.cell (p := ⟨g, k, none⟩) HG.out).trans hc0
        clear hown' hgrow hown hn' hb
        go_wp2
        go_roundw
        case rel => exact ⟨k + 1, z, hlt'.out, by go_num, rfl, by rw [HS.out], by rw [HS.out], R.1, R.2⟩
        case measure => have := hlt'.out; simp [intOf]; omega
      · rw [if_neg (by simp), if_pos ⟨rfl, rfl⟩] at HS
        clear hb
        go_wp2
        go_roundw
        case rel => exact ⟨k + 1, (k : Int) - 201, hlt'.out, by go_num, rfl, by rw [HS.out], by rw [HS.out], by rw [HS.out]; exact hown, HB.out⟩
        case measure => have := hlt'.out; simp [intOf]; omega
      · rw [if_neg (by simp), if_neg (by simp)] at HS
        clear hb
        go_wp2
        go_roundw
        case rel => exact ⟨k + 1, z, hlt'.out, by go_num, rfl, by rw [HS.out], by rw [HS.out], by rw [HS.out]; exact hown, HB.out⟩
        case measure => have := hlt'.out; simp [intOf]; omega
    · obtain rfl : k = 403 := by omega
      obtain ⟨v0, c, rfl⟩ := slice_form hown
      have HS := Lib.hid (spat_owns hown)
      have HB := Lib.hid hb
      clear hown hb
      go_wp2
      go_returns
      exact ⟨⟨v0, c, rfl, HS.out⟩, HB.out⟩

/-! Union and Gaps: the marks. -/
theorem infoBool : (Try.prog.info? 4).map (fun i => (i.zero, i.size, i.bytes)) = some (some (.bool false), 1, 1) := by kernel_rfl
def mks (mk : Nat → Bool) (k : Nat) : List Value := (List.range k).map fun j => .bool (mk j)
theorem mks_len (mk : Nat → Bool) (k : Nat) : (mks mk k).length = k := by unfold mks; rw [List.length_map, List.length_range]
theorem mks_succ (mk : Nat → Bool) (k : Nat) : mks mk (k + 1) = mks mk k ++ [.bool (mk k)] := by unfold mks; rw [List.range_succ, List.map_append]; rfl
theorem mks_cells {mk : Nat → Bool} {base k : Nat} {v : Value} {wr : World} (h : wr.ownsRow base 4 1 v k (mks mk k)) (hk : 0 < k) :
    ∃ g cap, v = .slice (some ⟨g, 0, none⟩) k cap ∧ g < wr.heap.size ∧ ∀ j, j < k → wr.cell? ⟨g, j, none⟩ = some (.bool (mk j)) := by
  have h0 := h
  obtain ⟨_, ⟨h1, h2⟩ | ⟨g, cap, cur, rfl, hb, hh, hn, hc, hs, ht⟩⟩ := h
  · omega
  · refine ⟨g, cap, rfl, (Array.getElem?_eq_some_iff.1 hh).1, fun j hj => ?_⟩
    have := h0.cells (g := g) rfl j (.bool (mk j)) (by unfold mks; simp [hj])
    have e : (⟨g, 0, none⟩ : Addr).add j = ⟨g, j, none⟩ := by unfold Addr.add; split <;> simp_all
    rwa [e] at this

/-- What is marked. -/
def mkU (l : List Sp) (j : Nat) : Bool := decide (InL l ((j : Int) - 201))
def mkG (s : Sp) (l : List Sp) (j : Nat) : Bool := decide (has s ((j : Int) - 201)) && !decide (InL l ((j : Int) - 201))

theorem owns_below {base n size : Nat} {e : TypeId} {v : Value} {wr w1 : World} {xs : List Value} (h : wr.ownsRow base e size v n xs) (hb : Below wr.heap.size wr w1) : w1.ownsRow base e size v n xs := by
  obtain ⟨h0, h1 | ⟨g, cap, cur, h1, h2, hh, h3⟩⟩ := h
  · exact ⟨h0, .inl h1⟩
  · exact ⟨h0, .inr ⟨g, cap, cur, h1, h2, (hb.block g (Array.getElem?_eq_some_iff.1 hh).1).trans hh, h3⟩⟩

set_option maxRecDepth 100000 in
set_option maxHeartbeats 2000000 in
theorem refUnion_any (l : List Sp) (sa : Option Addr) (c : Nat) (w : World) (hl : l.length ≤ 1000) (h : SpAt w sa l) :
    Calls Try.prog 17 #[.slice sa l.length c] w fun e w' => (∃ v0 c, e = .returned (.slice v0 (rs (mkU l) 403).1.length c) ∧ SpAt w' v0 (rs (mkU l) 403).1) ∧ Below w.heap.size w w' := by
  have HI := Lib.hid (info_parts infoBool)
  have HA := Lib.hid h
  have HN := Lib.hid (fun (k : Nat) (wr : World) (h : SpAt wr sa l) => refIn_any l sa c ((k : Int) - 201) wr (by omega) h)
  have HR := Lib.hid (runs_any (mkU l))
  clear h hl
  go_enter Try.func17, Try.ntmps17
  go_wp2
  go_loopw [3, 4] (fun v i wr => ∃ (k : Nat) (z : Int), k ≤ 403 ∧ z = (k : Int) - 201 ∧ i = .int .i64 z ∧ wr.ownsRow w.heap.size 4 1 v k (mks (mkU l) k) ∧ Below w.heap.size w wr)
    (fun _ i _ => (202 - intOf i).toNat)
  case atStart =>
    have h := World.ownsRow_made (base := w.heap.size) (e := 4) (size := 1) w #[] 0 (Nat.le_refl _) (by decide) rfl
    exact ⟨0, -201, by omega, by omega, rfl, by simpa [mks] using h, (Below.refl _ _).alloc (Nat.le_refl _) _⟩
  case round =>
    rename_i wr
    obtain ⟨k, z, hk, hz, rfl, hown, hb⟩ := hrel
    by_cases hlt : k < 403
    · have hlt' := Lib.hid hlt
      have HZ := Lib.hid hz
      have hz1 : z ≤ 201 := by omega
      have hz2' : -201 ≤ z := by omega
      have hi := HN.out k _ (HA.out.below hb)
      rw [← hz, show decide (InL l z) = mkU l k by unfold mkU; rw [← hz]] at hi
      have CI := Lib.hid hi
      have HS := Lib.hid (mks_succ (mkU l) k)
      generalize mkU l k = m at *
      clear hi hz
      go_wp2_with (first
        | (go_at_call 28; refine CI.out.mono ?_; rintro e w1 ⟨rfl, hb1⟩; have hown1 := owns_below hown hb1; have hbb := hb.trans (hb1.mono hb.size); clear hown hb hb1)
        | (at_builtin; obtain ⟨i0, hi, hz0, hz1, hz2⟩ := HI.out; refine wpList_append_own _ rfl _ _ 43 rfl w.heap.size 4 i0 (.bool false) 1 1 Try.underlying43 hi hz0 hz1 hz2 rfl (by decide) _ _ _ rfl (hown1.alloc _) ⟨w1.heap.size, 0, none⟩ 1 1 [.bool m] rfl rfl ?c1 ?c2 ?c3 ?c4 ?c5 ?_))
      case c1 =>
        intro j u hj
        match j, hj with
        | 0, hj => simp at hj; subst hj; simp [Addr.add]
      case c2 => intro u hu; simp at hu; subst hu; rfl
      case c3 => unfold maxLen; omega
      case c4 => omega
      case c5 => have := hbb.size; simp; omega
      intro v' w2 hown' hgrow hn'
      clear hi hz0 hz1 hz2
      have R : w2.ownsRow w.heap.size 4 1 v' (k + 1) (mks (mkU l) (k + 1)) ∧ Below w.heap.size w w2 := by
        refine ⟨?_, ?_⟩
        · rw [HS.out]; exact hown'
        · refine Below.grown (hbb.alloc hbb.size _) hgrow (by simp; have := hbb.size; omega) (fun j hj => ?_)
          exact (hown1.lt j hj).1
      clear hown' hgrow hown1 hn'
      go_wp2
      go_roundw
      case rel => exact ⟨k + 1, z + 1, hlt'.out, by have := HZ.out; omega, by go_num, R.1, R.2⟩
      case measure => simp [intOf]; omega
    · obtain rfl : k = 403 := by omega
      obtain ⟨g, cap, rfl, hg, hc⟩ := mks_cells hown (by decide)
      have HC := Lib.hid (HR.out g cap _ hc hg)
      have HB := Lib.hid hb
      have hz1 : ¬ z ≤ 201 := by omega
      clear hown hb hg hc hz
      go_wp2_with (go_at_call 29; refine HC.out.mono ?_; rintro e w2 ⟨⟨v0, c2, rfl, hsp⟩, hb2⟩; have HS := Lib.hid hsp; have HB2 := Lib.hid (HB.out.trans (hb2.mono HB.out.size)); clear hsp hb2)
      go_returns
      exact ⟨⟨v0, c2, rfl, HS.out⟩, HB2.out⟩
end Go.Proofs.Ytjfhkheedcpimaa
