/-
  WALKS of the reference's Window and of the law's same.
-/
import Derived.Test.YtjpmjffamecddaaSqRef
namespace Go.Proofs.Ytjpmjffamecddaa
open Go.RowKit Go.Sq

theorem infoInt : (Try.prog.info? 3).map (fun i => (i.zero, i.size, i.bytes)) = some (some (.int .i64 0), 1, 8) := by kernel_rfl

/-- The slice v holds the list zs. -/
def SlV (w : World) (v : Value) (zs : List Int) : Prop :=
  (v = .slice none 0 0 ∧ zs = []) ∨ ∃ g cap, v = .slice (some ⟨g, 0, none⟩) zs.length cap ∧ ∀ j, j < zs.length → w.cell? ⟨g, j, none⟩ = some (.int .i64 (zs.getD j 0))
theorem SlV.below {w w' : World} {v : Value} {zs : List Int} (h : SlV w v zs) (hb : Below w.heap.size w w') : SlV w' v zs := by
  rcases h with h | ⟨g, cap, hv, hc⟩
  · exact .inl h
  · exact .inr ⟨g, cap, hv, fun j hj => (hb.cell (p := ⟨g, j, none⟩) (World.block_lt_of_cell? _ _ (hc j hj))).trans (hc j hj)⟩

theorem slv_owns {l : List Int} {base : Nat} {v : Value} {wr : World} (h : wr.ownsRow base 3 1 v l.length (l.map (Value.int .i64))) : SlV wr v l := by
  have h0 := h
  obtain ⟨_, ⟨h1, h2⟩ | ⟨g, cap, cur, rfl, hb, hh, hn, hc, hs, ht⟩⟩ := h
  · exact .inl ⟨h1, List.eq_nil_of_length_eq_zero h2⟩
  · refine .inr ⟨g, cap, rfl, fun j hj => ?_⟩
    have := h0.cells (g := g) rfl j (.int .i64 l[j]) (by simp [hj])
    simp only [Addr.add] at this
    have e : l.getD j 0 = l[j] := by simp [List.getD, hj]
    rw [e]
    by_cases h0 : j = 0
    · subst h0; simpa using this
    · simpa [h0] using this

theorem slice_form {base n : Nat} {v : Value} {wr : World} {xs : List Value} (h : wr.ownsRow base 3 1 v n xs) : ∃ v0 cap, v = .slice v0 n cap := by
  obtain ⟨_, ⟨h1, h2⟩ | ⟨g, cap, cur, h1, _⟩⟩ := h
  · exact ⟨none, 0, by rw [h1, h2]⟩
  · exact ⟨_, _, h1⟩

set_option maxHeartbeats 1000000 in
theorem same_rows (m : Nat) (f : Nat → Int) (g g' c c' : Nat) (w : World) (hz : m ≤ 1000000) (h1 : ∀ j, j < m → w.cell? ⟨g, j, none⟩ = some (.int .i64 (f j))) (h2 : ∀ j, j < m → w.cell? ⟨g', j, none⟩ = some (.int .i64 (f j))) :
    Calls Try.prog 20 #[.slice (some ⟨g, 0, none⟩) m c, .slice (some ⟨g', 0, none⟩) m c'] w fun e w' => e = .returned (.bool true) ∧ Below w.heap.size w w' := by
  have H1 := Lib.hid h1
  have H2 := Lib.hid h2
  clear h1 h2
  go_enter Try.func20, Try.ntmps20
  go_wp2
  go_loopw [5] (fun i wr => ∃ k q : Nat, k ≤ m ∧ i = .int .i64 k ∧ wr = w.drewN q) (fun i _ => m - (intOf i).toNat)
  case atStart => exact ⟨0, 0, Nat.zero_le _, rfl, rfl⟩
  case round =>
    obtain ⟨k, q, hk, rfl, rfl⟩ := hrel
    by_cases hlt : k < m
    · have c1 : w.cell? ⟨g, k, none⟩ = some (.int .i64 (f k)) := H1.out k hlt
      have c2 : w.cell? ⟨g', k, none⟩ = some (.int .i64 (f k)) := H2.out k hlt
      generalize f k = z at c1 c2
      have i0 : (0 : Int) ≤ (k : Int) := by omega
      have i1 : (k : Int) < (m : Int) := by omega
      go_wp2
      go_quiet (fail)
      go_wp2
      go_roundw
      case rel => exact ⟨k + 1, _, by omega, by go_num, rfl⟩
      case measure => simp [intOf]; omega
    · obtain rfl : k = m := by omega
      go_wp2
      go_returns
      exact ⟨rfl, ⟨rfl, rfl, rfl, Nat.le_refl _, fun _ _ => rfl⟩⟩

theorem same_zero (v v' : Value) (w : World) (h : v = .slice none 0 0 ∨ ∃ g c, v = .slice (some ⟨g, 0, none⟩) 0 c) (h' : v' = .slice none 0 0 ∨ ∃ g c, v' = .slice (some ⟨g, 0, none⟩) 0 c) :
    Calls Try.prog 20 #[v, v'] w fun e w' => e = .returned (.bool true) ∧ Below w.heap.size w w' := by
  rcases h with rfl | ⟨g, c, rfl⟩ <;> rcases h' with rfl | ⟨g', c', rfl⟩
  all_goals
    go_enter Try.func20, Try.ntmps20
    go_wp2
    go_loop [5] (fun i => i = .int .i64 0) (fun _ => 0)
    case atStart => rfl
    case round =>
      subst hrel
      go_wp2
      go_returns
      exact ⟨rfl, Below.refl _ _⟩

/-- Two slices that hold the same list are the same. -/
theorem same_any (zs : List Int) (v v' : Value) (w : World) (hz : zs.length ≤ 1000000) (h : SlV w v zs) (h' : SlV w v' zs) :
    Calls Try.prog 20 #[v, v'] w fun e w' => e = .returned (.bool true) ∧ Below w.heap.size w w' := by
  by_cases h0 : zs.length = 0
  · have e : ∀ u, SlV w u zs → u = .slice none 0 0 ∨ ∃ g c, u = .slice (some ⟨g, 0, none⟩) 0 c := fun u hu => by
      rcases hu with ⟨h1, _⟩ | ⟨g, c, h1, _⟩
      · exact .inl h1
      · rw [h0] at h1; exact .inr ⟨g, c, h1⟩
    exact same_zero v v' w (e v h) (e v' h')
  · rcases h with ⟨_, h1⟩ | ⟨g, c, rfl, hc⟩
    · rw [h1] at h0; exact absurd rfl h0
    · rcases h' with ⟨_, h1⟩ | ⟨g', c', rfl, hc'⟩
      · rw [h1] at h0; exact absurd rfl h0
      · exact same_rows zs.length (fun j => zs.getD j 0) g g' c c' w hz hc hc'

set_option maxRecDepth 100000 in
set_option maxHeartbeats 2000000 in
theorem refWindow_any (a s : Int) (w : World) :
    Calls Try.prog 21 #[.int .i64 a, .int .i64 s] w fun e w' => (∃ v cap, e = .returned (.slice v (cnt s) cap) ∧ SlV w' (.slice v (cnt s) cap) (win a s)) ∧ Below w.heap.size w w' := by
  have HI := Lib.hid (info_parts infoInt)
  obtain ⟨m, hm⟩ : ∃ m, m = cnt s := ⟨_, rfl⟩
  have hml := cnt_le s
  have hms : ∀ k : Nat, k ≤ m → ((k < m) ↔ (((k : Int) < s) ∧ ((k : Int) < 4096))) := fun k hk => by rw [hm] at hk ⊢; unfold cnt at *; omega
  have HM := Lib.hid hms
  have HW : Hid (win a s = wink a m) := by show win a s = wink a m; rw [hm]; rfl
  rw [← hm] at hml ⊢
  clear hm hms
  go_enter Try.func21, Try.ntmps21
  go_wp2
  go_loopw [5, 6] (fun v i wr => ∃ k : Nat, k ≤ m ∧ i = .int .i64 k ∧ wr.ownsRow w.heap.size 3 1 v (wink a k).length ((wink a k).map (Value.int .i64)) ∧ Below w.heap.size w wr)
    (fun _ i _ => m - (intOf i).toNat)
  case atStart => exact ⟨0, Nat.zero_le _, rfl, World.ownsRow_nil _ _ _ _, Below.refl _ _⟩
  case round =>
    rename_i wr
    obtain ⟨k, hk, rfl, hown, hb⟩ := hrel
    have hkl := wink_len a k
    have hiff := HM.out k hk
    by_cases hlt : k < m
    · obtain ⟨h1, h2⟩ := hiff.1 hlt
      have HS : Hid (wink a (k + 1) = wink a k ++ [add a k]) := rfl
      have CA := Lib.hid (fun w => refAdd_any a (k : Int) w)
      have hlt' := Lib.hid hlt
      generalize add a (k : Int) = x at *
      clear hiff
      go_wp2_with (first
        | (go_at_call 11; refine (CA.out _).mono ?_; rintro e w' ⟨rfl, rfl⟩)
        | (at_builtin; obtain ⟨i0, hi, hz0, hz1, hz2⟩ := HI.out; refine wpList_append_own _ rfl _ _ 26 rfl w.heap.size 3 i0 (.int .i64 0) 1 8 Try.underlying26 hi hz0 hz1 hz2 rfl (by decide) _ _ _ rfl (hown.alloc _) ⟨wr.heap.size, 0, none⟩ 1 1 [.int .i64 x] rfl rfl ?c1 ?c2 ?c3 ?c4 ?c5 ?_))
      case c1 =>
        intro j u hj
        match j, hj with
        | 0, hj => simp at hj; subst hj; simp [Addr.add]
      case c2 => intro u hu; simp at hu; subst hu; rfl
      case c3 => rw [hkl]; unfold maxLen; omega
      case c4 => rw [hkl]; omega
      case c5 => have := hb.size; simp; omega
      intro v' w1 hown' hgrow hn'
      clear hi hz0 hz1 hz2
      have R : w1.ownsRow w.heap.size 3 1 v' (wink a (k + 1)).length ((wink a (k + 1)).map (Value.int .i64)) ∧ Below w.heap.size w w1 := by
        refine ⟨?_, ?_⟩
        · have e3 : (wink a (k + 1)).length = k + 1 := wink_len _ _
          rw [e3, HS.out]; simpa using hown'
        · refine Below.grown (hb.alloc hb.size _) hgrow (by simp; have := hb.size; omega) (fun j hj => ?_)
          exact (hown.lt j hj).1
      clear hown' hgrow hown hn'
      go_wp2
      go_roundw
      case rel => exact ⟨k + 1, hlt'.out, by go_num, R.1, R.2⟩
      case measure => have := hlt'.out; simp [intOf]; omega
    · obtain rfl : k = m := by omega
      have hs := slv_owns hown
      rw [← HW.out] at hs
      have hkl' := hkl
      have HS := Lib.hid hs
      have HB := Lib.hid hb
      rw [hkl] at hown
      obtain ⟨v0, cap, rfl⟩ := slice_form hown
      have hno : ¬ (((k : Int) < s) ∧ ((k : Int) < 4096)) := fun h => hlt (hiff.2 h)
      clear hown hb hs hiff
      by_cases h1 : (k : Int) < s
      · have h2 : ¬ (k : Int) < 4096 := fun h => hno ⟨h1, h⟩
        clear hno
        go_wp2
        go_returns
        exact ⟨⟨_, _, rfl, HS.out⟩, HB.out⟩
      · clear hno
        go_wp2
        go_returns
        exact ⟨⟨_, _, rfl, HS.out⟩, HB.out⟩
end Go.Proofs.Ytjpmjffamecddaa
