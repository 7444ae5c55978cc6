/-
  WALKS of the reference's Elements and Down.
-/
import Derived.Test.YtfmjekfgfkcleaaDoorBsWalks
namespace Go.Proofs.YtfmjekfgfkcleaaDoor
open Go.RowKit Go.Bs

theorem infoInt : (Tryd.prog.info? 3).map (fun i => (i.zero, i.size, i.bytes)) = some (some (.int .i64 0), 1, 8) := by kernel_rfl

/-- What Elements hands back: a slice in new memory that holds the elements. -/
def ElsPost (s : Nat) (w : World) (e : Ending) (w' : World) : Prop :=
  ∃ g cap, e = .returned (.slice (some ⟨g, 0, none⟩) (els s).length cap) ∧ (∀ j (h : j < (els s).length), w'.cell? ⟨g, j, none⟩ = some (.int .i64 (els s)[j])) ∧ w.heap.size ≤ g ∧ g < w'.heap.size ∧ Below w.heap.size w w'

theorem owns_els {s k base : Nat} {v : Value} {wr : World} (h : wr.ownsRow base 3 1 v (elk s k).length ((elk s k).map (Value.int .i64))) (hne : v ≠ .slice none 0 0) :
    ∃ g cap, v = .slice (some ⟨g, 0, none⟩) (elk s k).length cap ∧ base ≤ g ∧ g < wr.heap.size ∧ ∀ j (h : j < (elk s k).length), wr.cell? ⟨g, j, none⟩ = some (.int .i64 (elk s k)[j]) := by
  have h0 := h
  obtain ⟨_, ⟨h1, _⟩ | ⟨g, cap, cur, rfl, hb, hh, hn, hc, hs, ht⟩⟩ := h
  · exact absurd h1 hne
  · refine ⟨g, cap, rfl, hb, (Array.getElem?_eq_some_iff.1 hh).1, fun j hj => ?_⟩
    have := h0.cells (g := g) rfl j (.int .i64 (elk s k)[j]) (by simp [hj])
    simp only [Addr.add] at this
    by_cases h0 : j = 0
    · subst h0; simpa using this
    · simpa [h0] using this

set_option maxHeartbeats 1000000 in
theorem refElements_any (s : Nat) (w : World) (hs : s < 18446744073709551616) :
    Calls Tryd.prog 19 #[.int .u64 s] w fun e w' => ElsPost s w e w' := by
  have HI := Lib.hid (info_parts infoInt)
  have Hs := Lib.hid hs
  clear hs
  go_enter Tryd.func19, Tryd.ntmps19
  go_wp2
  go_loopw [3, 4] (fun v i wr => ∃ k : Nat, k ≤ 64 ∧ i = .int .i64 k ∧ wr.ownsRow w.heap.size 3 1 v (elk s k).length ((elk s k).map (Value.int .i64)) ∧ Below w.heap.size w wr ∧ v ≠ .slice none 0 0)
    (fun _ i _ => 64 - (intOf i).toNat)
  case atStart =>
    have h := World.ownsRow_made (base := w.heap.size) (e := 3) (size := 1) w #[] 0 (Nat.le_refl _) (by decide) rfl
    exact ⟨0, by omega, rfl, by simpa [elk] using h, (Below.refl _ _).alloc (Nat.le_refl _) _, by simp⟩
  case round =>
    rename_i wr
    obtain ⟨k, hk, rfl, hown, hb, hnn⟩ := hrel
    have hel := elk_len s k
    by_cases hlt : k < 64
    · cases hh : has s k
      · have HS := Lib.hid (elk_no hh)
        go_wp2_with (go_at_call 12; refine (refHas_any _ _ _ Hs.out).mono ?_; rintro e w' ⟨rfl, rfl⟩)
        go_roundw
        case rel => exact ⟨k + 1, by omega, by go_num, by rw [HS.out]; exact hown, hb, hnn⟩
        case measure => simp [intOf]; omega
      · have HS := Lib.hid (elk_yes hh)
        go_wp2_with (first
          | (go_at_call 12; refine (refHas_any _ _ _ Hs.out).mono ?_; rintro e w' ⟨rfl, rfl⟩)
          | (at_builtin; obtain ⟨i0, hi, hz0, hz1, hz2⟩ := HI.out; refine wpList_append_own _ rfl _ _ 26 rfl w.heap.size 3 i0 (.int .i64 0) 1 8 Tryd.underlying26 hi hz0 hz1 hz2 rfl (by decide) _ _ _ rfl (hown.alloc _) ⟨wr.heap.size, 0, none⟩ 1 1 [.int .i64 k] rfl rfl ?c1 ?c2 ?c3 ?c4 ?c5 ?_))
        case c1 =>
          intro j u hj
          match j, hj with
          | 0, hj => simp at hj; subst hj; simp [Addr.add]
        case c2 => intro u hu; simp at hu; subst hu; rfl
        case c3 => unfold maxLen; omega
        case c4 => omega
        case c5 => have := hb.size; simp; omega
        intro v' w1 hown' hgrow hn'
        clear hi hz0 hz1 hz2
        have R : w1.ownsRow w.heap.size 3 1 v' (elk s (k + 1)).length ((elk s (k + 1)).map (Value.int .i64)) ∧ Below w.heap.size w w1 ∧ v' ≠ .slice none 0 0 := by
          refine ⟨?_, ?_, hn'⟩
          · rw [HS.out]; simpa using hown'
          · refine Below.grown (hb.alloc hb.size _) hgrow (by simp; have := hb.size; omega) (fun j hj => ?_)
            exact (hown.lt j hj).1
        clear hown' hgrow hown hn'
        go_wp2
        go_roundw
        case rel => exact ⟨k + 1, by omega, by go_num, R.1, R.2.1, R.2.2⟩
        case measure => simp [intOf]; omega
    · obtain rfl : k = 64 := by omega
      obtain ⟨g, cap, rfl, h1, h2, h3⟩ := owns_els hown hnn
      go_wp2
      go_ret
      exact ⟨g, cap, rfl, h3, h1, h2, hb⟩

set_option maxHeartbeats 1000000 in
theorem refDown_any (s : Nat) (n : Int) (w : World) (hs : s < 18446744073709551616) :
    Calls Tryd.prog 25 #[.int .u64 s, .int .i64 n] w fun e w' => e = .returned (.int .u64 (dwn s n : Int)) ∧ Below w.heap.size w w' := by
  obtain ⟨m, hm, hmn, hm1⟩ : ∃ m : Int, 0 ≤ m ∧ dwn s n = dwn s m ∧ ((0 ≤ n ∧ m = n) ∨ (n < 0 ∧ m = 0)) := by
    by_cases h : 0 ≤ n
    · exact ⟨n, h, rfl, .inl ⟨h, rfl⟩⟩
    · exact ⟨0, by omega, by rw [dwn_neg (by omega), dwn_neg (by omega)], .inr ⟨by omega, rfl⟩⟩
  rw [hmn]
  have HD := Lib.hid (dnl_els hs m hm)
  have Hs := Lib.hid hs
  clear hs hmn
  have hE : ∀ w, Calls Tryd.prog 19 #[.int .u64 s] w fun e w' => ElsPost s w e w' := fun w => refElements_any s w Hs.out
  rcases hm1 with ⟨h, rfl⟩ | ⟨h, rfl⟩
  · go_enter Tryd.func25, Tryd.ntmps25
    go_wp2_with (go_at_call 19; refine (hE _).mono ?_; rintro e w1 ⟨g, cap, rfl, hc, hg, hg2, hb⟩)
    have HC := Lib.hid hc
    clear hc
    go_loop [6, 7] (fun x i => ∃ k : Nat, k ≤ (els s).length ∧ i = .int .i64 k ∧ x = .int .u64 (dnl m ((els s).take k) : Int)) (fun _ i => (els s).length - (intOf i).toNat)
    case atStart => exact ⟨0, Nat.zero_le _, rfl, rfl⟩
    case round =>
      obtain ⟨k, hk, rfl, rfl⟩ := hrel
      have hl64 : (els s).length ≤ 64 := elk_len s 64
      have hl := Lib.hid (dnl_lt m ((els s).take k))
      by_cases hlt : k < (els s).length
      · have HS := Lib.hid (dnl_snoc m (els s) k hlt)
        have hz := els_range hlt
        have hcell := HC.out k hlt
        generalize (els s)[k] = z at HS hz hcell
        obtain ⟨hz0, hz1⟩ := hz
        by_cases hle : m ≤ z
        · go_wp2_with (go_at_call 14; refine (refWith_any _ _ _ hl.out).mono ?_; rintro e w' ⟨rfl, rfl⟩)
          go_round
          case rel => exact ⟨k + 1, by omega, by go_num, by rw [HS.out, if_pos hle]; try simp⟩
          case measure => simp [intOf]; omega
        · go_wp2
          go_round
          case rel => exact ⟨k + 1, by omega, by go_num, by rw [HS.out, if_neg hle]⟩
          case measure => simp [intOf]; omega
      · obtain rfl : k = (els s).length := by omega
        go_wp2
        go_ret
        exact ⟨congrArg (fun x : Nat => Ending.returned (.int .u64 (x : Int))) HD.out, hb⟩
  · go_enter Tryd.func25, Tryd.ntmps25
    go_wp2_with (go_at_call 19; refine (hE _).mono ?_; rintro e w1 ⟨g, cap, rfl, hc, hg, hg2, hb⟩)
    have HC := Lib.hid hc
    clear hc
    go_loop [6, 7] (fun x i => ∃ k : Nat, k ≤ (els s).length ∧ i = .int .i64 k ∧ x = .int .u64 (dnl 0 ((els s).take k) : Int)) (fun _ i => (els s).length - (intOf i).toNat)
    case atStart => exact ⟨0, Nat.zero_le _, rfl, rfl⟩
    case round =>
      obtain ⟨k, hk, rfl, rfl⟩ := hrel
      have hl64 : (els s).length ≤ 64 := elk_len s 64
      have hl := Lib.hid (dnl_lt 0 ((els s).take k))
      by_cases hlt : k < (els s).length
      · have HS := Lib.hid (dnl_snoc 0 (els s) k hlt)
        have hz := els_range hlt
        have hcell := HC.out k hlt
        generalize (els s)[k] = z at HS hz hcell
        obtain ⟨hz0, hz1⟩ := hz
        by_cases hle : 0 ≤ z
        · go_wp2_with (go_at_call 14; refine (refWith_any _ _ _ hl.out).mono ?_; rintro e w' ⟨rfl, rfl⟩)
          go_round
          case rel => exact ⟨k + 1, by omega, by go_num, by rw [HS.out, if_pos hle]; try simp⟩
          case measure => simp [intOf]; omega
        · exact absurd hz0 hle
      · obtain rfl : k = (els s).length := by omega
        go_wp2
        go_ret
        exact ⟨congrArg (fun x : Nat => Ending.returned (.int .u64 (x : Int))) HD.out, hb⟩
end Go.Proofs.YtfmjekfgfkcleaaDoor
