/-
  slices.Sort of rows of at most 12 addresses, and of none.
-/
import Derived.Test.YtacjdgglfeemcaaHiSoA
import Derived.Test.YtacjdgglfeemcaaShelf
namespace Go.Proofs.Ytacjdgglfeemcaa
open Go.RowKit Go.Sort

theorem sortedIn_pairwise {d : Array Int} (h : SortedIn ltInt 0 d.size d) : d.toList.Pairwise (· ≤ ·) := by
  rw [List.pairwise_iff_getElem]
  intro i j hi hj hij
  have hi' : i < d.size := by simpa using hi
  have hj' : j < d.size := by simpa using hj
  have := h i j (Nat.zero_le _) hij hj'
  have h2 : ¬ d[j]! < d[i]! := of_decide_eq_false this
  rw [getElem!_pos d j hj', getElem!_pos d i hi'] at h2
  simp only [Array.getElem_toList]
  omega
theorem permIn_all_list {d d' : Array Int} (h : PermIn 0 d.size d d') : d'.toList.Perm d.toList := by
  obtain ⟨hs, -, hp⟩ := h
  have e1 : d.extract 0 d.size = d := by simp
  have e2 : d'.extract 0 d.size = d' := by rw [← hs]; simp
  rwa [e1, e2] at hp
theorem srt_of {w w' : World} {g c : Nat} {d d' : Array Int} (h : St w g 0 c d' w') (hp : PermIn 0 d.size d d') (hs : SortedIn ltInt 0 d.size d') : Srt w g d c w' :=
  ⟨d', h.1, permIn_all_list hp, sortedIn_pairwise (by rw [hp.1]; exact hs), h.2⟩

set_option maxRecDepth 1000000 in
set_option maxHeartbeats 4000000 in
theorem pdq_small (g o c : Nat) (d : Array Int) (L : Nat) (w : World) (hH : Rw w g o d c) (hn : d.size ≤ 12) :
    Calls Try.prog 26 #[.slice (some ⟨g, o, none⟩) d.size c, .int .i64 0, .int .i64 d.size, .int .i64 L] w fun e w' =>
      e = .returned (.tuple #[]) ∧ St w g o c (insertionSort ltInt d 0 d.size) w' := by
  have CI := Lib.hid (ins_any g o c 0 d.size d w hH (Nat.le_refl _) (by omega) (by omega))
  have h12 : ((d.size : Nat) : Int) ≤ 12 := by omega
  clear hH
  go_enter Try.func26, Try.ntmps26
  go_wp2
  refine wp_loop_rounds 1 ?_
  rw [rounds_succ]
  go_wp2_with (go_at_call 28; refine CI.out.mono ?_; rintro e w' ⟨rfl, h⟩)
  go_returns
  exact ⟨rfl, h⟩

theorem bitLenAux_le : ∀ f x, Lib.bitLenAux f x ≤ f
  | 0, _ => Nat.le_refl _
  | f + 1, x => by
    unfold Lib.bitLenAux
    split
    · exact Nat.zero_le _
    · have := bitLenAux_le f (x / 2); omega
theorem bitLen_le (x : Nat) : Lib.bitLen x ≤ 64 := bitLenAux_le 64 x

set_option maxHeartbeats 4000000 in
theorem sort_via {g c : Nat} {d : Array Int} {w : World} (hsz : d.size < 1000) (hp : ∀ L : Nat, L ≤ 64 → Calls Try.prog 26 #[.slice (some ⟨g, 0, none⟩) d.size c, .int .i64 0, .int .i64 d.size, .int .i64 L] w fun e w' => e = .returned (.tuple #[]) ∧ Srt w g d c w') :
    Calls Try.prog 23 #[.slice (some ⟨g, 0, none⟩) d.size c] w fun e w' => e = .returned (.tuple #[]) ∧ Srt w g d c w' := by
  have CB := Lib.hid (Try.bits_Len d.size w (by omega) (by omega))
  have CP := Lib.hid (hp (Lib.bitLen ((d.size : Int)).toNat) (bitLen_le _))
  go_enter Try.func23, Try.ntmps23
  go_wp2_with (first
    | (go_at_call 27; refine CB.out.mono ?_; rintro e w' ⟨rfl, rfl⟩)
    | (go_at_call 26; refine CP.out.mono ?_; rintro e w' ⟨rfl, h⟩))
  go_returns
  exact ⟨rfl, h⟩

theorem sort12 : SortOk 12 := by
  intro g c d W h _ hn
  refine sort_via (by omega) fun L _ => ?_
  obtain ⟨h1, h2⟩ := insertionSort_holds swo_ltInt d 0 d.size (Nat.zero_le _) (Nat.le_refl _)
  exact (pdq_small g 0 c d L W h hn).mono fun _ _ q => ⟨q.1, srt_of q.2 h1 h2⟩

set_option maxHeartbeats 4000000 in
theorem ins_nil (w : World) : Calls Try.prog 28 #[.slice none 0 0, .int .i64 0, .int .i64 0] w fun e w' => e = .returned (.tuple #[]) ∧ w = w' := by
  go_enter Try.func28, Try.ntmps28
  go_wp2
  refine wp_loop_rounds 1 ?_
  rw [rounds_succ]
  go_wp2
  go_end0
  exact ⟨rfl, rfl⟩
set_option maxRecDepth 1000000 in
set_option maxHeartbeats 4000000 in
theorem pdq_nil (L : Nat) (w : World) : Calls Try.prog 26 #[.slice none 0 0, .int .i64 0, .int .i64 0, .int .i64 L] w fun e w' => e = .returned (.tuple #[]) ∧ w = w' := by
  have CI := Lib.hid (ins_nil w)
  go_enter Try.func26, Try.ntmps26
  go_wp2
  refine wp_loop_rounds 1 ?_
  rw [rounds_succ]
  go_wp2_with (go_at_call 28; refine CI.out.mono ?_; rintro e w' ⟨rfl, rfl⟩)
  go_returns
  exact ⟨rfl, rfl⟩
set_option maxHeartbeats 4000000 in
theorem sort_nil : SortNil := by
  intro w
  have CB := Lib.hid (Try.bits_Len 0 w (by omega) (by omega))
  have CP := Lib.hid (pdq_nil (Lib.bitLen (0 : Int).toNat) w)
  go_enter Try.func23, Try.ntmps23
  go_wp2_with (first
    | (go_at_call 27; refine CB.out.mono ?_; rintro e w' ⟨rfl, rfl⟩)
    | (go_at_call 26; refine CP.out.mono ?_; rintro e w' ⟨rfl, rfl⟩))
  go_returns
  exact ⟨rfl, rfl⟩
end Go.Proofs.Ytacjdgglfeemcaa
