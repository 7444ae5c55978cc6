/-
  WALKS of the reference's Limit, Octets, and of its Writer: Num, Text, Done.
-/
import Derived.Test.YtekdfcbkpljllaaWrFault
import Derived.Laws.Concat
import Derived.Laws.IdiomStrings
import Derived.Deep.RegionWith
namespace Go.Proofs.Ytekdfcbkpljllaa
open Go.RowKit Go.Wr

/-- The reference's Writer or Reader as a value. -/
def rv (s : ByteArray) (e : Int) : Value := .agg #[.string s, .int .i64 e]

set_option maxHeartbeats 400000 in
theorem limit_any (k : Nat) (w : World) (h : k ≤ 6) :
    Calls Try.prog 32 #[.int .i64 k] w fun e w' => e = .returned (.int .i64 (pow k : Int)) ∧ w = w' := by
  go_enter Try.func32, Try.ntmps32
  go_wp2
  go_loop [3, 4] (fun x i => ∃ m : Nat, m ≤ k ∧ i = .int .i64 m ∧ x = .int .i64 (pow m : Int)) (fun _ i => k - (intOf i).toNat)
  case atStart => exact ⟨0, Nat.zero_le _, rfl, rfl⟩
  case round =>
    obtain ⟨m, hm, rfl, rfl⟩ := hrel
    have h5 : pow m ≤ pow 6 := pow_le (by omega)
    rw [pow_6] at h5
    by_cases hlt : m < k
    · have HS := Lib.hid (pow_succ m)
      go_wp2
      go_round
      case rel => exact ⟨m + 1, by omega, by go_num, by rw [HS.out]; go_num⟩
      case measure => simp [intOf]; omega
    · obtain rfl : m = k := by omega
      go_wp2
      go_returns
      exact ⟨rfl, rfl⟩

theorem infoByte' : (Try.prog.info? 5).map (fun i => (i.zero, i.size, i.bytes)) = some (some (.int .u8 0), 1, 1) := by kernel_rfl

/-- The octets as values. -/
def bv (l : List UInt8) : List Value := l.map fun b => Value.int .u8 (b.toNat : Int)

theorem owns_conv {wr : World} {B : Nat} {v : Value} {l : List UInt8} (h : wr.ownsRow B 5 1 v l.length (bv l)) (hne : l ≠ []) :
    (convert 63 9 v).run Try.prog wr = .ok (.string ⟨l.toArray⟩) wr := by
  have h0 := h
  obtain ⟨_, ⟨h1, h2⟩ | ⟨g, cap, cur, rfl, hb, hh, hn, hc, hs, ht⟩⟩ := h
  · exact absurd (List.eq_nil_of_length_eq_zero h2) hne
  · refine run_convert_bytes_back (P := Try.prog) wr 63 9 5 ⟨g, 0, none⟩ cap l Try.underlying63 Try.underlying5 Try.underlying9 (fun j hj => ?_)
    exact h0.cells (g := g) rfl j (.int .u8 (l[j].toNat : Int)) (by simp [bv, hj])

set_option maxHeartbeats 1000000 in
theorem octets_any (n k : Nat) (w : World) (h1 : 1 ≤ k) (h6 : k ≤ 6) (hn : n < 281474976710656) :
    Calls Try.prog 33 #[.int .i64 n, .int .i64 k] w fun e w' => e = .returned (.string ⟨(le n k).toArray⟩) ∧ Below w.heap.size w w' := by
  have HI := Lib.hid (info_parts infoByte')
  go_enter Try.func33, Try.ntmps33
  go_wp2
  go_loopw [0, 5, 6] (fun x v i wr => ∃ m : Nat, m ≤ k ∧ i = .int .i64 m ∧ x = .int .i64 ((n / pow m : Nat) : Int) ∧ wr.ownsRow w.heap.size 5 1 v (le n m).length (bv (le n m)) ∧ Below w.heap.size w wr)
    (fun _ _ i _ => k - (intOf i).toNat)
  case atStart =>
    refine ⟨0, by omega, rfl, by rw [pow_zero, Nat.div_one], ?_, Below.refl _ _⟩
    exact World.ownsRow_nil _ _ _ _
  case round =>
    obtain ⟨m, hm, rfl, rfl, hown, hb⟩ := hrel
    by_cases hlt : m < k
    · have hle := Nat.div_le_self n (pow m)
      obtain ⟨q, hq⟩ : ∃ q, q = n / pow m := ⟨_, rfl⟩
      have HQ := Lib.hid hq
      have HD := Lib.hid (div_pow_succ n m)
      rw [← hq] at hle ⊢
      clear hq
      have c4 : (q : Int).tmod 256 = ((q % 256 : Nat) : Int) := by rw [Int.tmod_eq_emod_of_nonneg (by omega)]; omega
      have c0 : (q : Int).tdiv 256 = ((q / 256 : Nat) : Int) := by rw [Int.tdiv_eq_ediv_of_nonneg (by omega)]; omega
      go_wp2_with (at_builtin; obtain ⟨i0, hi, hz0, hz1, hz2⟩ := HI.out; refine wpList_append_own _ rfl _ _ 63 rfl w.heap.size 5 i0 (.int .u8 0) 1 1 Try.underlying63 hi hz0 hz1 hz2 rfl (by decide) _ _ _ rfl (hown.alloc _) ⟨wr.heap.size, 0, none⟩ 1 1 [.int .u8 ((q % 256 : Nat) : Int)] rfl rfl ?c1 ?c2 ?c3 ?c4 ?c5 ?_)
      case c1 =>
        intro j u hj
        match j, hj with
        | 0, hj => simp at hj; subst hj; simp [Addr.add]
      case c2 => intro u hu; simp at hu; subst hu; rfl
      case c3 => rw [le_len]; unfold maxLen; omega
      case c4 => rw [le_len]; omega
      case c5 => have := hb.size; simp; omega
      intro v' w1 hown' hgrow hn'
      clear hi hz0 hz1 hz2
      have R : w1.ownsRow w.heap.size 5 1 v' (le n (m + 1)).length (bv (le n (m + 1))) ∧ Below w.heap.size w w1 := by
        refine ⟨?_, ?_⟩
        · have e2 : bv (le n (m + 1)) = bv (le n m) ++ [.int .u8 ((q % 256 : Nat) : Int)] := by
            rw [HQ.out, le, bv, List.map_append]; simp [bv]
          rw [e2, le_len]; rw [le_len] at hown'; simpa using hown'
        · refine Below.grown (hb.alloc hb.size _) hgrow (by simp; have := hb.size; omega) (fun j hj => ?_)
          exact (hown.lt j hj).1
      clear hown' hgrow hown hn'
      go_wp2
      go_roundw
      case rel => exact ⟨m + 1, by omega, by go_num, by rw [HD.out, ← HQ.out]; rfl, R.1, R.2⟩
      case measure => simp [intOf]; omega
    · obtain rfl : m = k := by omega
      have hc := owns_conv hown (by intro h0; have := congrArg List.length h0; rw [le_len] at this; simp at this; omega)
      have HB := Lib.hid hb
      clear hown hb
      go_wp2
      go_returns
      exact ⟨rfl, HB.out⟩

set_option maxHeartbeats 400000 in
theorem refDone_any (s : ByteArray) (e : Int) (w : World) :
    Calls Try.prog 21 #[rv s e] w fun x w' => x = .returned (.tuple #[.string (if e = 0 then s else ⟨#[]⟩), .int .i64 e]) ∧ Below w.heap.size w w' := by
  by_cases he : e = 0
  · subst he
    rw [if_pos rfl]
    unfold rv
    go_enter Try.func21, Try.ntmps21
    go_wp2
    go_returns
    exact ⟨rfl, (Below.refl _ _).alloc (Nat.le_refl _) _⟩
  · rw [if_neg he]
    have hb : (e != 0) = true := by rw [bne_iff_ne]; exact he
    unfold rv
    clear he
    go_enter Try.func21, Try.ntmps21
    go_wp2
    go_region
    all_goals go_wp2
    all_goals go_returns
    all_goals exact ⟨rfl, by go_grown⟩

set_option maxHeartbeats 400000 in
theorem refText_bad (s x : ByteArray) (e : Int) (w : World) (he : (e != 0) = true) :
    Calls Try.prog 20 #[rv s e, .string x] w fun r w' => r = .returned (rv s e) ∧ Below w.heap.size w w' := by
  unfold rv
  go_enter Try.func20, Try.ntmps20
  go_wp2
  go_returns
  exact ⟨rfl, by go_grown⟩

set_option maxHeartbeats 400000 in
theorem refText_ok (s x : ByteArray) (w : World) (hs : s.size + x.size ≤ 9223372036854775807) :
    Calls Try.prog 20 #[rv s 0, .string x] w fun r w' => r = .returned (rv (s ++ x) 0) ∧ Below w.heap.size w w' := by
  have hadd : ∀ W, (Op.stringOp .add s x).run Try.prog W = .ok (.string (s ++ x)) W := fun W => run_string_add_sum (P := Try.prog) W s x hs
  unfold rv
  generalize s ++ x = u at hadd
  clear hs
  go_enter Try.func20, Try.ntmps20
  go_wp2
  go_returns
  exact ⟨rfl, by go_grown⟩

set_option maxHeartbeats 400000 in
theorem refNum_bad (s : ByteArray) (e n k : Int) (w : World) (he : (e != 0) = true) :
    Calls Try.prog 19 #[rv s e, .int .i64 n, .int .i64 k] w fun r w' => r = .returned (rv s e) ∧ Below w.heap.size w w' := by
  unfold rv
  go_enter Try.func19, Try.ntmps19
  go_wp2
  go_returns
  exact ⟨rfl, by go_grown⟩

set_option maxHeartbeats 400000 in
theorem refNum_size (s : ByteArray) (n k : Int) (w : World) (hk : ¬ (1 ≤ k ∧ k ≤ 6)) :
    Calls Try.prog 19 #[rv s 0, .int .i64 n, .int .i64 k] w fun r w' => r = .returned (rv s 4) ∧ Below w.heap.size w w' := by
  unfold rv
  go_enter Try.func19, Try.ntmps19
  rcases (by omega : k < 1 ∨ (¬ k < 1 ∧ 6 < k)) with h | ⟨h, h'⟩
  all_goals
    clear hk
    go_wp2
    go_returns
    exact ⟨rfl, by go_grown⟩

set_option maxHeartbeats 400000 in
theorem refNum_neg (s : ByteArray) (n k : Int) (w : World) (h1 : ¬ k < 1) (h6 : ¬ 6 < k) (hn : n < 0) :
    Calls Try.prog 19 #[rv s 0, .int .i64 n, .int .i64 k] w fun r w' => r = .returned (rv s 4) ∧ Below w.heap.size w w' := by
  unfold rv
  go_enter Try.func19, Try.ntmps19
  go_wp2
  go_returns
  exact ⟨rfl, by go_grown⟩

set_option maxHeartbeats 400000 in
theorem refNum_big (s : ByteArray) (n k : Nat) (w : World) (h1 : 1 ≤ k) (h6 : k ≤ 6) (hn : ¬ n < pow k) :
    Calls Try.prog 19 #[rv s 0, .int .i64 n, .int .i64 k] w fun r w' => r = .returned (rv s 4) ∧ Below w.heap.size w w' := by
  have H6 := Lib.hid h6
  have h1' : ¬ (k : Int) < 1 := by omega
  have h6' : ¬ 6 < (k : Int) := by omega
  have hq : (pow k : Int) ≤ n := by omega
  clear h1 h6 hn
  unfold rv
  go_enter Try.func19, Try.ntmps19
  go_wp2_with (go_at_call 32; refine (limit_any _ _ H6.out).mono ?_; rintro e w' ⟨rfl, rfl⟩)
  go_returns
  exact ⟨rfl, by go_grown⟩

set_option maxRecDepth 100000 in
set_option maxHeartbeats 1000000 in
theorem refNum_ok (s : ByteArray) (n k : Nat) (w : World) (h1 : 1 ≤ k) (h6 : k ≤ 6) (hn : n < pow k) (hs : s.size ≤ 140737488351232) :
    Calls Try.prog 19 #[rv s 0, .int .i64 n, .int .i64 k] w fun r w' => r = .returned (rv ⟨(s.data.toList ++ le n k).toArray⟩ 0) ∧ Below w.heap.size w w' := by
  have H6 := Lib.hid h6
  have h1' : ¬ (k : Int) < 1 := by omega
  have h6' : ¬ 6 < (k : Int) := by omega
  have hq : ¬ (pow k : Int) ≤ n := by omega
  have hp : pow k ≤ pow 6 := pow_le h6
  rw [pow_6] at hp
  have HO : Hid (∀ W : World, Calls Try.prog 33 #[.int .i64 n, .int .i64 k] W fun e w' => e = .returned (.string ⟨(le n k).toArray⟩) ∧ Below W.heap.size W w') := fun W => octets_any n k W h1 h6 (by omega)
  have hz : (⟨(le n k).toArray⟩ : ByteArray).size = k := by show (le n k).toArray.size = k; rw [List.size_toArray, le_len]
  have hadd : ∀ W, (Op.stringOp .add s ⟨(le n k).toArray⟩).run Try.prog W = .ok (.string (s ++ ⟨(le n k).toArray⟩)) W := fun W => run_string_add_sum (P := Try.prog) W s _ (by rw [hz]; omega)
  obtain ⟨u, hu⟩ : ∃ u, u = s ++ ⟨(le n k).toArray⟩ := ⟨_, rfl⟩
  have hu2 : (⟨(s.data.toList ++ le n k).toArray⟩ : ByteArray) = u := by rw [hu]; apply ByteArray.ext; simp
  rw [← hu] at hadd
  rw [hu2]
  obtain ⟨o, ho⟩ : ∃ o : ByteArray, o = ⟨(le n k).toArray⟩ := ⟨_, rfl⟩
  rw [← ho] at hadd HO
  clear hz hu hu2 ho h1 h6 hn hs hp
  unfold rv
  go_enter Try.func19, Try.ntmps19
  go_wp2_with (go_at_call 32; refine (limit_any _ _ H6.out).mono ?_; rintro e w' ⟨rfl, rfl⟩)
  go_region_with (go_at_call 33; refine (HO.out _).mono ?_; rintro e w1 ⟨rfl, hb1⟩; have c0 : w1.cell? ⟨w.heap.size, 0, none⟩ = some (.string s) := (hb1.cell (p := ⟨w.heap.size, 0, none⟩) (by simp; omega)).trans (by simp); have c1 : w1.cell? ⟨w.heap.size + 1, 0, none⟩ = some (.string ⟨#[]⟩) := (hb1.cell (p := ⟨w.heap.size + 1, 0, none⟩) (by simp)).trans (by simp); have c2 : w1.cell? ⟨w.heap.size + 1, 1, none⟩ = some (.int .i64 0) := (hb1.cell (p := ⟨w.heap.size + 1, 1, none⟩) (by simp)).trans (by simp); have f1 : w1.frozen? ⟨w.heap.size + 1, 0, none⟩ = false := (hb1.frozen (p := ⟨w.heap.size + 1, 0, none⟩) (by simp)).trans (by simp); have f2 : w1.frozen? ⟨w.heap.size + 1, 1, none⟩ = false := (hb1.frozen (p := ⟨w.heap.size + 1, 1, none⟩) (by simp)).trans (by simp))
  all_goals
    have hbw : Below w.heap.size w w1 := ((((Below.refl _ _).alloc (Nat.le_refl _) _).alloc (by simp) _).drew).trans (hb1.mono (by simp; omega))
    clear hb1
    have cA : (w1.setCell ⟨w.heap.size + 1, 0, none⟩ (.string u)).cell? ⟨w.heap.size + 1, 0, none⟩ = some (.string u) := World.cell?_setCell_same _ _ _ c1
    have cB : ((w1.setCell ⟨w.heap.size + 1, 0, none⟩ (.string u)).setCell ⟨w.heap.size + 1, 1, none⟩ (.int .i64 0)).cell? ⟨w.heap.size + 1, 1, none⟩ = some (.int .i64 0) := World.cell?_setCell_same _ _ _ ((World.cell?_setCell_other _ _ _ _ (by simp)).trans c2)
    go_wp2
    refine bodyPost_ret (by simp [results, Try.results19, go_sem, cA, cB]; rfl) rfl ?_
    exact ⟨rfl, (hbw.setCell (by simp) _).setCell (by simp) _⟩
end Go.Proofs.Ytekdfcbkpljllaa
