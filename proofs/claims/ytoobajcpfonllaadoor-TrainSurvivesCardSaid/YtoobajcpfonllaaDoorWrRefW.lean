/-
  WALKS of the reference's Limit, Octets, and of its Writer: Num, Text, Done.
-/
import Derived.Test.YtoobajcpfonllaaDoorWrAll
import Derived.Laws.Concat
import Derived.Laws.IdiomStrings
import Derived.Deep.RegionWith
namespace Go.Proofs.YtoobajcpfonllaaDoor
open Go.RowKit Go.Wr

/-- The reference's Writer or Reader as a value. -/
def rv (s : ByteArray) (e : Int) : Value := .agg #[.string s, .int .i64 e]

theorem infoByte' : (Tryd.prog.info? 5).map (fun i => (i.zero, i.size, i.bytes)) = some (some (.int .u8 0), 1, 1) := by kernel_rfl

/-- The octets as values. -/
def bv (l : List UInt8) : List Value := l.map fun b => Value.int .u8 (b.toNat : Int)

theorem owns_conv {wr : World} {B : Nat} {v : Value} {l : List UInt8} (h : wr.ownsRow B 5 1 v l.length (bv l)) (hne : l ≠ []) :
    (convert 32 9 v).run Tryd.prog wr = .ok (.string ⟨l.toArray⟩) wr := by
  have h0 := h
  obtain ⟨_, ⟨h1, h2⟩ | ⟨g, cap, cur, rfl, hb, hh, hn, hc, hs, ht⟩⟩ := h
  · exact absurd (List.eq_nil_of_length_eq_zero h2) hne
  · refine run_convert_bytes_back (P := Tryd.prog) wr 32 9 5 ⟨g, 0, none⟩ cap l Tryd.underlying32 Tryd.underlying5 Tryd.underlying9 (fun j hj => ?_)
    exact h0.cells (g := g) rfl j (.int .u8 (l[j].toNat : Int)) (by simp [bv, hj])

set_option maxHeartbeats 1000000 in
theorem octets_any (n k : Nat) (w : World) (h1 : 1 ≤ k) (h6 : k ≤ 6) (hn : n < 281474976710656) :
    Calls Tryd.prog 27 #[.int .i64 n, .int .i64 k] w fun e w' => e = .returned (.string ⟨(le n k).toArray⟩) ∧ Below w.heap.size w w' := by
  have HI := Lib.hid (info_parts infoByte')
  go_enter Tryd.func27, Tryd.ntmps27
  go_wp2
  go_loopw [0, 5, 6] (fun x v i wr => ∃ m : Nat, m ≤ k ∧ i = .int .i64 m ∧ x = .int .i64 ((n / pow m : Nat) : Int) ∧ wr.ownsRow w.heap.size 5 1 v (le n m).length (bv (le n m)) ∧ Below w.heap.size w wr)
    (fun _ _ i _ => k - (intOf i).toNat)
  case atStart =>
    refine ⟨0, by omega, rfl, by rw [pow_zero, Nat.div_one], ?_, Below.refl _ _⟩
    exact World.ownsRow_nil _ _ _ _
  case round =>
    obtain ⟨m, hm, rfl, rfl, hown, hb⟩ := hrel
    by_cases hlt : m < k
    · have hle := Nat.div_le_self n (pow m)
      obtain ⟨q, hq⟩ : ∃ q, q = n / pow m := ⟨_, rfl⟩
      have HQ := Lib.hid hq
      have HD := Lib.hid (div_pow_succ n m)
      rw [← hq] at hle ⊢
      clear hq
      have c4 : (q : Int).tmod 256 = ((q % 256 : Nat) : Int) := by rw [Int.tmod_eq_emod_of_nonneg (by omega)]; omega
      have c0 : (q : Int).tdiv 256 = ((q / 256 : Nat) : Int) := by rw [Int.tdiv_eq_ediv_of_nonneg (by omega)]; omega
      go_wp2_with (at_builtin; obtain ⟨i0, hi, hz0, hz1, hz2⟩ := HI.out; refine wpList_append_own _ rfl _ _ 32 rfl w.heap.size 5 i0 (.int .u8 0) 1 1 Tryd.underlying32 hi hz0 hz1 hz2 rfl (by decide) _ _ _ rfl (hown.alloc _) ⟨wr.heap.size, 0, none⟩ 1 1 [.int .u8 ((q % 256 : Nat) : Int)] rfl rfl ?c1 ?c2 ?c3 ?c4 ?c5 ?_)
      case c1 =>
        intro j u hj
        match j, hj with
        | 0, hj => simp at hj; subst hj; simp [Addr.add]
      case c2 => intro u hu; simp at hu; subst hu; rfl
      case c3 => rw [le_len]; unfold maxLen; omega
      case c4 => rw [le_len]; omega
      case c5 => have := hb.size; simp; omega
      intro v' w1 hown' hgrow hn'
      clear hi hz0 hz1 hz2
      have R : w1.ownsRow w.heap.size 5 1 v' (le n (m + 1)).length (bv (le n (m + 1))) ∧ Below w.heap.size w w1 := by
        refine ⟨?_, ?_⟩
        · have e2 : bv (le n (m + 1)) = bv (le n m) ++ [.int .u8 ((q % 256 : Nat) : Int)] := by
            rw [HQ.out, le, bv, List.map_append]; simp [bv]
          rw [e2, le_len]; rw [le_len] at hown'; simpa using hown'
        · refine Below.grown (hb.alloc hb.size _) hgrow (by simp; have := hb.size; omega) (fun j hj => ?_)
          exact (hown.lt j hj).1
      clear hown' hgrow hown hn'
      go_wp2
      go_roundw
      case rel => exact ⟨m + 1, by omega, by go_num, by rw [HD.out, ← HQ.out]; rfl, R.1, R.2⟩
      case measure => simp [intOf]; omega
    · obtain rfl : m = k := by omega
      have hc := owns_conv hown (by intro h0; have := congrArg List.length h0; rw [le_len] at this; simp at this; omega)
      have HB := Lib.hid hb
      clear hown hb
      go_wp2
      go_returns
      exact ⟨rfl, HB.out⟩

end Go.Proofs.YtoobajcpfonllaaDoor
