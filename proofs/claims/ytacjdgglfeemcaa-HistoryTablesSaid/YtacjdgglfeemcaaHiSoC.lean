/-
  slices.Sort's callees at addresses: reverseRangeOrdered, siftDownOrdered, heapSortOrdered.
-/
import Derived.Test.YtacjdgglfeemcaaHiSoA
import Derived.Sort.WalkB2
import Derived.Sort.WalkB3
import Derived.Sort.LotB
namespace Go.Proofs.Ytacjdgglfeemcaa
open Go.RowKit Go.Sort

theorem rl_go (i j : Nat) (d : Array Int) (h : i < j) : reverseLoop i j d = reverseLoop (i + 1) (j - 1) (swp d i j) := by rw [reverseLoop, if_pos h]
theorem rl_stop (i j : Nat) (d : Array Int) (h : ¬ i < j) : reverseLoop i j d = d := by rw [reverseLoop, if_neg h]

/-- The row's contents under a name of their own. -/
structure Fam (wr : World) (g o n : Nat) (dk : Array Int) (G : Nat → Int) : Prop where
  val : ∀ t, G t = dk[t]!
  cell : ∀ t, t < n → wr.cell? ⟨g, o + t, none⟩ = some (.int .u64 (G t))
  froz : ∀ t, t < n → wr.frozen? ⟨g, o + t, none⟩ = false
theorem St.fam {w wr : World} {g o c : Nat} {dk : Array Int} (h : St w g o c dk wr) {n : Nat} (hn : dk.size = n) : ∃ G, Fam wr g o n dk G :=
  ⟨fun t => dk[t]!, fun _ => rfl, fun t ht => h.1.cell (i := t) (by rw [hn]; exact ht), fun _ _ => h.1.frozen _⟩

set_option maxRecDepth 1000000 in
set_option maxHeartbeats 8000000 in
theorem rev_any (g o c a b : Nat) (d : Array Int) (w : World) (hH : Rw w g o d c) (hab : a < b) (hb : b ≤ d.size) (hsz : d.size < 1000) :
    Calls Try.prog 32 #[.slice (some ⟨g, o, none⟩) d.size c, .int .i64 a, .int .i64 b] w fun e w' =>
      e = .returned (.tuple #[]) ∧ St w g o c (reverseRange d a b) w' := by
  have hb1 : (b : Int) - 1 = ((b - 1 : Nat) : Int) := by omega
  go_enter Try.func32, Try.ntmps32
  go_wp2
  go_loopw [6, 7] (fun vi vj wr => ∃ (i j : Nat) (dk : Array Int), vi = .int .i64 i ∧ vj = .int .i64 j ∧ j < d.size ∧ i ≤ d.size ∧ dk.size = d.size ∧ St w g o c dk wr ∧ reverseLoop i j dk = reverseLoop a (b - 1) d) (fun vi vj _ => ((intOf vj) + 1 - (intOf vi)).toNat)
  case atStart => exact ⟨a, b - 1, d, rfl, by rw [← hb1], by omega, by omega, rfl, ⟨hH, grownBy_refl _ _⟩, rfl⟩
  case round =>
    rename_i wr
    obtain ⟨i, j, dk, rfl, rfl, hj, hi, hsk, hwr, hO⟩ := hrel
    have HO := Lib.hid hO
    have HS := Lib.hid hwr
    obtain ⟨G, hF⟩ := hwr.fam hsk
    have HG := Lib.hid hF.val
    have hcw := hF.cell
    have hfw := hF.froz
    clear hO hwr hF hH hb1
    by_cases hlt : i < j
    · go_wp2
      go_region
      all_goals go_wp2
      go_roundw
      case rel =>
        refine ⟨i + 1, j - 1, swp dk i j, by go_num, by congr 1; omega, by omega, by omega, by rw [size_swp]; exact hsk, ?_, by rw [← HO.out, rl_go _ _ _ hlt]⟩
        rw [HG.out, HG.out]
        exact HS.out.swap 1 (by omega) (by omega)
      case measure => simp [intOf]; omega
    · have hlt' : ¬ (i : Int) < (j : Int) := by omega
      go_wp2
      go_end0
      exact ⟨rfl, by unfold reverseRange; rw [← HO.out, rl_stop _ _ _ hlt]; exact HS.out⟩

set_option maxRecDepth 1000000 in
set_option maxHeartbeats 16000000 in
theorem sift_any (g o c lo hi F : Nat) (d : Array Int) (w : World) (hH : Rw w g o d c) (hb : F + hi ≤ d.size) (hsz : d.size < 1000) (hlo : lo < 1000) :
    Calls Try.prog 39 #[.slice (some ⟨g, o, none⟩) d.size c, .int .i64 lo, .int .i64 hi, .int .i64 F] w fun e w' =>
      e = .returned (.tuple #[]) ∧ St w g o c (siftDown ltInt hi F lo d) w' := by
  have CL := Lib.hid less_any
  go_enter Try.func39, Try.ntmps39
  go_wp2
  go_loopw [8] (fun v wr => ∃ (r : Nat) (dk : Array Int), v = .int .i64 r ∧ r < 1000 ∧ dk.size = d.size ∧ St w g o c dk wr ∧ siftDown ltInt hi F r dk = siftDown ltInt hi F lo d) (fun v _ => hi - (intOf v).toNat)
  case atStart => exact ⟨lo, d, rfl, hlo, rfl, ⟨hH, grownBy_refl _ _⟩, rfl⟩
  case round =>
    rename_i wr
    obtain ⟨r, dk, rfl, hr, hsk, hwr, hO⟩ := hrel
    have HO := Lib.hid hO
    have HS := Lib.hid hwr
    obtain ⟨G, hF⟩ := hwr.fam hsk
    have HG := Lib.hid hF.val
    have hcw := hF.cell
    have hfw := hF.froz
    clear hO hwr hF hH
    obtain ⟨q, hq⟩ : ∃ q : Nat, 2 * r + 1 = q := ⟨_, rfl⟩
    obtain ⟨q2, hq2⟩ : ∃ q2 : Nat, q + 1 = q2 := ⟨_, rfl⟩
    obtain ⟨m, hm⟩ : ∃ m : Nat, F + q = m := ⟨_, rfl⟩
    obtain ⟨m2, hm2⟩ : ∃ m2 : Nat, F + q2 = m2 := ⟨_, rfl⟩
    obtain ⟨mr, hmr⟩ : ∃ mr : Nat, F + r = mr := ⟨_, rfl⟩
    have e1 : 2 * (r : Int) + 1 = (q : Int) := by omega
    have e2 : (q : Int) + 1 = (q2 : Int) := by omega
    have e3 : (F : Int) + (q : Int) = (m : Int) := by omega
    have e4 : (F : Int) + (q2 : Int) = (m2 : Int) := by omega
    have e5 : (m : Int) + 1 = (m2 : Int) := by omega
    have e6 : (F : Int) + (r : Int) = (mr : Int) := by omega
    have HQ := Lib.hid (And.intro hq (And.intro hq2 (And.intro hm (And.intro hm2 hmr))))
    have hq3 : q < 3000 := by omega
    have hq4 : q2 < 3000 := by omega
    by_cases h0 : hi ≤ q
    · clear hq hq2 hm hm2 hmr
      go_wp2
      go_returns
      exact ⟨rfl, by rw [← HO.out, sd_end _ _ (by have := HQ.out; omega)]; exact HS.out⟩
    · have hm3 : m < d.size := by omega
      have hmr3 : mr < d.size := by omega
      by_cases h2 : q2 < hi
      · have hm23 : m2 < d.size := by omega
        have XQ : Hid (q = 2 * r + 1 ∧ q2 = 2 * r + 2 ∧ m = F + (2 * r + 1) ∧ m2 = F + (2 * r + 2) ∧ mr = F + r) := by
          show q = 2 * r + 1 ∧ q2 = 2 * r + 2 ∧ m = F + (2 * r + 1) ∧ m2 = F + (2 * r + 2) ∧ mr = F + r
          omega
        clear hq hq2 hm hm2 hmr
        go_wp2
        go_quiet (first | (go_at_call 34; exact Calls.quiet_of_same ((CL.out _ _ _).mono fun _ _ q => ⟨q.1, q.2.symm⟩)))
        go_wp2
        · have hl1 : ltInt (G m) (G m2) = true := by assumption
          have HL1 := Lib.hid (show ltInt dk[F + (2 * r + 1)]! dk[F + (2 * r + 2)]! = true by obtain ⟨-, -, x1, x2, -⟩ := XQ.out; rw [← x1, ← x2, ← HG.out, ← HG.out]; exact hl1)
          clear hl1
          have HS2 := Lib.hid (HS.out.drewN nq)
          have hcw2 : ∀ t, t < d.size → (wr.drewN nq).cell? ⟨g, o + t, none⟩ = some (.int .u64 (G t)) := hcw
          have hfw2 : ∀ t, t < d.size → (wr.drewN nq).frozen? ⟨g, o + t, none⟩ = false := hfw
          clear hcw hfw
          generalize wr.drewN nq = wq at *
          go_quiet (first | (go_at_call 34; exact Calls.quiet_of_same ((CL.out _ _ _).mono fun _ _ q => ⟨q.1, q.2.symm⟩)))
          go_wp2
          · have hl : ltInt (G mr) (G m2) = false := (by have h : (!ltInt (G mr) (G m2)) = true := (by assumption); simpa using h)
            go_returns
            exact ⟨rfl, by rw [← HO.out, sd_right_stop _ dk (by have := XQ.out; omega) HL1.out (by obtain ⟨-, -, x1, x2, x3⟩ := XQ.out; rw [← x3, ← x2, ← HG.out, ← HG.out]; exact hl)]; exact HS2.out.drewN nq⟩
          · have hl : ltInt (G mr) (G m2) = true := (by have h : (!ltInt (G mr) (G m2)) = false := (by assumption); simpa using h)
            go_region
            all_goals go_wp2
            go_roundw
            case rel =>
              refine ⟨q2, swp dk mr m2, rfl, by omega, by rw [size_swp]; exact hsk, ?_, ?_⟩
              · rw [HG.out, HG.out]
                exact HS2.out.swap (nq + 1) (by omega) (by omega)
              · rw [← HO.out, sd_right_go (hi := hi) (F := F) (root := r) _ dk (by have := XQ.out; omega) HL1.out (by obtain ⟨-, -, x1, x2, x3⟩ := XQ.out; rw [← x3, ← x2, ← HG.out, ← HG.out]; exact hl)]
                obtain ⟨-, x0, -, x2, x3⟩ := XQ.out
                rw [x0, x2, x3]
            case measure => have := HQ.out; simp [intOf]; omega
        · have hl1 : ltInt (G m) (G m2) = false := by assumption
          have HL1 := Lib.hid (show ltInt dk[F + (2 * r + 1)]! dk[F + (2 * r + 2)]! = false by obtain ⟨-, -, x1, x2, -⟩ := XQ.out; rw [← x1, ← x2, ← HG.out, ← HG.out]; exact hl1)
          clear hl1
          have HS2 := Lib.hid (HS.out.drewN nq)
          have hcw2 : ∀ t, t < d.size → (wr.drewN nq).cell? ⟨g, o + t, none⟩ = some (.int .u64 (G t)) := hcw
          have hfw2 : ∀ t, t < d.size → (wr.drewN nq).frozen? ⟨g, o + t, none⟩ = false := hfw
          clear hcw hfw
          generalize wr.drewN nq = wq at *
          go_quiet (first | (go_at_call 34; exact Calls.quiet_of_same ((CL.out _ _ _).mono fun _ _ q => ⟨q.1, q.2.symm⟩)))
          go_wp2
          · have hl : ltInt (G mr) (G m) = false := (by have h : (!ltInt (G mr) (G m)) = true := (by assumption); simpa using h)
            go_returns
            exact ⟨rfl, by rw [← HO.out, sd_left_stop _ dk (by have := XQ.out; omega) (fun _ => HL1.out) (by obtain ⟨-, -, x1, x2, x3⟩ := XQ.out; rw [← x3, ← x1, ← HG.out, ← HG.out]; exact hl)]; exact HS2.out.drewN nq⟩
          · have hl : ltInt (G mr) (G m) = true := (by have h : (!ltInt (G mr) (G m)) = false := (by assumption); simpa using h)
            go_region
            all_goals go_wp2
            go_roundw
            case rel =>
              refine ⟨q, swp dk mr m, rfl, by omega, by rw [size_swp]; exact hsk, ?_, ?_⟩
              · rw [HG.out, HG.out]
                exact HS2.out.swap (nq + 1) (by omega) (by omega)
              · rw [← HO.out, sd_left_go (hi := hi) (F := F) (root := r) _ dk (by have := XQ.out; omega) (fun _ => HL1.out) (by obtain ⟨-, -, x1, x2, x3⟩ := XQ.out; rw [← x3, ← x1, ← HG.out, ← HG.out]; exact hl)]
                obtain ⟨x0, -, x1, -, x3⟩ := XQ.out
                rw [x0, x1, x3]
            case measure => have := HQ.out; simp [intOf]; omega
      · have XQ : Hid (q = 2 * r + 1 ∧ q2 = 2 * r + 2 ∧ m = F + (2 * r + 1) ∧ m2 = F + (2 * r + 2) ∧ mr = F + r) := by
          show q = 2 * r + 1 ∧ q2 = 2 * r + 2 ∧ m = F + (2 * r + 1) ∧ m2 = F + (2 * r + 2) ∧ mr = F + r
          omega
        clear hq hq2 hm hm2 hmr
        go_wp2
        go_quiet (fail)
        go_wp2
        have HS2 := Lib.hid (HS.out.drewN nq)
        have hcw2 : ∀ t, t < d.size → (wr.drewN nq).cell? ⟨g, o + t, none⟩ = some (.int .u64 (G t)) := hcw
        have hfw2 : ∀ t, t < d.size → (wr.drewN nq).frozen? ⟨g, o + t, none⟩ = false := hfw
        clear hcw hfw
        generalize wr.drewN nq = wq at *
        go_quiet (first | (go_at_call 34; exact Calls.quiet_of_same ((CL.out _ _ _).mono fun _ _ q => ⟨q.1, q.2.symm⟩)))
        go_wp2
        · have hl : ltInt (G mr) (G m) = false := (by have h : (!ltInt (G mr) (G m)) = true := (by assumption); simpa using h)
          go_returns
          exact ⟨rfl, by rw [← HO.out, sd_left_stop _ dk (by have := XQ.out; omega) (fun h => absurd h (by have := XQ.out; omega)) (by obtain ⟨-, -, x1, x2, x3⟩ := XQ.out; rw [← x3, ← x1, ← HG.out, ← HG.out]; exact hl)]; exact HS2.out.drewN nq⟩
        · have hl : ltInt (G mr) (G m) = true := (by have h : (!ltInt (G mr) (G m)) = false := (by assumption); simpa using h)
          go_region
          all_goals go_wp2
          go_roundw
          case rel =>
            refine ⟨q, swp dk mr m, rfl, by omega, by rw [size_swp]; exact hsk, ?_, ?_⟩
            · rw [HG.out, HG.out]
              exact HS2.out.swap (nq + 1) (by omega) (by omega)
            · rw [← HO.out, sd_left_go (hi := hi) (F := F) (root := r) _ dk (by have := XQ.out; omega) (fun h => absurd h (by have := XQ.out; omega)) (by obtain ⟨-, -, x1, x2, x3⟩ := XQ.out; rw [← x3, ← x1, ← HG.out, ← HG.out]; exact hl)]
              obtain ⟨x0, -, x1, -, x3⟩ := XQ.out
              rw [x0, x1, x3]
          case measure => have := HQ.out; simp [intOf]; omega
end Go.Proofs.Ytacjdgglfeemcaa
