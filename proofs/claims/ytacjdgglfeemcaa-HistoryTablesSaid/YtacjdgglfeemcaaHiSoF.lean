/-
  slices.Sort's callees at addresses: partitionOrdered.
-/
import Derived.Test.YtacjdgglfeemcaaHiSoE
namespace Go.Proofs.Ytacjdgglfeemcaa
open Go.RowKit Go.Sort

/-- How far a partition has come: what lies below i is less than the pivot (which stands at a), what lies above j is not. -/
structure PI (d : Array Int) (a b i j : Nat) (dk : Array Int) : Prop where
  per : PermIn a b d dk
  low : ∀ t, a < t → t < i → ltInt dk[t]! dk[a]! = true
  high : ∀ t, j < t → t < b → ltInt dk[t]! dk[a]! = false
theorem PI.start {d : Array Int} {a b p : Nat} (h1 : a ≤ p) (h2 : p < b) (hb : b ≤ d.size) : PI d a b (a + 1) (b - 1) (swp d a p) :=
  ⟨swp_permIn d a b a p (Nat.le_refl _) (by omega) h1 h2 hb, fun t h3 h4 => by omega, fun t h3 h4 => by omega⟩
theorem PI.up {d dk : Array Int} {a b i j : Nat} (h : PI d a b i j dk) (ht : ltInt dk[i]! dk[a]! = true) : PI d a b (i + 1) j dk :=
  ⟨h.per, fun t h1 h2 => by
    by_cases e : t = i
    · rw [e]; exact ht
    · exact h.low t h1 (by omega), h.high⟩
theorem PI.down {d dk : Array Int} {a b i j : Nat} (h : PI d a b i j dk) (ht : ltInt dk[j]! dk[a]! = false) : PI d a b i (j - 1) dk :=
  ⟨h.per, h.low, fun t h1 h2 => by
    by_cases e : t = j
    · rw [e]; exact ht
    · exact h.high t (by omega) h2⟩
theorem PI.swap {d dk : Array Int} {a b i j : Nat} (h : PI d a b i j dk) (hai : a < i) (hij : i < j) (hjb : j < b) (hb : b ≤ dk.size) (h1 : ltInt dk[i]! dk[a]! = false) (h2 : ltInt dk[j]! dk[a]! = true) : PI d a b (i + 1) (j - 1) (swp dk i j) := by
  have hg := swp_get dk (show i < dk.size by omega) (show j < dk.size by omega)
  have ea : (swp dk i j)[a]! = dk[a]! := by rw [hg, if_neg (by omega), if_neg (by omega)]
  refine ⟨permIn_trans _ _ _ _ _ h.per (swp_permIn dk a b i j (by omega) (by omega) (by omega) hjb hb), fun t h3 h4 => ?_, fun t h3 h4 => ?_⟩
  · rw [ea, hg, if_neg (by omega)]
    by_cases e : t = i
    · rw [if_pos e]; exact h2
    · rw [if_neg e]; exact h.low t h3 (by omega)
  · rw [ea, hg]
    by_cases e : t = j
    · rw [if_pos e]; exact h1
    · rw [if_neg e, if_neg (by omega)]; exact h.high t (by omega) h4
/-- What a partition leaves. -/
def Parted (d : Array Int) (a b m : Nat) (dk : Array Int) : Prop :=
  a ≤ m ∧ m < b ∧ PermIn a b d dk ∧ (∀ t, a ≤ t → t < m → ltInt dk[t]! dk[m]! = true) ∧ (∀ t, m < t → t < b → ltInt dk[t]! dk[m]! = false)
theorem PI.last {d dk : Array Int} {a b i j : Nat} (h : PI d a b i j dk) (hai : a < i) (hij : i = j + 1) (hjb : j < b) (hb : b ≤ dk.size) : Parted d a b j (swp dk j a) := by
  have hg := swp_get dk (show j < dk.size by omega) (show a < dk.size by omega)
  have ej : (swp dk j a)[j]! = dk[a]! := by
    rw [hg]
    by_cases e : j = a
    · rw [if_pos e, e]
    · rw [if_neg e, if_pos rfl]
  refine ⟨by omega, hjb, permIn_trans _ _ _ _ _ h.per (swp_permIn dk a b j a (by omega) hjb (Nat.le_refl _) (by omega) hb), fun t h3 h4 => ?_, fun t h3 h4 => ?_⟩
  · rw [ej, hg]
    by_cases e : t = a
    · rw [if_pos e]; exact h.low j (by omega) (by omega)
    · rw [if_neg e, if_neg (by omega)]; exact h.low t (by omega) (by omega)
  · rw [ej, hg, if_neg (by omega), if_neg (by omega)]; exact h.high t h3 h4

set_option maxRecDepth 1000000 in
set_option maxHeartbeats 16000000 in
theorem part_any (g o c a b p : Nat) (d : Array Int) (w : World) (hH : Rw w g o d c) (h1 : a ≤ p) (h2 : p < b) (hb : b ≤ d.size) (hsz : d.size < 1000) :
    Calls Try.prog 36 #[.slice (some ⟨g, o, none⟩) d.size c, .int .i64 a, .int .i64 b, .int .i64 p] w fun e w' =>
      ∃ (m : Nat) (x : Bool) (dk : Array Int), e = .returned (.tuple #[.int .i64 m, .bool x]) ∧ Parted d a b m dk ∧ St w g o c dk w' := by
  have CL := Lib.hid less_any
  have HS0 : St w g o c d w := ⟨hH, grownBy_refl _ _⟩
  obtain ⟨G0, hF0⟩ := HS0.fam rfl
  have HG0 := Lib.hid hF0.val
  have hc0 := hF0.cell
  have hf0 := hF0.froz
  have HS1 := Lib.hid (HS0.swap 1 (i := a) (j := p) (by omega) (by omega))
  have HP1 := Lib.hid (PI.start (d := d) h1 h2 hb)
  obtain ⟨v0, hy0⟩ := cell?_setCell_some (w := w) (p := ⟨g, o + a, none⟩) (x := .int .u64 (G0 p)) (q := ⟨g, o + p, none⟩) (hc0 p (by omega))
  rw [← HG0.out, ← HG0.out] at HS1
  have la : a < d.size := by omega
  have lp : p < d.size := by omega
  clear hH HS0 hF0
  go_enter Try.func36, Try.ntmps36
  go_wp2
  go_region
  go_wp2
  clear hc0 hf0 hy0
  have HS2 : Hid (St w g o c (swp d a p) ((w.setCell ⟨g, o + a, none⟩ (.int .u64 (G0 p))).setCell ⟨g, o + p, none⟩ (.int .u64 (G0 a))).drew) := Lib.hid HS1.out
  clear HS1 HG0
  generalize ((w.setCell ⟨g, o + a, none⟩ (.int .u64 (G0 p))).setCell ⟨g, o + p, none⟩ (.int .u64 (G0 a))).drew = W1 at HS2 ⊢
  obtain ⟨dk, hdk⟩ : ∃ dk, dk = swp d a p := ⟨_, rfl⟩
  rw [← hdk] at HS2 HP1
  have hsk : dk.size = d.size := by rw [hdk, size_swp]
  have e1 : ((a : Int) + 1) = ((a + 1 : Nat) : Int) := by omega
  have e2 : ((b : Int) - 1) = ((b - 1 : Nat) : Int) := by omega
  rw [e1, e2]
  clear e1 e2 hdk
  obtain ⟨i, hi⟩ : ∃ i, i = a + 1 := ⟨_, rfl⟩
  obtain ⟨j, hj⟩ : ∃ j, j = b - 1 := ⟨_, rfl⟩
  rw [← hi, ← hj]
  rw [← hi, ← hj] at HP1
  have hai : a < i := by omega
  have hij : i ≤ j + 1 := by omega
  have hjb : j < b := by omega
  clear hi hj
  go_loopw [10] (fun vi wr => ∃ i' : Nat, vi = .int .i64 i' ∧ i ≤ i' ∧ i' ≤ j + 1 ∧ St w g o c dk wr ∧ PI d a b i' j dk) (fun vi _ => j + 1 - (intOf vi).toNat)
  case atStart => exact ⟨i, rfl, Nat.le_refl _, hij, HS2.out, HP1.out⟩
  case round =>
    clear HS2 HP1
    obtain ⟨i', rfl, hii, hij', hwr, hP3⟩ := hrel
    have HP3 := Lib.hid hP3
    clear hP3
    obtain ⟨G, hF⟩ := hwr.fam hsk
    have HG := Lib.hid hF.val
    have hcw := hF.cell
    have hfw := hF.froz
    have HS3 := Lib.hid hwr
    clear hF hwr
    by_cases hle : i' ≤ j
    · go_wp2
      go_quiet (first | (go_at_call 34; exact Calls.quiet_of_same ((CL.out _ _ _).mono fun _ _ q => ⟨q.1, q.2.symm⟩)))
      go_wp2
      · have ht : ltInt (G i') (G a) = true := by assumption
        go_roundw
        case rel => exact ⟨i' + 1, by go_num, by omega, by omega, HS3.out.drewN nq, HP3.out.up (by rw [← HG.out, ← HG.out]; exact ht)⟩
        case measure => simp [intOf]; omega
      · have ht : ltInt (G i') (G a) = false := by assumption
        have HT := Lib.hid (fun _ : i' ≤ j => show ltInt dk[i']! dk[a]! = false by rw [← HG.out, ← HG.out]; exact ht)
        clear ht
        go_loopw [11] (fun vj wr => ∃ j' : Nat, vj = .int .i64 j' ∧ j' ≤ j ∧ i' ≤ j' + 1 ∧ St w g o c dk wr ∧ PI d a b i' j' dk) (fun vj _ => (intOf vj).toNat)
        case atStart => exact ⟨j, rfl, Nat.le_refl _, hij', HS3.out.drewN nq, HP3.out⟩
        case round =>
          clear hcw hfw HS3 HG
          obtain ⟨j', rfl, hjj, hij2, hwr, hP4⟩ := hrel
          have HP4 := Lib.hid hP4
          clear hP4
          obtain ⟨G, hF⟩ := hwr.fam hsk
          have HG := Lib.hid hF.val
          have hcw := hF.cell
          have hfw := hF.froz
          have HS4 := Lib.hid hwr
          clear hF hwr
          by_cases hle2 : i' ≤ j'
          · go_wp2
            go_quiet (first | (go_at_call 34; exact Calls.quiet_of_same ((CL.out _ _ _).mono fun _ _ q => ⟨q.1, q.2.symm⟩)))
            go_wp2
            · have ht : ltInt (G j') (G a) = false := (by have h : (!ltInt (G j') (G a)) = true := (by assumption); simpa using h)
              go_roundw
              case rel => exact ⟨j' - 1, by go_num, by omega, by omega, HS4.out.drewN nq, HP4.out.down (by rw [← HG.out, ← HG.out]; exact ht)⟩
              case measure => simp [intOf]; omega
            · have ht : ltInt (G j') (G a) = true := (by have h : (!ltInt (G j') (G a)) = false := (by assumption); simpa using h)
              have HT2 := Lib.hid (show ltInt dk[j']! dk[a]! = true by rw [← HG.out, ← HG.out]; exact ht)
              have hlt3 : i' < j' := by
                rcases Nat.lt_or_ge i' j' with h | h
                · exact h
                · exfalso
                  have e : i' = j' := by omega
                  have h4 := HT.out (by omega)
                  rw [e] at h4
                  rw [HT2.out] at h4
                  exact Bool.noConfusion h4
              clear ht
              have HSq := Lib.hid (HS4.out.drewN nq)
              have hcw2 : ∀ t, t < d.size → (wr.drewN nq).cell? ⟨g, o + t, none⟩ = some (.int .u64 (G t)) := hcw
              have hfw2 : ∀ t, t < d.size → (wr.drewN nq).frozen? ⟨g, o + t, none⟩ = false := hfw
              clear hcw hfw HS4
              generalize wr.drewN nq = wq at *
              go_wp2
              go_region
              all_goals go_wp2
              have HS5 := Lib.hid (HSq.out.swap 1 (i := i') (j := j') (by omega) (by omega))
              rw [← HG.out, ← HG.out] at HS5
              have HP5 := Lib.hid (HP4.out.swap (by omega) hlt3 (by omega) (by omega) (HT.out (by omega)) HT2.out)
              clear hcw2 hfw2 HSq HT HT2 HP3 HP4 HG
              go_loopw [10, 11] (fun vi vj wr => ∃ (i j : Nat) (dk : Array Int), vi = .int .i64 i ∧ vj = .int .i64 j ∧ a < i ∧ i ≤ j + 1 ∧ j < b ∧ dk.size = d.size ∧ St w g o c dk wr ∧ PI d a b i j dk)
                (fun vi vj _ => (intOf vj).toNat + 1 - (intOf vi).toNat)
              case atStart => exact ⟨i' + 1, j' - 1, swp dk i' j', by go_num, by go_num, by omega, by omega, by omega, by rw [size_swp]; exact hsk, HS5.out, HP5.out⟩
              case round =>
                clear HS5 HP5
                obtain ⟨i, j, dk, rfl, rfl, hai, hij, hjb, hsk, hwr, hP⟩ := hrel
                have HS2 := Lib.hid hwr
                have HP1 := Lib.hid hP
                clear hwr hP
                go_wp2
                go_loopw [10] (fun vi wr => ∃ i' : Nat, vi = .int .i64 i' ∧ i ≤ i' ∧ i' ≤ j + 1 ∧ St w g o c dk wr ∧ PI d a b i' j dk) (fun vi _ => j + 1 - (intOf vi).toNat)
                case atStart => exact ⟨i, rfl, Nat.le_refl _, hij, HS2.out, HP1.out⟩
                case round =>
                  clear HS2 HP1
                  obtain ⟨i', rfl, hii, hij', hwr, hP3⟩ := hrel
                  have HP3 := Lib.hid hP3
                  clear hP3
                  obtain ⟨G, hF⟩ := hwr.fam hsk
                  have HG := Lib.hid hF.val
                  have hcw := hF.cell
                  have hfw := hF.froz
                  have HS3 := Lib.hid hwr
                  clear hF hwr
                  by_cases hle : i' ≤ j
                  · go_wp2
                    go_quiet (first | (go_at_call 34; exact Calls.quiet_of_same ((CL.out _ _ _).mono fun _ _ q => ⟨q.1, q.2.symm⟩)))
                    go_wp2
                    · have ht : ltInt (G i') (G a) = true := by assumption
                      go_roundw
                      case rel => exact ⟨i' + 1, by go_num, by omega, by omega, HS3.out.drewN nq, HP3.out.up (by rw [← HG.out, ← HG.out]; exact ht)⟩
                      case measure => simp [intOf]; omega
                    · have ht : ltInt (G i') (G a) = false := by assumption
                      have HT := Lib.hid (fun _ : i' ≤ j => show ltInt dk[i']! dk[a]! = false by rw [← HG.out, ← HG.out]; exact ht)
                      clear ht
                      go_loopw [11] (fun vj wr => ∃ j' : Nat, vj = .int .i64 j' ∧ j' ≤ j ∧ i' ≤ j' + 1 ∧ St w g o c dk wr ∧ PI d a b i' j' dk) (fun vj _ => (intOf vj).toNat)
                      case atStart => exact ⟨j, rfl, Nat.le_refl _, hij', HS3.out.drewN nq, HP3.out⟩
                      case round =>
                        clear hcw hfw HS3 HG
                        obtain ⟨j', rfl, hjj, hij2, hwr, hP4⟩ := hrel
                        have HP4 := Lib.hid hP4
                        clear hP4
                        obtain ⟨G, hF⟩ := hwr.fam hsk
                        have HG := Lib.hid hF.val
                        have hcw := hF.cell
                        have hfw := hF.froz
                        have HS4 := Lib.hid hwr
                        clear hF hwr
                        by_cases hle2 : i' ≤ j'
                        · go_wp2
                          go_quiet (first | (go_at_call 34; exact Calls.quiet_of_same ((CL.out _ _ _).mono fun _ _ q => ⟨q.1, q.2.symm⟩)))
                          go_wp2
                          · have ht : ltInt (G j') (G a) = false := (by have h : (!ltInt (G j') (G a)) = true := (by assumption); simpa using h)
                            go_roundw
                            case rel => exact ⟨j' - 1, by go_num, by omega, by omega, HS4.out.drewN nq, HP4.out.down (by rw [← HG.out, ← HG.out]; exact ht)⟩
                            case measure => simp [intOf]; omega
                          · have ht : ltInt (G j') (G a) = true := (by have h : (!ltInt (G j') (G a)) = false := (by assumption); simpa using h)
                            have HT2 := Lib.hid (show ltInt dk[j']! dk[a]! = true by rw [← HG.out, ← HG.out]; exact ht)
                            have hlt3 : i' < j' := by
                              rcases Nat.lt_or_ge i' j' with h | h
                              · exact h
                              · exfalso
                                have e : i' = j' := by omega
                                have h4 := HT.out (by omega)
                                rw [e] at h4
                                rw [HT2.out] at h4
                                exact Bool.noConfusion h4
                            clear ht
                            have HSq := Lib.hid (HS4.out.drewN nq)
                            have hcw2 : ∀ t, t < d.size → (wr.drewN nq).cell? ⟨g, o + t, none⟩ = some (.int .u64 (G t)) := hcw
                            have hfw2 : ∀ t, t < d.size → (wr.drewN nq).frozen? ⟨g, o + t, none⟩ = false := hfw
                            clear hcw hfw HS4
                            generalize wr.drewN nq = wq at *
                            go_wp2
                            go_region
                            all_goals go_wp2
                            have HS5 := Lib.hid (HSq.out.swap 1 (i := i') (j := j') (by omega) (by omega))
                            rw [← HG.out, ← HG.out] at HS5
                            have HP5 := Lib.hid (HP4.out.swap (by omega) hlt3 (by omega) (by omega) (HT.out (by omega)) HT2.out)
                            go_roundw
                            case rel => exact ⟨i' + 1, j' - 1, swp dk i' j', by go_num, by go_num, by omega, by omega, by omega, by rw [size_swp]; exact hsk, HS5.out, HP5.out⟩
                            case measure => simp [intOf]; omega
                        · go_wp2
                          go_quiet (first | (go_at_call 34; exact Calls.quiet_of_same ((CL.out _ _ _).mono fun _ _ q => ⟨q.1, q.2.symm⟩)))
                          go_wp2_with fail
                          have HSq := Lib.hid (HS4.out.drewN nq)
                          have hcw2 : ∀ t, t < d.size → (wr.drewN nq).cell? ⟨g, o + t, none⟩ = some (.int .u64 (G t)) := hcw
                          have hfw2 : ∀ t, t < d.size → (wr.drewN nq).frozen? ⟨g, o + t, none⟩ = false := hfw
                          clear hcw hfw HS4
                          generalize wr.drewN nq = wq at *
                          obtain ⟨v3, hy3⟩ := cell?_setCell_some (w := wq) (p := ⟨g, o + j', none⟩) (x := .int .u64 (G a)) (q := ⟨g, o + a, none⟩) (hcw2 a (by omega))
                          have lj : j' < d.size := by omega
                          go_wp2
                          go_region
                          all_goals go_wp2
                          all_goals go_ret2
                          refine ⟨j', false, swp dk j' a, rfl, HP4.out.last (by omega) (by omega) (by omega) (by omega), ?_⟩
                          rw [HG.out, HG.out]
                          exact HSq.out.swap 1 (by omega) (by omega)
                  · go_wp2
                    go_quiet (first | (go_at_call 34; exact Calls.quiet_of_same ((CL.out _ _ _).mono fun _ _ q => ⟨q.1, q.2.symm⟩)))
                    go_wp2
                    go_loopw [11] (fun vj wr => ∃ j' : Nat, vj = .int .i64 j' ∧ j' ≤ j ∧ i' ≤ j' + 1 ∧ St w g o c dk wr ∧ PI d a b i' j' dk) (fun vj _ => (intOf vj).toNat)
                    case atStart => exact ⟨j, rfl, Nat.le_refl _, hij', HS3.out.drewN nq, HP3.out⟩
                    case round =>
                      clear hcw hfw HS3 HG
                      obtain ⟨j', rfl, hjj, hij2, hwr, hP4⟩ := hrel
                      have HP4 := Lib.hid hP4
                      clear hP4
                      obtain ⟨G, hF⟩ := hwr.fam hsk
                      have HG := Lib.hid hF.val
                      have hcw := hF.cell
                      have hfw := hF.froz
                      have HS4 := Lib.hid hwr
                      clear hF hwr
                      by_cases hle2 : i' ≤ j'
                      · exfalso; omega
                      · go_wp2
                        go_quiet (first | (go_at_call 34; exact Calls.quiet_of_same ((CL.out _ _ _).mono fun _ _ q => ⟨q.1, q.2.symm⟩)))
                        go_wp2_with fail
                        have HSq := Lib.hid (HS4.out.drewN nq)
                        have hcw2 : ∀ t, t < d.size → (wr.drewN nq).cell? ⟨g, o + t, none⟩ = some (.int .u64 (G t)) := hcw
                        have hfw2 : ∀ t, t < d.size → (wr.drewN nq).frozen? ⟨g, o + t, none⟩ = false := hfw
                        clear hcw hfw HS4
                        generalize wr.drewN nq = wq at *
                        obtain ⟨v3, hy3⟩ := cell?_setCell_some (w := wq) (p := ⟨g, o + j', none⟩) (x := .int .u64 (G a)) (q := ⟨g, o + a, none⟩) (hcw2 a (by omega))
                        have lj : j' < d.size := by omega
                        go_wp2
                        go_region
                        all_goals go_wp2
                        all_goals go_ret2
                        refine ⟨j', false, swp dk j' a, rfl, HP4.out.last (by omega) (by omega) (by omega) (by omega), ?_⟩
                        rw [HG.out, HG.out]
                        exact HSq.out.swap 1 (by omega) (by omega)
          · go_wp2
            go_quiet (first | (go_at_call 34; exact Calls.quiet_of_same ((CL.out _ _ _).mono fun _ _ q => ⟨q.1, q.2.symm⟩)))
            go_wp2_with fail
            have HSq := Lib.hid (HS4.out.drewN nq)
            have hcw2 : ∀ t, t < d.size → (wr.drewN nq).cell? ⟨g, o + t, none⟩ = some (.int .u64 (G t)) := hcw
            have hfw2 : ∀ t, t < d.size → (wr.drewN nq).frozen? ⟨g, o + t, none⟩ = false := hfw
            clear hcw hfw HS4
            generalize wr.drewN nq = wq at *
            obtain ⟨v3, hy3⟩ := cell?_setCell_some (w := wq) (p := ⟨g, o + j', none⟩) (x := .int .u64 (G a)) (q := ⟨g, o + a, none⟩) (hcw2 a (by omega))
            have lj : j' < d.size := by omega
            go_wp2
            go_region
            all_goals go_wp2
            all_goals go_ret2
            refine ⟨j', true, swp dk j' a, rfl, HP4.out.last (by omega) (by omega) (by omega) (by omega), ?_⟩
            rw [HG.out, HG.out]
            exact HSq.out.swap 1 (by omega) (by omega)
    · go_wp2
      go_quiet (first | (go_at_call 34; exact Calls.quiet_of_same ((CL.out _ _ _).mono fun _ _ q => ⟨q.1, q.2.symm⟩)))
      go_wp2
      go_loopw [11] (fun vj wr => ∃ j' : Nat, vj = .int .i64 j' ∧ j' ≤ j ∧ i' ≤ j' + 1 ∧ St w g o c dk wr ∧ PI d a b i' j' dk) (fun vj _ => (intOf vj).toNat)
      case atStart => exact ⟨j, rfl, Nat.le_refl _, hij', HS3.out.drewN nq, HP3.out⟩
      case round =>
        clear hcw hfw HS3 HG
        obtain ⟨j', rfl, hjj, hij2, hwr, hP4⟩ := hrel
        have HP4 := Lib.hid hP4
        clear hP4
        obtain ⟨G, hF⟩ := hwr.fam hsk
        have HG := Lib.hid hF.val
        have hcw := hF.cell
        have hfw := hF.froz
        have HS4 := Lib.hid hwr
        clear hF hwr
        by_cases hle2 : i' ≤ j'
        · exfalso; omega
        · go_wp2
          go_quiet (first | (go_at_call 34; exact Calls.quiet_of_same ((CL.out _ _ _).mono fun _ _ q => ⟨q.1, q.2.symm⟩)))
          go_wp2_with fail
          have HSq := Lib.hid (HS4.out.drewN nq)
          have hcw2 : ∀ t, t < d.size → (wr.drewN nq).cell? ⟨g, o + t, none⟩ = some (.int .u64 (G t)) := hcw
          have hfw2 : ∀ t, t < d.size → (wr.drewN nq).frozen? ⟨g, o + t, none⟩ = false := hfw
          clear hcw hfw HS4
          generalize wr.drewN nq = wq at *
          obtain ⟨v3, hy3⟩ := cell?_setCell_some (w := wq) (p := ⟨g, o + j', none⟩) (x := .int .u64 (G a)) (q := ⟨g, o + a, none⟩) (hcw2 a (by omega))
          have lj : j' < d.size := by omega
          go_wp2
          go_region
          all_goals go_wp2
          all_goals go_ret2
          refine ⟨j', true, swp dk j' a, rfl, HP4.out.last (by omega) (by omega) (by omega) (by omega), ?_⟩
          rw [HG.out, HG.out]
          exact HSq.out.swap 1 (by omega) (by omega)
end Go.Proofs.Ytacjdgglfeemcaa
