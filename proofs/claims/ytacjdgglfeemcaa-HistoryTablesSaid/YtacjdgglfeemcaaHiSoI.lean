/-
  slices.Sort at addresses: pdqsortOrdered, Sort (rows shorter than 50, no element twice).
-/
import Derived.Test.YtacjdgglfeemcaaHiSoB
import Derived.Test.YtacjdgglfeemcaaHiSoD
import Derived.Test.YtacjdgglfeemcaaHiSoF
import Derived.Test.YtacjdgglfeemcaaHiSoG
import Derived.Test.YtacjdgglfeemcaaHiSoH
import Derived.Sort.LotD3
import Derived.Deep.Cut
namespace Go.Proofs.Ytacjdgglfeemcaa
open Go.RowKit Go.Sort

theorem parted_round {d d4 : Array Int} {a b mid : Nat} (hb : b ≤ d.size) (hB : Below ltInt a b d) (hx : Parted d a b mid d4) :
    Below ltInt a mid d4 ∧ Below ltInt (mid + 1) b d4 ∧
    (∀ L, PermIn a mid d4 L → SortedIn ltInt a mid L → Below ltInt (mid + 1) b L ∧ ∀ R, PermIn (mid + 1) b L R → SortedIn ltInt (mid + 1) b R → PermIn a b d R ∧ SortedIn ltInt a b R) ∧
    (∀ L, PermIn (mid + 1) b d4 L → SortedIn ltInt (mid + 1) b L → Below ltInt a mid L ∧ ∀ R, PermIn a mid L R → SortedIn ltInt a mid R → PermIn a b d R ∧ SortedIn ltInt a b R) := by
  obtain ⟨h1, h2, hperm, hlo, hhi⟩ := hx
  have h := swo_ltInt
  have hb4 : b ≤ d4.size := by rw [hperm.1]; exact hb
  have hBa : Below ltInt a mid d4 := (hB.perm hb hperm).mono (by omega)
  refine ⟨hBa, Or.inr fun i hi hi' => by rw [Nat.add_sub_cancel]; exact hhi i (by omega) hi', fun L hL hsL => ?_, fun L hL hsL => ?_⟩
  · have hbL : b ≤ L.size := by rw [hL.1]; exact hb4
    have eL : ∀ i, mid ≤ i → L[i]! = d4[i]! := fun i hi => hL.2.1 i (Or.inr hi)
    refine ⟨Or.inr fun i hi hi' => by rw [Nat.add_sub_cancel, eL i (by omega), eL mid (Nat.le_refl _)]; exact hhi i (by omega) hi', fun R hR hsR => ?_⟩
    have eR : ∀ i, i ≤ mid → R[i]! = L[i]! := fun i hi => hR.2.1 i (Or.inl (by omega))
    refine ⟨permIn_trans _ _ _ a b hperm (permIn_trans _ _ _ a b (permIn_mono _ _ a mid a b (Nat.le_refl _) (by omega) hb4 hL) (permIn_mono _ _ (mid + 1) b a b (by omega) (Nat.le_refl _) hbL hR)), ?_⟩
    refine sorted_glue h (hsL.congr fun i _ hi' => eR i (by omega)) hsR (fun i hi hi' => ?_) (fun i hi hi' => ?_)
    · rw [eR i (by omega), eR mid (Nat.le_refl _), eL mid (Nat.le_refl _)]
      exact permIn_all d4 L a mid (fun x => ltInt x d4[mid]! = true) (by omega) hL hlo i hi hi'
    · rw [eR mid (Nat.le_refl _), eL mid (Nat.le_refl _)]
      exact permIn_all L R (mid + 1) b (fun x => ltInt x d4[mid]! = false) hbL hR (fun k hk hk' => by rw [eL k (by omega)]; exact hhi k (by omega) hk') i (by omega) hi'
  · have hbL : b ≤ L.size := by rw [hL.1]; exact hb4
    have eL : ∀ i, i ≤ mid → L[i]! = d4[i]! := fun i hi => hL.2.1 i (Or.inl (by omega))
    refine ⟨?_, fun R hR hsR => ?_⟩
    · rcases hBa with h0 | hBa
      · exact Or.inl h0
      · exact Or.inr fun i hi hi' => by rw [eL i (by omega), eL (a - 1) (by omega)]; exact hBa i hi hi'
    have eR : ∀ i, mid ≤ i → R[i]! = L[i]! := fun i hi => hR.2.1 i (Or.inr hi)
    refine ⟨permIn_trans _ _ _ a b hperm (permIn_trans _ _ _ a b (permIn_mono _ _ (mid + 1) b a b (by omega) (Nat.le_refl _) hb4 hL) (permIn_mono _ _ a mid a b (Nat.le_refl _) (by omega) hbL hR)), ?_⟩
    refine sorted_glue h hsR (hsL.congr fun i hi _ => eR i (by omega)) (fun i hi hi' => ?_) (fun i hi hi' => ?_)
    · rw [eR mid (Nat.le_refl _), eL mid (Nat.le_refl _)]
      exact permIn_all L R a mid (fun x => ltInt x d4[mid]! = true) (by omega) hR (fun k hk hk' => by rw [eL k (by omega)]; exact hlo k hk hk') i hi hi'
    · rw [eR i (by omega), eR mid (Nat.le_refl _), eL mid (Nat.le_refl _)]
      exact permIn_all d4 L (mid + 1) b (fun x => ltInt x d4[mid]! = false) hb4 hL (fun k hk hk' => hhi k (by omega) hk') i (by omega) hi'

/-- How far a sort of [a, b) has come: [a', b') is left. -/
structure Pq (w : World) (g o c a b : Nat) (d : Array Int) (a' b' : Nat) (dk : Array Int) (wr : World) : Prop where
  lo : a ≤ a'
  ab : a' ≤ b'
  hi : b' ≤ b
  size : dk.size = d.size
  per : PermIn a b d dk
  bel : Below ltInt a' b' dk
  st : St w g o c dk wr
  fin : ∀ R, PermIn a' b' dk R → SortedIn ltInt a' b' R → PermIn a b d R ∧ SortedIn ltInt a b R
section
variable {w : World} {g o c a b : Nat} {d : Array Int} {a' b' : Nat} {dk : Array Int} {wr : World}
theorem Pq.perm (h : Pq w g o c a b d a' b' dk wr) (hb : b ≤ d.size) {d2 : Array Int} {w2 : World} (hp : PermIn a' b' dk d2) (hs : St wr g o c d2 w2) : Pq w g o c a b d a' b' d2 w2 := by
  have h1 := h.size
  have h2 := h.hi
  exact ⟨h.lo, h.ab, h.hi, hp.1.trans h.size, permIn_trans _ _ _ _ _ h.per (permIn_mono _ _ a' b' a b h.lo h.hi (by omega) hp), h.bel.perm (by omega) hp, h.st.then hs,
    fun R hR hsR => h.fin R (permIn_trans _ _ _ _ _ hp hR) hsR⟩
theorem Pq.left (h : Pq w g o c a b d a' b' dk wr) (hb : b ≤ d.size) {m : Nat} {d4 L : Array Int} {w2 : World} (hx : Parted dk a' b' m d4) (hp : PermIn a' m d4 L) (hl : SortedIn ltInt a' m L) (hs : St wr g o c L w2) : Pq w g o c a b d (m + 1) b' L w2 := by
  have h1 := h.size
  have h2 := h.hi
  obtain ⟨-, -, h5, -⟩ := parted_round (by omega) h.bel hx
  obtain ⟨h6, h7⟩ := h5 L hp hl
  obtain ⟨x1, x2, x3, -, -⟩ := hx
  have h8 := h.lo
  exact ⟨by omega, by omega, h.hi, hp.1.trans (x3.1.trans h.size), permIn_trans _ _ _ _ _ h.per (permIn_trans _ _ _ _ _ (permIn_mono _ _ a' b' a b h.lo h.hi (by omega) x3) (permIn_mono _ _ a' m a b h.lo (by omega) (by rw [x3.1]; omega) hp)), h6, h.st.then hs,
    fun R hR hsR => h.fin R (h7 R hR hsR).1 (h7 R hR hsR).2⟩
theorem Pq.right (h : Pq w g o c a b d a' b' dk wr) (hb : b ≤ d.size) {m : Nat} {d4 L : Array Int} {w2 : World} (hx : Parted dk a' b' m d4) (hp : PermIn (m + 1) b' d4 L) (hl : SortedIn ltInt (m + 1) b' L) (hs : St wr g o c L w2) : Pq w g o c a b d a' m L w2 := by
  have h1 := h.size
  have h2 := h.hi
  obtain ⟨-, -, -, h5⟩ := parted_round (by omega) h.bel hx
  obtain ⟨h6, h7⟩ := h5 L hp hl
  obtain ⟨x1, x2, x3, -, -⟩ := hx
  have h8 := h.lo
  exact ⟨h.lo, x1, by omega, hp.1.trans (x3.1.trans h.size), permIn_trans _ _ _ _ _ h.per (permIn_trans _ _ _ _ _ (permIn_mono _ _ a' b' a b h.lo h.hi (by omega) x3) (permIn_mono _ _ (m + 1) b' a b (by omega) h.hi (by rw [x3.1]; omega) hp)), h6, h.st.then hs,
    fun R hR hsR => h.fin R (h7 R hR hsR).1 (h7 R hR hsR).2⟩
theorem Pq.nodup (h : Pq w g o c a b d a' b' dk wr) (hb : b ≤ d.size) (hn : d.toList.Nodup) : dk.toList.Nodup :=
  (permIn_all_list (permIn_mono _ _ a b 0 d.size (Nat.zero_le _) hb (Nat.le_refl _) h.per)).nodup_iff.2 hn
/-- No element stands twice: the one before is less. -/
theorem Pq.strict (h : Pq w g o c a b d a' b' dk wr) (hb : b ≤ d.size) (hn : d.toList.Nodup) {p : Nat} (h0 : 0 < a') (h1 : a' ≤ p) (h2 : p < b') : ltInt dk[a' - 1]! dk[p]! = true := by
  have hs := h.size
  have hh := h.hi
  have hd := h.nodup hb hn
  rcases h.bel with h3 | h3
  · omega
  have h4 : ¬ dk[p]! < dk[a' - 1]! := of_decide_eq_false (h3 p h1 h2)
  have l1 : p < dk.size := by omega
  have l2 : a' - 1 < dk.size := by omega
  have h5 : dk[p]! ≠ dk[a' - 1]! := fun e => by
    rw [getElem!_pos dk p l1, getElem!_pos dk (a' - 1) l2] at e
    exact List.pairwise_iff_getElem.1 hd (a' - 1) p (by simpa using l2) (by simpa using l1) (by omega) (by simpa using e.symm)
  exact decide_eq_true (by omega)
end

set_option maxRecDepth 1000000 in
set_option maxHeartbeats 16000000 in
theorem pdq_any (g o c : Nat) : ∀ (N a b L : Nat) (d : Array Int) (w : World), b - a < N → Rw w g o d c → a ≤ b → b ≤ d.size → d.size < 50 → d.toList.Nodup → L ≤ 64 → Below ltInt a b d →
    Calls Try.prog 26 #[.slice (some ⟨g, o, none⟩) d.size c, .int .i64 a, .int .i64 b, .int .i64 L] w fun e w' =>
      e = .returned (.tuple #[]) ∧ ∃ d', PermIn a b d d' ∧ SortedIn ltInt a b d' ∧ St w g o c d' w' := by
  intro N
  induction N with
  | zero => intro _ _ _ _ _ h; exact absurd h (Nat.not_lt_zero _)
  | succ N ih =>
    intro a b L d w hN hH hab hb hsz hnd hL hBel
    have IH := Lib.hid ih
    have HND := Lib.hid hnd
    have HQ0 := Lib.hid (show Pq w g o c a b d a b d w from ⟨Nat.le_refl _, hab, Nat.le_refl _, rfl, permIn_refl _ _ _, hBel, ⟨hH, grownBy_refl _ _⟩, fun R h1 h2 => ⟨h1, h2⟩⟩)
    clear ih hnd hH hBel
    go_enter Try.func26, Try.ntmps26
    go_wp2
    go_loopw [1, 2, 3, 8, 9] (fun s1 s2 s3 s8 s9 wr => ∃ (a' b' lim : Nat) (wb wp : Bool) (dk : Array Int), s1 = .int .i64 a' ∧ s2 = .int .i64 b' ∧ s3 = .int .i64 lim ∧ s8 = .bool wb ∧ s9 = .bool wp ∧ lim ≤ 64 ∧ Pq w g o c a b d a' b' dk wr)
      (fun s1 s2 _ _ _ _ => (intOf s2).toNat - (intOf s1).toNat)
    case atStart => exact ⟨a, b, L, true, true, d, rfl, rfl, rfl, rfl, rfl, hL, HQ0.out⟩
    case round =>
      clear HQ0
      obtain ⟨a', b', lim, wb, wp, dk, rfl, rfl, rfl, rfl, rfl, hlim, hQ⟩ := hrel
      have hds := hQ.size
      have hab' := hQ.ab
      have hb' := hQ.hi
      have haa' := hQ.lo
      have HQ := Lib.hid hQ
      clear hQ
      by_cases h12 : b' - a' ≤ 12
      · have h12z : (b' : Int) - (a' : Int) ≤ 12 := by omega
        have hc := ins_any g o c a' b' dk wr HQ.out.st.1 (by omega) (by omega) (by omega)
        rw [hds] at hc
        have HC := Lib.hid hc
        clear hc
        go_wp2_with (go_at_call 28; refine HC.out.mono ?_; rintro e w1 ⟨rfl, hw1⟩)
        go_returns
        obtain ⟨x1, x2⟩ := insertionSort_holds swo_ltInt dk a' b' hab' (by omega)
        obtain ⟨y1, y2⟩ := HQ.out.fin _ x1 x2
        exact ⟨rfl, _, y1, y2, HQ.out.st.then hw1⟩
      · have h12z : ¬ ((b' : Int) - (a' : Int) ≤ 12) := by omega
        by_cases hl0 : lim = 0
        · subst hl0
          have hc := heap_any g o c a' b' dk wr HQ.out.st.1 hab' (by omega) (by omega)
          rw [hds] at hc
          have HC := Lib.hid hc
          clear hc
          go_wp2_with (go_at_call 29; refine HC.out.mono ?_; rintro e w1 ⟨rfl, hw1⟩)
          go_returns
          obtain ⟨x1, x2⟩ := heapSort_holds swo_ltInt dk a' b' hab' (by omega)
          obtain ⟨y1, y2⟩ := HQ.out.fin _ x1 x2
          exact ⟨rfl, _, y1, y2, HQ.out.st.then hw1⟩
        · have hl0z : ¬ ((lim : Int) = 0) := by omega
          go_upto_if 35 with fail
          go_cut [3] from 19 (fun s3 wc => ∃ (l : Nat) (dk : Array Int), s3 = .int .i64 l ∧ l ≤ 64 ∧ Pq w g o c a b d a' b' dk wc)
          case first =>
            cases wb
            · have hc := break_any g o c a' b' dk wr HQ.out.st.1 (by omega) (by omega) (by omega)
              rw [hds] at hc
              have HC := Lib.hid hc
              clear hc
              go_wp2_with (go_at_call 30; refine HC.out.mono ?_; rintro e w1 ⟨rfl, dk1, hp1, hw1⟩)
              go_meet
              case rel => exact ⟨lim - 1, dk1, by congr 1; omega, by omega, HQ.out.perm hb hp1 hw1⟩
            · go_wp2_with fail
              go_meet
              case rel => exact ⟨lim, dk, rfl, hlim, HQ.out⟩
          case rest =>
            clear HQ hds hl0z hl0 hlim
            obtain ⟨l, dk, rfl, hlim, hQ⟩ := hcut
            have hds := hQ.size
            have HQ := Lib.hid hQ
            clear hQ
            have hc := choose_any g o c a' b' dk wc HQ.out.st.1 (by omega) (by omega) (by omega) (by omega)
            rw [hds] at hc
            have HC := Lib.hid hc
            clear hc
            go_upto_if 50 with (go_at_call 31; refine HC.out.mono ?_; rintro e w2 ⟨m, h, rfl, hm, hh, hr2, hg2⟩)
            have HQ2 := Lib.hid (HQ.out.perm hb (permIn_refl _ _ _) (show St wc g o c dk w2 from ⟨hr2, hg2.os, hg2.tape, hg2.output, hg2.size, fun k hk _ => hg2.block k hk (fun e => by cases e)⟩))
            clear HQ HC hr2 hg2
            go_cut [11, 12] from 19 (fun s11 s12 wc => ∃ (m h : Nat) (dk : Array Int), s11 = .int .i64 m ∧ s12 = .int .i64 h ∧ (a' ≤ m ∧ m < b') ∧ h ≤ 2 ∧ Pq w g o c a b d a' b' dk wc)
            case first =>
              by_cases hh2 : h = 2
              · subst hh2
                have hc := rev_any g o c a' b' dk w2 HQ2.out.st.1 (by omega) (by omega) (by omega)
                rw [hds] at hc
                have HC := Lib.hid hc
                clear hc
                go_wp2_with (go_at_call 32; refine HC.out.mono ?_; rintro e w3 ⟨rfl, hw3⟩)
                go_meet
                case rel => exact ⟨(b' - 1) - (m - a'), 1, _, by congr 1; omega, rfl, by omega, by omega, HQ2.out.perm hb (reverseRange_holds dk a' b' hab' (by omega)) hw3⟩
              · have hcode : ¬ ((h : Int) = 2) := by omega
                go_wp2_with fail
                go_meet
                case rel => exact ⟨m, h, dk, rfl, rfl, hm, hh, HQ2.out⟩
            case rest =>
              clear HQ2 hds hm hh
              obtain ⟨m, h, dk, rfl, rfl, hm, hh, hQ⟩ := hcut
              have hds := hQ.size
              have HQ := Lib.hid hQ
              clear hQ
              go_upto_region 15 with fail
              go_cut [12, 68] from 19 (fun s12 s68 wx => s12 = .int .i64 h ∧ (∃ x : Bool, s68 = .bool x) ∧ wx = wc)
              case first =>
                have hc3 : h = 1 ∨ ¬ ((h : Int) = 1) := by omega
                cases wb <;> cases wp <;> rcases hc3 with hc3 | hc3 <;> (try subst hc3) <;>
                  (go_wp2_with fail
                   go_meet
                   exact ⟨rfl, ⟨_, rfl⟩, rfl⟩)
              case rest =>
                obtain ⟨rfl, ⟨x, rfl⟩, rfl⟩ := hcut
                go_upto_if 68 with fail
                go_cut [] from 19 (fun wx => Pq w g o c a b d a' b' dk wx)
                case first =>
                  cases x
                  · go_wp2_with fail
                    go_meet
                    case rel => exact HQ.out
                  · have hc := partial_any g o c a' b' dk wc HQ.out.st.1 (by omega) (by omega) (by omega) (by omega)
                    rw [hds] at hc
                    have HC := Lib.hid hc
                    clear hc
                    go_wp2_with (go_at_call 33; refine HC.out.mono ?_; rintro e w4 ⟨y, rfl, hy, hw4⟩; have HY := Lib.hid hy; clear hy; cases y)
                    all_goals first
                      | (go_meet
                         exact HQ.out.perm hb (permIn_refl _ _ _) hw4)
                      | (go_returns
                         obtain ⟨y1, y2⟩ := HQ.out.fin _ (permIn_refl _ _ _) (HY.out (by first | exact trivial | exact rfl))
                         exact ⟨rfl, _, y1, y2, HQ.out.st.then hw4⟩)
                case rest =>
                  clear HQ
                  have hQ := hcut
                  obtain ⟨G, hF⟩ := hQ.st.fam hds
                  have HG := Lib.hid hF.val
                  have hcw := hF.cell
                  have hfw := hF.froz
                  have HQ := Lib.hid hQ
                  clear hF hQ hcut
                  have CL := Lib.hid less_any
                  go_upto_region 17 with fail
                  go_cut [87] from 19 (fun s87 wx => s87 = .bool false ∧ Pq w g o c a b d a' b' dk wx)
                  case first =>
                    rcases Nat.eq_zero_or_pos a' with ha0 | ha0
                    · have ha0z : decide ((a' : Int) > 0) = false := decide_eq_false (by omega)
                      go_big_quiet (first | (go_at_call 34; exact Calls.quiet_of_same ((CL.out _ _ _).mono fun _ _ q => ⟨q.1, q.2.symm⟩)))
                      go_wp2_with fail
                      go_meet
                      case rel => exact ⟨by simp, HQ.out.perm hb (permIn_refl _ _ _) (St.drewN ⟨HQ.out.st.1, grownBy_refl _ _⟩ nq)⟩
                    · have ha0z : (a' : Int) > 0 := by omega
                      have hst : ltInt (G (a' - 1)) (G m) = true := by rw [HG.out, HG.out]; exact HQ.out.strict hb HND.out ha0 hm.1 hm.2
                      go_big_quiet (first | (go_at_call 34; exact Calls.quiet_of_same ((CL.out _ _ _).mono fun _ _ q => ⟨q.1, q.2.symm⟩)))
                      go_wp2_with fail
                      go_meet
                      case rel => exact ⟨by simp, HQ.out.perm hb (permIn_refl _ _ _) (St.drewN ⟨HQ.out.st.1, grownBy_refl _ _⟩ nq)⟩
                  case rest =>
                    clear HQ HG hcw hfw
                    obtain ⟨rfl, hQ⟩ := hcut
                    have HQ := Lib.hid hQ
                    clear hQ
                    have hc := part_any g o c a' b' m dk wc HQ.out.st.1 hm.1 hm.2 (by omega) (by omega)
                    rw [hds] at hc
                    have HC := Lib.hid hc
                    clear hc
                    go_upto_if 113 with (go_at_call 36; refine HC.out.mono ?_; rintro e w7 ⟨mid, ap, d4, rfl, hx, hw7⟩; have HX := Lib.hid hx; have HW7 := Lib.hid hw7; have r1 := hx.1; have r2 := hx.2.1; clear hx hw7)
                    clear HC
                    have hx := HX.out
                    have hw7 := HW7.out
                    have hd4 : d4.size = d.size := hx.2.2.1.1.trans hds
                    have hn4 : d4.toList.Nodup := (HQ.out.perm hb hx.2.2.1 hw7).nodup hb HND.out
                    obtain ⟨r4, r5, -, -⟩ := parted_round (by omega) HQ.out.bel hx
                    by_cases h4 : mid - a' < b' - mid
                    · have h4z : (mid : Int) - (a' : Int) < (b' : Int) - (mid : Int) := by omega
                      have hih := IH.out a' mid l d4 w7 (by omega) hw7.1 (by omega) (by omega) (by omega) hn4 (by omega) r4
                      rw [hd4] at hih
                      have HI := Lib.hid hih
                      clear hih hx hw7 hn4 r4 r5
                      go_wp2_with (go_at_call 26; refine HI.out.mono ?_; rintro e w8 ⟨rfl, dL, pL, sL, hw8⟩)
                      have HQ8 := Lib.hid (HQ.out.left hb HX.out pL sL (HW7.out.then hw8))
                      clear pL sL hw8
                      go_roundw
                      case rel => exact ⟨mid + 1, b', l, _, _, dL, by simp, rfl, rfl, rfl, rfl, by omega, HQ8.out⟩
                      case measure => simp [intOf]; omega
                    · have h4z : ¬ ((mid : Int) - (a' : Int) < (b' : Int) - (mid : Int)) := by omega
                      have hih := IH.out (mid + 1) b' l d4 w7 (by omega) hw7.1 (by omega) (by omega) (by omega) hn4 (by omega) r5
                      rw [hd4] at hih
                      have HI := Lib.hid hih
                      clear hih hx hw7 hn4 r4 r5
                      go_wp2_with (go_at_call 26; refine HI.out.mono ?_; rintro e w8 ⟨rfl, dL, pL, sL, hw8⟩)
                      have HQ8 := Lib.hid (HQ.out.right hb HX.out pL sL (HW7.out.then hw8))
                      clear pL sL hw8
                      go_roundw
                      case rel => exact ⟨a', mid, l, _, _, dL, rfl, rfl, rfl, rfl, rfl, by omega, HQ8.out⟩
                      case measure => simp [intOf]; omega

theorem sort30 : SortOk 30 := by
  intro g c d W h hn hs
  refine sort_via (by omega) fun L hL => ?_
  refine (pdq_any g 0 c (d.size + 1) 0 d.size L d W (by omega) h (Nat.zero_le _) (Nat.le_refl _) (by omega) hn hL (Or.inl rfl)).mono ?_
  rintro e w' ⟨rfl, d', h1, h2, h3⟩
  exact ⟨rfl, srt_of h3 h1 h2⟩
end Go.Proofs.Ytacjdgglfeemcaa
