/-
  slices.BinarySearchFunc over the packets of a buffer; find.
-/
import Derived.Test.YteffmfloopkmoaaRoProg
import Derived.Shelf.Abstract
namespace Go.Proofs.Yteffmfloopkmoaa
open Go.RowKit Go.Ro Go.Sq
attribute [local go_sem ↓ high] Rw_.loadF Rw_.storeF Rw_.v_cells Rw_.v_match
attribute [local go_sem] Rw_.C0 Rw_.C1 Rw_.C2 Rw_.loadF_new Rw_.storeF_zero Oper.semAt_some

/-- Whether one of them is at the distance. -/
def at20 (s d : Int) (l : List Hd) : Bool := l.any (fun h => decide (dist s h.q = d))
theorem at20_lt {s d : Int} {l : List Hd} (ha : Asc s l) {i : Nat} (hi : i < l.length) (h1 : ∀ t (h : t < l.length), t < i → dist s l[t].q < d) (h2 : d ≤ dist s l[i].q) : at20 s d l = decide (dist s l[i].q = d) := by
  unfold at20
  rw [Bool.eq_iff_iff, List.any_eq_true]
  constructor
  · rintro ⟨x, hx, he⟩
    obtain ⟨j, hj, rfl⟩ := List.mem_iff_getElem.1 hx
    have he' := of_decide_eq_true he
    rcases Nat.lt_trichotomy j i with h | rfl | h
    · have := h1 j hj h; omega
    · exact he
    · have := List.pairwise_iff_getElem.1 ha i j hi hj h; omega
  · intro he
    exact ⟨_, List.getElem_mem hi, he⟩
theorem at20_ge {s d : Int} {l : List Hd} (h1 : ∀ t (h : t < l.length), dist s l[t].q < d) : at20 s d l = false := by
  unfold at20
  rw [List.any_eq_false]
  intro x hx he
  obtain ⟨j, hj, rfl⟩ := List.mem_iff_getElem.1 hx
  have := h1 j hj
  have := of_decide_eq_true he
  omega

theorem asc_lt {s : Int} {l : List Hd} (ha : Asc s l) {i j : Nat} (hj : j < l.length) (hi : i < l.length) (h : i ≤ j) : dist s l[i].q ≤ dist s l[j].q := by
  rcases Nat.lt_or_eq_of_le h with h | rfl
  · exact Int.le_of_lt (List.pairwise_iff_getElem.1 ha i j hi hj h)
  · exact Int.le_refl _

theorem bs_nums {lo hi m : Nat} (hm : (lo + hi) / 2 = m) (h : hi ≤ 1000) (hl : lo < hi) : ((lo : Int) + (hi : Int)) / 2 = (m : Int) ∧ wrap64 ((lo : Int) + (hi : Int)) = (lo : Int) + (hi : Int) ∧ IntKind.u64.wrap ((lo : Int) + (hi : Int)) = (lo : Int) + (hi : Int) ∧ wrap64 (m : Int) = (m : Int) ∧ wrap64 ((m : Int) + 1) = (m : Int) + 1 := by
  refine ⟨by omega, IntWalk.wrap64_in _ (by omega), IntWalk.u64_in _ (by omega), IntWalk.wrap64_in _ (by omega), IntWalk.wrap64_in _ (by omega)⟩

set_option maxRecDepth 100000 in
set_option maxHeartbeats 4000000 in
theorem ro_search_any (sa : Option Addr) (l : List Hd) (c : Nat) (d : Int) (B : Nat) (x : Rw) (w : World) (hS : Hd_.Sl w sa l c) (hB : Rw_.Box w B x) (hd : 0 ≤ d ∧ d < 4096) (ha : Asc x.st l) (hl : l.length ≤ 1000) :
    Calls Try.prog 43 #[.slice sa l.length c, .int .i64 d, .func (.func 44) #[] #[.pointer (some ⟨B, 0, none⟩)]] w fun e w' =>
      e = .returned (.tuple #[.int .i64 (nb x.st d l : Nat), .bool (at20 x.st d l)]) ∧ Below w.heap.size w w' := by
  have HS := Lib.hid hS
  have HB := Lib.hid hB
  have HA := Lib.hid ha
  have HL := Lib.hid hl
  have CC : Hid (∀ (h : Hd) (W : World), Below w.heap.size w W → Calls Try.prog 44 #[.agg #[.int .i64 h.q, .string h.d], .int .i64 d, .pointer (some ⟨B, 0, none⟩)] W fun e w' => e = .returned (.int .i64 (dist x.st h.q - d)) ∧ Below W.heap.size W w') := fun h W hW => ro_cmp_any h d B x W (hB.below hW hB.lt) hd
  have eg : ∀ (args : Array Value) (w : World), (callFunc 44 args).run Try.prog w = .ok (.enter 44 args) w := fun args w => by
    kernel_rfl
  clear hS hB ha hl hd
  generalize hn : l.length = n at *
  have HN := Lib.hid hn
  clear hn
  go_enter Try.func43, Try.ntmps43
  go_wp2
  go_loopw [9, 10] (fun s9 s10 wr => ∃ lo hi : Nat, s9 = .int .i64 lo ∧ s10 = .int .i64 hi ∧ lo ≤ hi ∧ hi ≤ n ∧ Hid ((∀ t (h : t < l.length), t < lo → dist x.st l[t].q < d) ∧ (∀ t (h : t < l.length), hi ≤ t → d ≤ dist x.st l[t].q)) ∧ Hid (Below w.heap.size w wr)) (fun s9 s10 _ => (intOf s10).toNat - (intOf s9).toNat)
  case atStart => exact ⟨0, n, rfl, rfl, Nat.zero_le _, Nat.le_refl _, ⟨fun t _ ht => absurd ht (Nat.not_lt_zero _), fun t h1 h2 => absurd h1 (by have := HN.out; omega)⟩, Below.refl _ _⟩
  case round =>
    rename World => wr
    obtain ⟨lo, hi, rfl, rfl, hlh, hin, HI, HW⟩ := hrel
    by_cases hlt : lo < hi
    · obtain ⟨m, hm⟩ : ∃ m : Nat, (lo + hi) / 2 = m := ⟨_, rfl⟩
      have hm1 : lo ≤ m := by omega
      have hm2 : m < hi := by omega
      have hml : m < l.length := by have := HN.out; omega
      obtain ⟨b, off, hsa, hbl, k0, k1⟩ := HS.out.lies m hml
      subst hsa
      have c0 := (HW.out.cell hbl).trans k0
      have c1 := (HW.out.cell hbl).trans k1
      have CK := Lib.hid (CC.out l[m] wr HW.out)
      have HI2 : Hid (∀ t (h : t < l.length), dist x.st l[t].q ≤ dist x.st l[m].q ∨ m ≤ t) := fun t ht => by
        by_cases h : m ≤ t
        · exact .inr h
        · exact .inl (asc_lt HA.out hml ht (by omega))
      have HI3 : Hid (∀ t (h : t < l.length), m ≤ t → dist x.st l[m].q ≤ dist x.st l[t].q) := fun t ht h => asc_lt HA.out ht hml h
      have HMN : Hid (m < n ∧ (lo + hi) / 2 = m) := ⟨by omega, hm⟩
      have HMD : Hid (∀ t (ht : t < l.length), t = m → dist x.st l[t].q = dist x.st l[m].q) := fun t _ e => by subst e; rfl
      generalize l[m] = h at *
      clear k0 k1 hbl
      obtain ⟨hmi, hsum, hu, hm0, hmw⟩ := bs_nums hm (show hi ≤ 1000 from Nat.le_trans hin (HN.out ▸ HL.out)) hlt
      have HMW := Lib.hid hmw
      have hmn := HMN.out.1
      by_cases hc : dist x.st h.q < d
      · have hcd : dist x.st h.q - d < 0 := by omega
        have HC := Lib.hid hc
        clear hc
        go_wp2_with (go_at_fn 44; refine CK.out.mono ?_; rintro e w' ⟨rfl, hw'⟩; have HW' := Lib.hid (HW.out.trans (hw'.mono HW.out.size)); clear hw')
        clear hsum hu hm0 hmw hmi
        go_roundw
        case rel =>
          refine ⟨m + 1, hi, by rw [HMW.out]; rfl, rfl, by omega, hin, ⟨fun t ht h1 => ?_, HI.out.2⟩, HW'⟩
          rcases HI2.out t ht with h2 | h2
          · exact Int.lt_of_le_of_lt h2 HC.out
          · rw [HMD.out t ht (by omega)]
            exact HC.out
        case measure => rw [HMW.out]; simp [intOf]; omega
      · have hcd : ¬ dist x.st h.q - d < 0 := by omega
        have HC := Lib.hid hc
        clear hc
        go_wp2_with (go_at_fn 44; refine CK.out.mono ?_; rintro e w' ⟨rfl, hw'⟩; have HW' := Lib.hid (HW.out.trans (hw'.mono HW.out.size)); clear hw')
        clear hsum hu hm0 hmw hmi
        go_roundw
        case rel =>
          refine ⟨lo, m, rfl, rfl, hm1, by omega, ⟨HI.out.1, fun t ht h1 => ?_⟩, HW'⟩
          have h2 := HI3.out t ht h1
          have := HC.out
          omega
        case measure => simp [intOf]; omega
    · obtain rfl : lo = hi := by omega
      have HNB : Hid (lo = nb x.st d l) := nb_unique x.st d l lo (by have := HN.out; omega) HI.out.1 (fun h => HI.out.2 lo h (Nat.le_refl _))
      by_cases hend : lo < n
      · have hml : lo < l.length := by have := HN.out; omega
        obtain ⟨b, off, hsa, hbl, k0, k1⟩ := HS.out.lies lo hml
        subst hsa
        have c0 := (HW.out.cell hbl).trans k0
        have c1 := (HW.out.cell hbl).trans k1
        have CK := Lib.hid (CC.out l[lo] wr HW.out)
        have HF := Lib.hid (at20_lt HA.out hml HI.out.1 (HI.out.2 lo hml (Nat.le_refl _)))
        generalize l[lo] = h at *
        clear k0 k1 hbl hml
        by_cases hc : dist x.st h.q = d
        · have hcd : dist x.st h.q - d = 0 := by omega
          have HF2 : Hid (at20 x.st d l = true) := HF.out.trans (decide_eq_true hc)
          clear hc
          go_wp2_with (go_at_fn 44; refine CK.out.mono ?_; rintro e w' ⟨rfl, hw'⟩; have HW' := Lib.hid (HW.out.trans (hw'.mono HW.out.size)); clear hw')
          go_returns
          exact ⟨by rw [← HNB.out, HF2.out]; rfl, HW'.out⟩
        · have hcd : ¬ dist x.st h.q - d = 0 := by omega
          have hcd2 : (dist x.st h.q - d == 0) = false := by rw [beq_eq_false_iff_ne]; exact hcd
          have HF2 : Hid (at20 x.st d l = false) := HF.out.trans (decide_eq_false hc)
          clear hc
          go_wp2_with (go_at_fn 44; refine CK.out.mono ?_; rintro e w' ⟨rfl, hw'⟩; have HW' := Lib.hid (HW.out.trans (hw'.mono HW.out.size)); clear hw')
          go_returns
          exact ⟨by rw [← HNB.out, HF2.out]; rfl, HW'.out⟩
      · have HF2 : Hid (at20 x.st d l = false) := at20_ge (fun t ht => HI.out.1 t ht (by have := HN.out; omega))
        go_wp2
        go_returns
        exact ⟨by rw [← HNB.out, HF2.out]; rfl, HW.out⟩
end Go.Proofs.Yteffmfloopkmoaa
