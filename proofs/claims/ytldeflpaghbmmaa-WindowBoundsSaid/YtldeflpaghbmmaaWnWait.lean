/-
  WALKS of law 22: waiting.
-/
import Derived.Test.YtldeflpaghbmmaaWnStep
namespace Go.Proofs.Ytldeflpaghbmmaa
open Go.RowKit Go.Wn Go.Sq Go.Wr
attribute [local go_sem ↓ high] Ww_.loadF Ww_.storeF Ww_.v_cells Ww_.v_match
attribute [local go_sem] Ww_.C0 Ww_.C1 Ww_.C2 Ww_.C3 Ww_.loadF_new Ww_.storeF_zero Oper.semAt_some

def wt (k : Int) (p : Sn) : Bool := isOp p && decide (p.id = k)
def cnt (s : St) (k : Int) : Nat := (s.l.filter (wt k)).length
theorem filter_one {α : Type} {f : Sn → α} : ∀ {l : List Sn} {P : Sn → Bool} {k : α}, (l.map f).Nodup → (∀ p, P p = true → f p = k) → (l.filter P).length ≤ 1
  | [], _, _, _, _ => Nat.zero_le _
  | a :: t, P, k, hd, hP => by
    rw [List.map_cons, List.nodup_cons] at hd
    have ih := filter_one (P := P) (k := k) hd.2 hP
    rw [List.filter_cons]
    split
    · rename_i ha
      have : t.filter P = [] := by
        rw [List.filter_eq_nil_iff]
        intro b hb hPb
        exact hd.1 (List.mem_map.2 ⟨b, hb, (hP b hPb).trans (hP a ha).symm⟩)
      rw [this]; exact Nat.le_refl _
    · exact ih
theorem cnt_opn {s : St} {n : Nat} (h : Inv s n) (k : Int) : decide ((cnt s k : Int) = 1) = opn s k := by
  have h1 : cnt s k ≤ 1 := filter_one (f := (·.id)) (k := k) h.nd (fun p hp => by unfold wt at hp; simpa using (Bool.and_eq_true_iff.1 hp).2)
  cases ho : opn s k
  · rw [decide_eq_false_iff_not]
    intro e
    have h2 : 0 < (s.l.filter (wt k)).length := by unfold cnt at e; omega
    obtain ⟨p, hp⟩ := List.exists_mem_of_length_pos h2
    obtain ⟨hp1, hp2⟩ := List.mem_filter.1 hp
    unfold wt at hp2
    have : opn s k = true := opn_iff.2 ⟨p, hp1, by simpa using hp2⟩
    rw [ho] at this; cases this
  · rw [decide_eq_true_iff]
    obtain ⟨p, hp, h2, h3⟩ := opn_iff.1 ho
    have : p ∈ s.l.filter (wt k) := List.mem_filter.2 ⟨hp, by unfold wt; rw [h2, h3]; simp⟩
    have := List.length_pos_of_mem this
    unfold cnt at *; omega
def cntTo (l : List Sn) (k : Int) (i : Nat) : Nat := ((l.take i).filter (wt k)).length
theorem cntTo_le (l : List Sn) (k : Int) (i : Nat) : cntTo l k i ≤ l.length := by
  have h1 := List.length_filter_le (wt k) (l.take i)
  unfold cntTo
  rw [List.length_take] at h1; omega
theorem cntTo_all (s : St) (k : Int) {i : Nat} (h : s.l.length ≤ i) : cntTo s.l k i = cnt s k := by unfold cntTo cnt; rw [List.take_of_length_le h]
theorem cntTo_yes {l : List Sn} {k : Int} {i : Nat} (h : i < l.length) (h1 : l[i].id = k) (h2 : l[i].dn = false) : cntTo l k (i + 1) = cntTo l k i + 1 := by
  unfold cntTo
  rw [List.take_add_one, List.getElem?_eq_getElem h, List.filter_append, List.length_append]
  have : wt k l[i] = true := by unfold wt isOp; rw [h1, h2]; simp
  simp [this]
theorem cntTo_no {l : List Sn} {k : Int} {i : Nat} (h : i < l.length) (h1 : ¬ l[i].id = k ∨ l[i].dn = true) : cntTo l k (i + 1) = cntTo l k i := by
  unfold cntTo
  rw [List.take_add_one, List.getElem?_eq_getElem h, List.filter_append, List.length_append]
  have : wt k l[i] = false := by
    unfold wt isOp
    rcases h1 with h1 | h1
    · simp [h1]
    · simp [h1]
  simp [this]

set_option maxRecDepth 100000 in
set_option maxHeartbeats 4000000 in
theorem waiting22_any (x : Wn) (s : St) (k : Int) (w : World) (hL : Lies w x s) (hl : s.l.length ≤ 1000) :
    Calls Try.prog 38 #[Ww_.v x, .int .i64 k] w fun e w' => e = .returned (.int .i64 (cnt s k)) ∧ Below w.heap.size w w' := by
  obtain ⟨w1, hw1⟩ : ∃ w1, w.alloc (.cells (Ww_.C x) 29) = w1 := ⟨_, rfl⟩
  have hb : Ww_.Box w1 w.heap.size x := hw1 ▸ Ww_.Box.new w x
  have B1 : Hid (Below w.heap.size w w1) := hw1 ▸ (Below.refl _ _).alloc (Nat.le_refl _) _
  have e1 := hb.all
  have HS := Lib.hid (hL.sl.below B1.out)
  have hn := hL.n
  have HN := Lib.hid hn
  have HL := Lib.hid hl
  have hx : x.n ≤ 1000 := by omega
  clear hL hb hl hn
  generalize hxn : x.n = n at *
  go_enter Try.func38, Try.ntmps38
  go_wp2
  go_loopw [5, 10] (fun v z wr => ∃ i : Nat, z = .int .i64 i ∧ i ≤ n ∧ v = .int .i64 (cntTo s.l k i) ∧ w1 = wr) (fun _ z _ => n - (intOf z).toNat)
  case atStart => exact ⟨0, rfl, Nat.zero_le _, rfl, rfl⟩
  case round =>
    obtain ⟨i, rfl, hi, rfl, rfl⟩ := hrel
    by_cases hlt : i < n
    · have hil : i < s.l.length := by have := HN.out; omega
      have hlt' : (i : Int) < (n : Int) := by omega
      obtain ⟨b, off, hsa, hbl, k0, k1, k2, k3, k4⟩ := HS.out.lies i hil
      have hc : cntTo s.l k i ≤ 1000 := Nat.le_trans (cntTo_le _ _ _) HL.out
      have H1 := Lib.hid (cntTo_yes (k := k) hil)
      have H2 := Lib.hid (cntTo_no (k := k) hil)
      have HLT := Lib.hid hlt
      have hi1 : i ≤ 1000 := by omega
      generalize s.l[i] = h at *
      generalize hC : cntTo s.l k i = C at *
      clear hbl hlt
      by_cases hid : h.id = k
      · cases hdn : h.dn
        · rw [hdn] at k3
          have H3 := Lib.hid (H1.out hid hdn)
          rw [hid] at k0
          clear H1 H2
          go_wp2
          go_roundw
          case rel => exact ⟨i + 1, by go_num, HLT.out, by rw [H3.out]; go_num, trivial⟩
          case measure => have := HLT.out; simp [intOf]; omega
        · rw [hdn] at k3
          have H3 := Lib.hid (H2.out (.inr hdn))
          rw [hid] at k0
          clear H1 H2
          go_wp2
          go_roundw
          case rel => exact ⟨i + 1, by go_num, HLT.out, by rw [H3.out], trivial⟩
          case measure => have := HLT.out; simp [intOf]; omega
      · have H3 := Lib.hid (H2.out (.inl hid))
        have hid' : (h.id == k) = false := by rw [beq_eq_false_iff_ne]; exact hid
        clear H1 H2
        go_wp2
        go_roundw
        case rel => exact ⟨i + 1, by go_num, HLT.out, by rw [H3.out], trivial⟩
        case measure => have := HLT.out; simp [intOf]; omega
    · obtain rfl : i = n := by omega
      have hC := cntTo_all s k (i := i) (by have := HN.out; omega)
      rw [hC]
      go_wp2
      go_returns
      exact ⟨rfl, B1.out⟩
end Go.Proofs.Ytldeflpaghbmmaa
