/-
  THE WALK of the law DrawPermutes.
-/
import Derived.Test.YtlifnaofppofmaaDwLaws
namespace Go.Proofs.Ytlifnaofppofmaa
open Go.RowKit Go.Dw

/-- Which numbers have been seen after k elements. -/
def Seen (W : World) (h : Nat) (l : List Int) (k : Nat) : Prop := ∀ b, b < 64 → W.cell? ⟨h, b, none⟩ = some (.bool (decide ((b : Int) ∈ l.take k))) ∧ W.frozen? ⟨h, b, none⟩ = false
theorem Seen.next {W : World} {h k u : Nat} {l : List Int} (hs : Seen W h l k) (hk : k < l.length) (hu : l.getD k 0 = (u : Int)) : Seen (W.setCell ⟨h, u, none⟩ (.bool true)) h l (k + 1) := by
  intro b hb
  obtain ⟨h1, h2⟩ := hs b hb
  refine ⟨?_, (World.frozen?_setCell _ _ _ _).trans h2⟩
  have hu' : l[k] = (u : Int) := by rw [← hu]; simp [List.getD, hk]
  rw [List.take_succ_eq_append_getElem hk, hu']
  by_cases e : u = b
  · subst e
    rw [World.cell?_setCell_same _ _ _ h1]
    simp
  · rw [World.cell?_setCell_other _ _ _ _ (fun h => e (congrArg Addr.off h)), h1]
    have : ¬ (b : Int) = (u : Int) := by omega
    simp [this]
theorem Seen.not {W : World} {h k u : Nat} {l : List Int} (hs : Seen W h l k) (hn : l.Nodup) (hk : k < l.length) (hu : l.getD k 0 = (u : Int)) (h64 : u < 64) : W.cell? ⟨h, u, none⟩ = some (.bool false) := by
  have hu' : l[k] = (u : Int) := by rw [← hu]; simp [List.getD, hk]
  have := nodup_take hn k hk
  rw [hu'] at this
  rw [(hs u h64).1, decide_eq_false this]

set_option maxRecDepth 100000 in
set_option maxHeartbeats 2000000 in
theorem drawPermutes_walk0 (a : Int) (ha : (Lit.int .u64 a).wf = true) (n : Int) (_hn : (Lit.int .i64 n).wf = true) (W : World) :
    Calls Try.prog 8 #[.int .u64 a, .int .i64 n] W fun e w' => e = .returned (.bool true) ∧ Below W.heap.size W w' := by
  obtain ⟨x, rfl, hx⟩ := nat_of_u64 ha
  obtain ⟨mx, hmx, hmn⟩ := cnt_cast n
  have Hm := Lib.hid (cnt_le n)
  have c1 := Lib.hid (order_any x n W hx)
  have HND := Lib.hid (ord_nodup x (cnt n))
  have HLN := Lib.hid (ord_len x (cnt n))
  have HME : Hid (∀ z, z ∈ (ord x (cnt n)).1 → 0 ≤ z ∧ z < cnt n) := fun z hz => ord_mem hz
  have LV := Lib.hid lives_any
  unfold OrdPost at c1
  generalize cnt n = m at *
  generalize (ord x m).1 = l at *
  generalize (ord x m).2 = y at *
  have HMM := Lib.hid (And.intro hmx hmn)
  clear ha hx hmx hmn
  go_enter Try.func8, Try.ntmps8
  go_wp2_with fail
  refine c1.out.mono ?_
  rintro e w1 ⟨g, cap, rfl, hc, -, hg, hb⟩
  have hs0 : Seen (w1.alloc (.cells #[.bool false, .bool false, .bool false, .bool false, .bool false, .bool false, .bool false, .bool false, .bool false, .bool false, .bool false, .bool false, .bool false, .bool false, .bool false, .bool false, .bool false, .bool false, .bool false, .bool false, .bool false, .bool false, .bool false, .bool false, .bool false, .bool false, .bool false, .bool false, .bool false, .bool false, .bool false, .bool false, .bool false, .bool false, .bool false, .bool false, .bool false, .bool false, .bool false, .bool false, .bool false, .bool false, .bool false, .bool false, .bool false, .bool false, .bool false, .bool false, .bool false, .bool false, .bool false, .bool false, .bool false, .bool false, .bool false, .bool false, .bool false, .bool false, .bool false, .bool false, .bool false, .bool false, .bool false, .bool false] 37)) w1.heap.size l 0 := by
    rw [show (#[.bool false, .bool false, .bool false, .bool false, .bool false, .bool false, .bool false, .bool false, .bool false, .bool false, .bool false, .bool false, .bool false, .bool false, .bool false, .bool false, .bool false, .bool false, .bool false, .bool false, .bool false, .bool false, .bool false, .bool false, .bool false, .bool false, .bool false, .bool false, .bool false, .bool false, .bool false, .bool false, .bool false, .bool false, .bool false, .bool false, .bool false, .bool false, .bool false, .bool false, .bool false, .bool false, .bool false, .bool false, .bool false, .bool false, .bool false, .bool false, .bool false, .bool false, .bool false, .bool false, .bool false, .bool false, .bool false, .bool false, .bool false, .bool false, .bool false, .bool false, .bool false, .bool false, .bool false, .bool false] : Array Value) = Array.replicate 64 (.bool false) from rfl]
    intro b hb
    exact ⟨by rw [World.cell?_alloc_at _ _ _ b rfl]; simp [hb], by simp⟩
  have hc2 : ∀ j, j < m → (w1.alloc (.cells #[.bool false, .bool false, .bool false, .bool false, .bool false, .bool false, .bool false, .bool false, .bool false, .bool false, .bool false, .bool false, .bool false, .bool false, .bool false, .bool false, .bool false, .bool false, .bool false, .bool false, .bool false, .bool false, .bool false, .bool false, .bool false, .bool false, .bool false, .bool false, .bool false, .bool false, .bool false, .bool false, .bool false, .bool false, .bool false, .bool false, .bool false, .bool false, .bool false, .bool false, .bool false, .bool false, .bool false, .bool false, .bool false, .bool false, .bool false, .bool false, .bool false, .bool false, .bool false, .bool false, .bool false, .bool false, .bool false, .bool false, .bool false, .bool false, .bool false, .bool false, .bool false, .bool false, .bool false, .bool false] 37)).cell? ⟨g, j, none⟩ = some (.int .i64 (l.getD j 0)) := fun j hj => by
    rw [World.cell?_alloc_past _ _ _ hg]; exact hc j hj
  have hb2 : Below W.heap.size W (w1.alloc (.cells #[.bool false, .bool false, .bool false, .bool false, .bool false, .bool false, .bool false, .bool false, .bool false, .bool false, .bool false, .bool false, .bool false, .bool false, .bool false, .bool false, .bool false, .bool false, .bool false, .bool false, .bool false, .bool false, .bool false, .bool false, .bool false, .bool false, .bool false, .bool false, .bool false, .bool false, .bool false, .bool false, .bool false, .bool false, .bool false, .bool false, .bool false, .bool false, .bool false, .bool false, .bool false, .bool false, .bool false, .bool false, .bool false, .bool false, .bool false, .bool false, .bool false, .bool false, .bool false, .bool false, .bool false, .bool false, .bool false, .bool false, .bool false, .bool false, .bool false, .bool false, .bool false, .bool false, .bool false, .bool false] 37)) := hb.alloc hb.size _
  have HS0 := Lib.hid hs0
  have HC := Lib.hid hc2
  have HB := Lib.hid hb2
  have HG := Lib.hid hg
  have HZ := Lib.hid hb.size
  clear hb hc hg c1 hs0 hc2 hb2
  go_wp2
  generalize w1.alloc (.cells #[.bool false, .bool false, .bool false, .bool false, .bool false, .bool false, .bool false, .bool false, .bool false, .bool false, .bool false, .bool false, .bool false, .bool false, .bool false, .bool false, .bool false, .bool false, .bool false, .bool false, .bool false, .bool false, .bool false, .bool false, .bool false, .bool false, .bool false, .bool false, .bool false, .bool false, .bool false, .bool false, .bool false, .bool false, .bool false, .bool false, .bool false, .bool false, .bool false, .bool false, .bool false, .bool false, .bool false, .bool false, .bool false, .bool false, .bool false, .bool false, .bool false, .bool false, .bool false, .bool false, .bool false, .bool false, .bool false, .bool false, .bool false, .bool false, .bool false, .bool false, .bool false, .bool false, .bool false, .bool false] 37) = w2 at *
  generalize w1.heap.size = h at *
  go_loopw [17] (fun i wr => ∃ k : Nat, k ≤ m ∧ i = .int .i64 k ∧ Seen wr h l k ∧ (∀ j, j < m → wr.cell? ⟨g, j, none⟩ = some (.int .i64 (l.getD j 0))) ∧ Below W.heap.size W wr) (fun i _ => m - (intOf i).toNat)
  case atStart => exact ⟨0, Nat.zero_le _, rfl, HS0.out, HC.out, HB.out⟩
  case round =>
    clear HS0 HC HB
    obtain ⟨k, hk, rfl, hse, hce, hbe⟩ := hrel
    have hm64 : m ≤ 64 := Hm.out
    have HBE := Lib.hid hbe
    by_cases hlt : k < m
    · have hlt' := Lib.hid hlt
      have hkl : k < l.length := by rw [HLN.out]; exact hlt
      obtain ⟨z0, z1⟩ := HME.out (l.getD k 0) (by simp [List.getD, hkl])
      obtain ⟨u, hu⟩ : ∃ u : Nat, l.getD k 0 = u := ⟨(l.getD k 0).toNat, by omega⟩
      have hum : u < m := by omega
      have ck := hce k hlt
      rw [hu] at ck
      have cu := hse.not HND.out hkl hu (by omega)
      have fu := (hse u (by omega)).2
      have HNX := Lib.hid (hse.next hkl hu)
      have HCE := Lib.hid hce
      have u0 : ¬ (u : Int) < 0 := by omega
      have u1 : ¬ (m : Int) ≤ (u : Int) := by omega
      have u2 : ¬ (63 : Int) < (u : Int) := by omega
      have u3 : (u : Int) < 64 := by omega
      clear hse hce hbe hu z0 z1 hkl
      go_wp2
      go_roundw
      case rel => exact ⟨k + 1, hlt'.out, by go_num, HNX.out, fun j hj => by rw [World.cell?_setCell_other _ _ _ _ (fun e => by have h1 := congrArg Addr.block e; have h2 := HG.out; simp only at h1; omega)]; exact HCE.out j hj, HBE.out.setCell HZ.out _⟩
      case measure => have := hlt'.out; simp [intOf]; omega
    · obtain rfl : k = m := by omega
      obtain ⟨hmx, hmn⟩ := HMM.out
      clear hse hce hbe
      go_wp2_with (go_at_call 13; refine (LV.out _).mono ?_; rintro e w4 ⟨rfl, hb4⟩)
      go_returns
      exact ⟨rfl, HBE.out.trans (hb4.mono HBE.out.size)⟩
end Go.Proofs.Ytlifnaofppofmaa
