/-
  WALKS of package queue: items loaded out of a slice; functions that tell of an item; IndexFunc, ContainsFunc.
-/
import Derived.Test.YtaljdjabppiglaaQuIx
import Derived.Test.YtaljdjabppiglaaQuLib
import Derived.Test.YtaljdjabppiglaaQuCut
import Derived.Test.YtaljdjabppiglaaQuApp
import Derived.Test.YtaljdjabppiglaaAdVal
import Derived.Test.YtaljdjabppiglaaQuietOf
import Derived.Test.YtaljdjabppiglaaLexFast
import Derived.Shelf.Abstract
import Derived.Deep.LoopGhost
import Derived.Deep.MidRow
import Derived.Lib.MinMax
namespace Go.Proofs.Ytaljdjabppiglaa
open Go.RowKit Go.Qu Go.Wr Go.Ad
attribute [local go_sem ↓ high] Ix_.loadF Ix_.storeF Ix_.v_cells Ix_.v_match
attribute [local go_sem] Ix_.C0 Ix_.C1 Ix_.C2 Ix_.C3 Ix_.C4 Ix_.C5 Ix_.C6 Ix_.loadF_new Ix_.storeF_zero Oper.semAt_some

theorem Csz (x : It) : (Ix_.C x).size = 7 := rfl
/-- An item laid into the zero item's cells. -/
theorem fold_c (x : It) : Array.foldl (fun (cs : Array Value) (y : Value × Nat) => cs.setIfInBounds y.snd y.fst) #[.int .i64 0, .int .i64 0, .int .u64 0, .int .u64 0, .string ⟨#[]⟩, .int .i64 0, .int .i64 0] (Ix_.C x).zipIdx 0 7 = Ix_.C x := by
  kernel_rfl

/-- An item is loaded out of a slice. -/
theorem it_load {W : World} {sa : Option Addr} {l : List It} (h : It_.At W sa l) {i : Nat} (hi : i < l.length) {b off : Nat} (e : sa = some ⟨b, off, none⟩) : (Ix_.LoadF ⟨b, off + i * 7, none⟩).run Try.prog W = .ok (Ix_.v l[i]) W := by
  obtain ⟨b', off', e', -, h0, h1, h2, h3, h4, h5, h6⟩ := h i hi
  rw [e] at e'
  cases e'
  refine run_loadVar_mid W b (off + i * 7) 28 (Ix_.C l[i]).toList _ (fun j v hj => ?_) Try.underlying28 rfl Ix_.sz
  match j, hj with
  | 0, hj => cases hj; exact h0
  | 1, hj => cases hj; exact h1
  | 2, hj => cases hj; exact h2
  | 3, hj => cases hj; exact h3
  | 4, hj => cases hj; exact h4
  | 5, hj => cases hj; exact h5
  | 6, hj => cases hj; exact h6

/-- A function that tells of an item, with what it captures. -/
structure TellsI (S : World → Prop) (F : FuncId) (caps : Array Value) (P : It → Bool) (D : It → Prop) : Prop where
  go : ∀ (args : Array Value) (w : World), (callFunc F args).run Try.prog w = .ok (.enter F args) w
  call : ∀ p W, D p → S W → Calls Try.prog F (#[Ix_.v p] ++ caps) W fun e w' => e = .returned (.bool (P p)) ∧ Below W.heap.size W w'

/-- The first place of which it tells, or -1. -/
def idx (P : It → Bool) (l : List It) : Int := if fidx P l < l.length then (fidx P l : Int) else -1

set_option maxRecDepth 100000 in
set_option maxHeartbeats 4000000 in
theorem qu_index_any (S : World → Prop) (F : FuncId) (caps : Array Value) (P : It → Bool) (D : It → Prop) (T : TellsI S F caps P D) (sa : Option Addr) (l : List It) (c : Nat) (w : World) (hk : ∀ W, Below w.heap.size w W → S W) (hd : ∀ p ∈ l, D p) (hS : It_.Sl w sa l c) (hl : l.length ≤ 1000) :
    Calls Try.prog 32 #[.slice sa l.length c, .func (.func F) #[] caps] w fun e w' => e = .returned (.int .i64 (idx P l)) ∧ Below w.heap.size w w' := by
  have HS := Lib.hid hS
  have HL := Lib.hid hl
  have CK := Lib.hid T.call
  have HD := Lib.hid hd
  have eg := T.go
  have HK := Lib.hid hk
  clear hS hl T hk hd
  generalize hn : l.length = n at *
  have HN := Lib.hid hn
  clear hn
  go_enter Try.func32, Try.ntmps32
  go_wp2
  go_loopw [8] (fun z wr => ∃ i : Nat, z = .int .i64 i ∧ i ≤ n ∧ Hid (∀ j (hj : j < l.length), j < i → P l[j] = false) ∧ Hid (Below w.heap.size w wr)) (fun z _ => n - (intOf z).toNat)
  case atStart => exact ⟨0, rfl, Nat.zero_le _, fun j _ hj => absurd hj (Nat.not_lt_zero _), Below.refl _ _⟩
  case round =>
    rename World => wr
    obtain ⟨i, rfl, hi, HA, HB⟩ := hrel
    by_cases hlt : i < n
    · have hil : i < l.length := by have := HN.out; omega
      have hlt' : (i : Int) < (n : Int) := by omega
      have i0 : (0 : Int) ≤ (i : Int) := by omega
      obtain ⟨b, off, hsa, hbl, -⟩ := HS.out.lies i hil
      have ld := it_load (HS.out.lies.below HB.out) hil hsa
      subst hsa
      have CN := Lib.hid (CK.out l[i] wr (HD.out _ (List.getElem_mem hil)) (HK.out wr HB.out))
      have HX := Lib.hid (fun (h0 : P l[i] = false) => show ∀ j (hj : j < l.length), j < i + 1 → P l[j] = false from fun j hj hji => by
        rcases Nat.lt_succ_iff_lt_or_eq.1 hji with h | h
        · exact HA.out j hj h
        · subst h; exact h0)
      have HY := Lib.hid (fun (h0 : P l[i] = true) => show idx P l = (i : Int) by
        have := fidx_lt hil h0 (fun j hj => HA.out j (by omega) hj)
        unfold idx; rw [this, if_pos hil])
      have hi1 : i ≤ 1000 := by have := HL.out; omega
      have HLT := Lib.hid hlt
      generalize hP : P l[i] = p at *
      generalize l[i] = h at *
      clear hbl hil hP hlt
      cases p
      · have HZ := Lib.hid (HX.out rfl)
        go_wp2_with (go_at_fn F; refine CN.out.mono ?_; rintro e w' ⟨rfl, hw⟩; have HB2 := Lib.hid (HB.out.trans (hw.mono HB.out.size)); clear hw)
        go_roundw
        case rel => exact ⟨i + 1, by go_num, HLT.out, HZ, HB2⟩
        case measure => have := HLT.out; simp [intOf]; omega
      · have HZ := Lib.hid (HY.out rfl)
        go_wp2_with (go_at_fn F; refine CN.out.mono ?_; rintro e w' ⟨rfl, hw⟩; have HB2 := Lib.hid (HB.out.trans (hw.mono HB.out.size)); clear hw)
        go_returns
        exact ⟨by rw [HZ.out]; rfl, HB2.out⟩
    · obtain rfl : i = n := by omega
      have HZ : Hid (idx P l = -1) := by
        have := fidx_all (P := P) (l := l) (fun j hj => HA.out j hj (by have := HN.out; omega))
        show idx P l = -1
        unfold idx; rw [if_neg (by omega)]
      go_wp2
      go_returns
      exact ⟨by rw [HZ.out]; rfl, HB.out⟩

set_option maxRecDepth 100000 in
set_option maxHeartbeats 1000000 in
theorem qu_contains_any (S : World → Prop) (F : FuncId) (caps : Array Value) (P : It → Bool) (D : It → Prop) (T : TellsI S F caps P D) (sa : Option Addr) (l : List It) (c : Nat) (w : World) (hk : ∀ W, Below w.heap.size w W → S W) (hd : ∀ p ∈ l, D p) (hS : It_.Sl w sa l c) (hl : l.length ≤ 1000) :
    Calls Try.prog 47 #[.slice sa l.length c, .func (.func F) #[] caps] w fun e w' => e = .returned (.bool (l.any P)) ∧ Below w.heap.size w w' := by
  have CI := Lib.hid (qu_index_any S F caps P D T sa l c w hk hd hS hl)
  have HE : Hid (decide (0 ≤ idx P l) = l.any P) := by
    show _ = _
    rw [any_fidx]
    unfold idx
    split
    · rename_i h; rw [decide_eq_true h, decide_eq_true (by omega)]
    · rename_i h; rw [decide_eq_false h]; decide
  generalize idx P l = k at *
  clear hk hd hS hl T
  go_enter Try.func47, Try.ntmps47
  go_wp2_with (go_at_call 32; refine CI.out.mono ?_; rintro e w' ⟨rfl, hw⟩; have HB := Lib.hid hw; clear hw)
  go_returns
  exact ⟨by rw [HE.out]; rfl, HB.out⟩
end Go.Proofs.Ytaljdjabppiglaa
