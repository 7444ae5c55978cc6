/-
  WALKS of package queue: the functions that are passed as arguments; checkNext, Check.
-/
import Derived.Test.YtaljdjabppiglaaQuProg
namespace Go.Proofs.Ytaljdjabppiglaa
open Go.RowKit Go.Qu Go.Wr Go.Ad
attribute [local go_sem ↓ high] Ix_.loadF Ix_.storeF Ix_.v_cells Ix_.v_match
attribute [local go_sem] Ix_.C0 Ix_.C1 Ix_.C2 Ix_.C3 Ix_.C4 Ix_.C5 Ix_.C6 Ix_.loadF_new Ix_.storeF_zero Oper.semAt_some

/-- A number in a cell. -/
structure Nc (b : Nat) (u : Value) (W : World) : Prop where
  c : W.cell? ⟨b, 0, none⟩ = some u
  lt : b < W.heap.size
theorem Nc.keep {b : Nat} {u : Value} {W W' : World} (h : Nc b u W) (hb : Below W.heap.size W W') : Nc b u W' := ⟨(hb.cell h.lt).trans h.c, Nat.lt_of_lt_of_le h.lt hb.size⟩
theorem Nc.new (W : World) (u : Value) (t : TypeId) : Nc W.heap.size u (W.alloc (.cells #[u] t)) := by
  have h : (W.alloc (.cells #[u] t)).heap[W.heap.size]? = some (.cells #[u] t (0, 0)) := by
    show (W.heap.push _)[W.heap.size]? = _
    rw [Array.getElem?_push, if_pos rfl]
  exact ⟨cell_of_row _ _ 0 #[u] _ _ h, by simp⟩

set_option maxRecDepth 100000 in
theorem isId_any (p x : It) (bx : Nat) (w : World) (hx : Ix_.Box w bx x) :
    Calls Try.prog 48 #[Ix_.v p, .pointer (some ⟨bx, 0, none⟩)] w fun e w' => e = .returned (.bool (p.id == x.id)) ∧ Below w.heap.size w w' := by
  obtain ⟨w1, hw1⟩ : ∃ w1, w.alloc (.cells (Ix_.C p) 28) = w1 := ⟨_, rfl⟩
  have hb : Ix_.Box w1 w.heap.size p := hw1 ▸ Ix_.Box.new w p
  have B1 : Hid (Below w.heap.size w w1) := hw1 ▸ (Below.refl _ _).alloc (Nat.le_refl _) _
  have e1 := hb.all
  have e2 := (hx.below B1.out hx.lt).all
  clear hx hb
  go_enter Try.func48, Try.ntmps48
  go_wp2
  go_returns
  exact ⟨rfl, B1.out⟩
theorem isId_tells (x : It) (bx : Nat) : TellsI (fun W => Ix_.Box W bx x) 48 #[.pointer (some ⟨bx, 0, none⟩)] (fun p => p.id == x.id) (fun _ => True) :=
  ⟨fun args w => by kernel_rfl, fun p W _ h => isId_any p x bx W h⟩

set_option maxRecDepth 100000 in
theorem isFor_any (p : It) (a : Int) (b : Nat) (w : World) (hx : Nc b (.int .u64 a) w) :
    Calls Try.prog 49 #[Ix_.v p, .pointer (some ⟨b, 0, none⟩)] w fun e w' => e = .returned (.bool (isTo a p)) ∧ Below w.heap.size w w' := by
  obtain ⟨w1, hw1⟩ : ∃ w1, w.alloc (.cells (Ix_.C p) 28) = w1 := ⟨_, rfl⟩
  have hb : Ix_.Box w1 w.heap.size p := hw1 ▸ Ix_.Box.new w p
  have B1 : Hid (Below w.heap.size w w1) := hw1 ▸ (Below.refl _ _).alloc (Nat.le_refl _) _
  have e1 := hb.all
  have e2 := (hx.keep B1.out).c
  clear hx hb
  unfold isTo
  go_enter Try.func49, Try.ntmps49
  go_wp2
  go_returns
  exact ⟨rfl, B1.out⟩
theorem isFor_tells (a : Int) (b : Nat) : TellsI (Nc b (.int .u64 a)) 49 #[.pointer (some ⟨b, 0, none⟩)] (isTo a) (fun _ => True) :=
  ⟨fun args w => by kernel_rfl, fun p W _ h => isFor_any p a b W h⟩
set_option maxRecDepth 100000 in
/-- The function for an address is made. -/
theorem mkFor_any (a : Int) (w : World) :
    Calls Try.prog 33 #[.int .u64 a] w fun e w' => ∃ b, e = .returned (.func (.func 49) #[] #[.pointer (some ⟨b, 0, none⟩)]) ∧ Nc b (.int .u64 a) w' ∧ Below w.heap.size w w' := by
  obtain ⟨w1, hw1⟩ : ∃ w1, w.alloc (.cells #[.int .u64 a] 26) = w1 := ⟨_, rfl⟩
  have B1 : Hid (Below w.heap.size w w1) := hw1 ▸ (Below.refl _ _).alloc (Nat.le_refl _) _
  have N1 := Lib.hid (hw1 ▸ Nc.new w (.int .u64 a) 26)
  go_enter Try.func33, Try.ntmps33
  go_wp2
  go_returns
  exact ⟨_, rfl, N1.out, B1.out⟩

theorem u64_sub {n b : Int} (hn : -9223372036854775808 ≤ n) (hn1 : n ≤ 9223372036854775807) (hb : -9223372036854775808 ≤ b) (h : b ≤ n) : IntKind.u64.wrap (IntKind.u64.wrap n - IntKind.u64.wrap b) = n - b := by
  rw [IntKind.wrap_u64, IntKind.wrap_u64, IntKind.wrap_u64]; omega
theorem u64_pos {n : Int} (h0 : 0 < n) (h1 : n ≤ 9223372036854775807) : IntKind.u64.wrap n = n := by rw [IntKind.wrap_u64]; omega

set_option maxRecDepth 100000 in
set_option maxHeartbeats 1000000 in
theorem expires_any (p : It) (now : Int) (w : World) (hp : Wf p) (h0 : -9223372036854775808 ≤ now) (h1 : now ≤ 9223372036854775807) :
    Calls Try.prog 37 #[Ix_.v p, .int .i64 now] w fun e w' => e = .returned (.bool (exps now p)) ∧ Below w.heap.size w w' := by
  obtain ⟨w1, hw1⟩ : ∃ w1, w.alloc (.cells (Ix_.C p) 28) = w1 := ⟨_, rfl⟩
  have hb : Ix_.Box w1 w.heap.size p := hw1 ▸ Ix_.Box.new w p
  have B1 : Hid (Below w.heap.size w w1) := hw1 ▸ (Below.refl _ _).alloc (Nat.le_refl _) _
  have e1 := hb.all
  have hE : exps now p = (decide (0 < p.li) && (decide (p.bo ≤ now) && decide (p.li ≤ now - p.bo))) := rfl
  rw [hE]
  clear hb hE
  by_cases hl : 0 < p.li
  · rw [decide_eq_true hl, Bool.true_and]
    by_cases hn : p.bo ≤ now
    · have hs := u64_sub h0 h1 hp.b0 hn
      have hu := u64_pos hl hp.l1
      rw [decide_eq_true hn, Bool.true_and]
      clear hp h0 h1
      go_enter Try.func37, Try.ntmps37
      go_wp2
      go_returns
      exact ⟨rfl, B1.out⟩
    · rw [decide_eq_false hn, Bool.false_and]
      clear hp h0 h1
      go_enter Try.func37, Try.ntmps37
      go_wp2
      go_returns
      exact ⟨rfl, B1.out⟩
  · rw [decide_eq_false hl, Bool.false_and]
    clear hp h0 h1
    go_enter Try.func37, Try.ntmps37
    go_wp2
    go_returns
    exact ⟨rfl, B1.out⟩
set_option maxRecDepth 100000 in
theorem isOld_any (p : It) (now : Int) (b : Nat) (w : World) (hp : Wf p) (h0 : -9223372036854775808 ≤ now) (h1 : now ≤ 9223372036854775807) (hx : Nc b (.int .i64 now) w) :
    Calls Try.prog 36 #[Ix_.v p, .pointer (some ⟨b, 0, none⟩)] w fun e w' => e = .returned (.bool (exps now p)) ∧ Below w.heap.size w w' := by
  obtain ⟨w1, hw1⟩ : ∃ w1, w.alloc (.cells (Ix_.C p) 28) = w1 := ⟨_, rfl⟩
  have hb : Ix_.Box w1 w.heap.size p := hw1 ▸ Ix_.Box.new w p
  have B1 : Hid (Below w.heap.size w w1) := hw1 ▸ (Below.refl _ _).alloc (Nat.le_refl _) _
  have l1 := hb.loadF
  have e2 := (hx.keep B1.out).c
  have CE := Lib.hid (expires_any p now w1 hp h0 h1)
  clear hx hb hp h0 h1
  go_enter Try.func36, Try.ntmps36
  go_wp2_with (go_at_call 37; refine CE.out.mono ?_; rintro e w2 ⟨rfl, hw2⟩; have B2 := Lib.hid (B1.out.trans (hw2.mono B1.out.size)); clear hw2)
  go_returns
  exact ⟨rfl, B2.out⟩
theorem isOld_tells (now : Int) (b : Nat) (h0 : -9223372036854775808 ≤ now) (h1 : now ≤ 9223372036854775807) : TellsI (Nc b (.int .i64 now)) 36 #[.pointer (some ⟨b, 0, none⟩)] (exps now) Wf :=
  ⟨fun args w => by kernel_rfl, fun p W hp h => isOld_any p now b W hp h0 h1 h⟩

set_option maxRecDepth 100000 in
theorem single_any (a : Int) (w : World) (h0 : 0 ≤ a) (h1 : a < 18446744073709551616) :
    Calls Try.prog 45 #[.int .u64 a] w fun e w' => e = .returned (.bool (sgl a)) ∧ w = w' := by
  obtain ⟨n, rfl⟩ : ∃ n : Nat, a = n := ⟨a.toNat, by omega⟩
  have CV := Lib.hid (fun w => valid_any n w)
  have CG := Lib.hid (fun w => group_any n w (by omega))
  have hE : sgl (n : Int) = (vald n && !grp n) := by unfold sgl; rw [Int.toNat_natCast]
  rw [hE]
  clear h0 h1 hE
  cases hv : vald n
  · rw [hv] at CV
    go_enter Try.func45, Try.ntmps45
    go_wp2_with (go_at_call 44; refine (CV.out _).mono ?_; rintro e w' ⟨rfl, rfl⟩)
    go_returns
    exact ⟨rfl, rfl⟩
  · rw [hv] at CV
    rw [Bool.true_and]
    generalize grp n = G at *
    go_enter Try.func45, Try.ntmps45
    go_wp2_with (first
      | (go_at_call 44; refine (CV.out _).mono ?_; rintro e w' ⟨rfl, rfl⟩)
      | (go_at_call 54; refine (CG.out _).mono ?_; rintro e w' ⟨rfl, rfl⟩))
    go_returns
    exact ⟨rfl, rfl⟩
set_option maxRecDepth 100000 in
theorem slot_any (n : Int) (w : World) :
    Calls Try.prog 46 #[.int .i64 n] w fun e w' => e = .returned (.bool (slt n)) ∧ w = w' := by
  unfold slt
  by_cases h0 : 0 ≤ n
  · rw [decide_eq_true h0, Bool.true_and]
    go_enter Try.func46, Try.ntmps46
    go_wp2
    go_returns
    exact ⟨rfl, rfl⟩
  · rw [decide_eq_false h0, Bool.false_and]
    go_enter Try.func46, Try.ntmps46
    go_wp2
    go_returns
    exact ⟨rfl, rfl⟩
end Go.Proofs.Ytaljdjabppiglaa
