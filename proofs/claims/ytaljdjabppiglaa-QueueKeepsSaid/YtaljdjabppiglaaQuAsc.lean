/-
  THE LAW QueueKeeps: what it calls beside the package: ascending; appending a list to what is gone.
-/
import Derived.Test.YtaljdjabppiglaaQuOp
namespace Go.Proofs.Ytaljdjabppiglaa
open Go.RowKit Go.Qu Go.Wr Go.Ad
attribute [local go_sem ↓ high] Ix_.loadF Ix_.storeF Ix_.v_cells Ix_.v_match
attribute [local go_sem] Ix_.C0 Ix_.C1 Ix_.C2 Ix_.C3 Ix_.C4 Ix_.C5 Ix_.C6 Ix_.loadF_new Ix_.storeF_zero Oper.semAt_some fold_c Ix_.Csize

/-- A list is appended to one of two rows of one's own. -/
theorem wpList_appTw (w : World) {ops : Array Oper} {rest : List Oper} {o : Oper} {a : Act} {Q : Exit → Act → World → Prop} (hgd : o.guard = none) (s x : Operand)
    (ho : o.op = .call { callee := .builtin .append, args := #[s, x], argTypes := #[24, 24] })
    (w0 : World) (v u : Value) (l m : List It) (hs : a.eval s = u) (hT : Tw w0 v u l m w)
    (sa : Option Addr) (n c : Nat) (l2 : List It) (hx : a.eval x = .slice sa n c) (hm : l2.length = n) (hsl : It_.Sl w sa l2 c) (hlen : m.length + n ≤ 3000)
    (h : ∀ u' w', Tw w0 v u' l (m ++ l2) w' → wpList Try.prog ops Q rest (a.put o.dst u') w') : wpList Try.prog ops Q (o :: rest) a w := by
  obtain ⟨i0, hi, hz0, hz1, hz2⟩ := info_parts It_.info
  cases sa with
  | some ad =>
    refine wpList_append_own_at w hgd s x 24 ho w0.heap.size 28 i0 (.agg #[.int .i64 0, .int .i64 0, .int .u64 0, .int .u64 0, .string ⟨#[]⟩, .int .i64 0, .int .i64 0]) 7 64 Try.underlying24 hi hz0 hz1 hz2 rfl (by decide) u m.length (It_.flat m) hs hT.b ad n c (It_.flat l2) hx (by rw [It_.flat_len, hm]) (hsl.news ad rfl) (It_.flat_ones l2) (by unfold maxLen; omega) (by omega) hT.bel.size ?_
    intro v' w' h1 h2 _ hat
    refine h v' w' ⟨owns_grown23 hT.a h2 (fun g hu hv => hT.ne g hv hu), ?_, fun g hv hu => ?_, hT.bel.grown h2 hT.bel.size (fun k hk => (owns_blk23 hT.b hk).1)⟩
    · rw [It_.flat_append, List.length_append, hm]; exact h1
    · rcases hat with e | e
      · exact hT.ne g hv (e ▸ hu)
      · have := (owns_blk23 hT.a hv).2
        rw [e] at hu; cases hu; omega
  | none =>
    have h1 := hsl.nil rfl
    have h2 := hsl.le
    have hl2 : l2 = [] := List.eq_nil_of_length_eq_zero (by omega)
    subst hl2
    subst h1
    obtain rfl : n = 0 := hm.symm
    refine wpList_plain hgd fun K hK' => ?_
    have hrun := run_append_owned_none (P := Try.prog) w w0.heap.size 24 o.type 28 i0 7 Try.underlying24 hi u m.length (It_.flat m) hT.b
    unfold Oper.wp
    simp [execOp, ho, resolve, invoke, builtin, hs, hx, hrun, Result.andThen]
    exact hK' _ _ (h u w (by rw [List.append_nil]; exact hT))

set_option maxRecDepth 100000 in
set_option maxHeartbeats 4000000 in
theorem asc23_any (sa : Option Addr) (l : List It) (c : Nat) (w : World) (hS : It_.Sl w sa l c) (hl : l.length ≤ 1000) (ha : (idsI l).Pairwise (· < ·)) :
    Calls Try.prog 13 #[.slice sa l.length c] w fun e w' => e = .returned (.bool true) ∧ Below w.heap.size w w' := by
  have HS := Lib.hid hS
  have HL := Lib.hid hl
  have HA := Lib.hid (fun i (h : i + 1 < l.length) => show l[i].id < l[i + 1].id by
    have := List.pairwise_iff_getElem.1 ha i (i + 1) (by unfold idsI; rw [List.length_map]; omega) (by unfold idsI; rw [List.length_map]; omega) (by omega)
    unfold idsI at this
    simpa using this)
  clear hS hl ha
  generalize hn : l.length = n at HL ⊢
  have HN := Lib.hid hn
  clear hn
  go_enter Try.func13, Try.ntmps13
  go_wp2
  go_loopw [3] (fun z wr => ∃ i : Nat, z = .int .i64 ((i : Int) + 1) ∧ (i + 1 ≤ n ∨ n = 0) ∧ i ≤ n ∧ Hid (Below w.heap.size w wr)) (fun z _ => n + 1 - (intOf z).toNat)
  case atStart => exact ⟨0, rfl, by omega, Nat.zero_le _, Below.refl _ _⟩
  case round =>
    rename World => wr
    obtain ⟨i, rfl, hi, hin, HB⟩ := hrel
    by_cases hlt : i + 1 < n
    · have hil : i + 1 < l.length := by have := HN.out; omega
      have hlt' : (i : Int) + 1 < (n : Int) := by omega
      have i0 : (0 : Int) ≤ (i : Int) := by omega
      have i2 : (0 : Int) ≤ (i : Int) + 1 := by omega
      have i3 : (i : Int) < (n : Int) := by omega
      obtain ⟨b, off, hsa, hbl, c0, -⟩ := HS.out.lies i (by omega)
      obtain ⟨b', off', hsb, -, d0, -⟩ := HS.out.lies (i + 1) hil
      have hlts := HA.out i (by have := HN.out; omega)
      rw [hsa] at hsb
      cases hsb
      have q0 : ∀ (q : Of (fun W => Below w.heap.size w W)), q.w.cell? ⟨b, off + i * 7, none⟩ = some (.int .i64 l[i].id) := fun q => (q.ok.cell hbl).trans c0
      have q1 : ∀ (q : Of (fun W => Below w.heap.size w W)), q.w.cell? ⟨b, off + (i + 1) * 7, none⟩ = some (.int .i64 l[i + 1].id) := fun q => (q.ok.cell hbl).trans d0
      have hw1 : wrap64 ((i : Int) + 1 - 1) = (i : Int) := by rw [show (i : Int) + 1 - 1 = i by omega]; exact IntWalk.wrap64_in _ (by have := HL.out; omega)
      have hw2 : IntKind.i64.wrap ((i : Int) + 1 - 1) = (i : Int) := by rw [show (i : Int) + 1 - 1 = i by omega]; exact IntWalk.i64_in _ (by have := HL.out; omega)
      have ht : ((i : Int) + 1).toNat = i + 1 := by omega
      subst hsa
      have HLT := Lib.hid hlt
      have hi1 : i ≤ 1000 := by have := HL.out; omega
      have hge : ¬ l[i + 1].id ≤ l[i].id := by omega
      generalize l[i].id = x at *
      generalize l[i + 1].id = y at *
      have _ne : Nonempty (Of (fun W => Below w.heap.size w W)) := ⟨⟨_, HB.out⟩⟩
      clear hil hlt hbl c0 d0 hlts hi hin
      go_wp2
      refine wp_region_of (fun W => Below w.heap.size w W) (by kernel_rfl) (Region.lexB_of_fast (by kernel_rfl)) (HB.out.trans ⟨rfl, rfl, rfl, Nat.le_refl _, fun _ _ => rfl⟩) ?_
      repeat (go_big_quiet_step (fail))
      refine wpQuiet_nil ?_
      rintro _ ⟨q, rfl⟩
      have HB2 := Lib.hid q.ok
      generalize q.w = w2 at *
      clear q0 q1 _ne
      go_wp2
      go_roundw
      case rel => exact ⟨i + 1, by go_num, .inl (by have := HLT.out; omega), by have := HLT.out; omega, HB2⟩
      case measure => have := HLT.out; simp [intOf]; omega
    · have hge : ¬ (i : Int) + 1 < (n : Int) := by omega
      go_wp2
      go_returns
      exact ⟨rfl, HB.out⟩
end Go.Proofs.Ytaljdjabppiglaa
