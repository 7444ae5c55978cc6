/-
  A slice of calls that came in; THE WALK of few: at most 60 calls, with texts of at most 200 octets.
-/
import Derived.Test.YtekdfcbkpljllaaWrFault
namespace Go.Proofs.Ytekdfcbkpljllaa
open Go.RowKit Go.Wr

/-- A call as it came in. -/
structure Opr where
  k : Int
  n : Int
  z : Int
  t : ByteArray
  e : Int

/-- The calls lie behind the address. -/
def OpsAt (W : World) (sa : Option Addr) (ops : List Opr) : Prop :=
  ∀ i (h : i < ops.length), ∃ b off, sa = some ⟨b, off, none⟩ ∧ b < W.heap.size ∧ W.cell? ⟨b, off + i * 5, none⟩ = some (.int .i64 ops[i].k) ∧ W.cell? ⟨b, off + i * 5 + 1, none⟩ = some (.int .i64 ops[i].n) ∧
    W.cell? ⟨b, off + i * 5 + 2, none⟩ = some (.int .i64 ops[i].z) ∧ W.cell? ⟨b, off + i * 5 + 3, none⟩ = some (.string ops[i].t) ∧ W.cell? ⟨b, off + i * 5 + 4, none⟩ = some (.int .i64 ops[i].e)

theorem OpsAt.below {W W' : World} {sa : Option Addr} {ops : List Opr} {B : Nat} (h : OpsAt W sa ops) (hb : Below B W W') (hB : ∀ b off, sa = some ⟨b, off, none⟩ → b < B) : OpsAt W' sa ops := by
  intro i hi
  obtain ⟨b, off, e, hl, h0, h1, h2, h3, h4⟩ := h i hi
  have hlt := hB b off e
  exact ⟨b, off, e, Nat.lt_of_lt_of_le hl hb.size, (hb.cell hlt).trans h0, (hb.cell hlt).trans h1, (hb.cell hlt).trans h2, (hb.cell hlt).trans h3, (hb.cell hlt).trans h4⟩

/-- What few answers. -/
def fewB (ops : List Opr) : Bool := decide (ops.length ≤ 60) && ops.all fun o => decide (o.t.size ≤ 200)
theorem fewB_len {ops : List Opr} (h : fewB ops = true) : ops.length ≤ 60 := by unfold fewB at h; simp at h; exact h.1
theorem fewB_txt {ops : List Opr} (h : fewB ops = true) (i : Nat) (hi : i < ops.length) : ops[i].t.size ≤ 200 := by
  unfold fewB at h
  rw [Bool.and_eq_true] at h
  have := List.all_eq_true.1 h.2 ops[i] (List.getElem_mem hi)
  simpa using this

set_option maxHeartbeats 1000000 in
theorem few_any (ops : List Opr) (sa : Option Addr) (c : Nat) (w : World) (h : OpsAt w sa ops) :
    Calls Try.prog 8 #[.slice sa ops.length c] w fun e w' => e = .returned (.bool (fewB ops)) ∧ w = w' := by
  have HO := Lib.hid h
  clear h
  by_cases hl : ops.length ≤ 60
  · have hl' : ¬ (60 : Int) < ops.length := by omega

    go_enter Try.func8, Try.ntmps8
    go_wp2
    go_loop [3] (fun i => ∃ m : Nat, m ≤ ops.length ∧ i = .int .i64 m ∧ ∀ j (h : j < ops.length), j < m → ops[j].t.size ≤ 200) (fun i => ops.length - (intOf i).toNat)
    case atStart => exact ⟨0, Nat.zero_le _, rfl, fun j _ h => absurd h (by omega)⟩
    case round =>
      obtain ⟨m, hm, rfl, hj⟩ := hrel
      have HJ := Lib.hid hj
      clear hj
      by_cases hlt : m < ops.length
      · obtain ⟨b, off, rfl, -, h0, h1, h2, h3, h4⟩ := HO.out m hlt
        clear h0 h1 h2 h4
        by_cases ht : ops[m].t.size ≤ 200
        · have ht' : ¬ (200 : Int) < ops[m].t.size := by omega
          have HT := Lib.hid ht
          clear ht
          go_wp2
          go_round
          case rel => exact ⟨m + 1, by omega, by go_num, fun j hj hjm => by
            by_cases e : j = m
            · subst e; exact HT.out
            · exact HJ.out j hj (by omega)⟩
          case measure => simp [intOf]; omega
        · have ht' : (200 : Int) < ops[m].t.size := by omega
          have HF : Hid (fewB ops = false) := by
            cases hf : fewB ops with
            | false => rfl
            | true => exact absurd (fewB_txt hf m hlt) ht
          clear ht
          go_wp2
          go_returns
          exact ⟨congrArg (fun x : Bool => Ending.returned (.bool x)) HF.out.symm, rfl⟩
      · obtain rfl : m = ops.length := by omega
        have HF : Hid (fewB ops = true) := by
          unfold fewB Hid
          rw [Bool.and_eq_true, List.all_eq_true]
          refine ⟨by simpa using hl, fun o ho => ?_⟩
          obtain ⟨j, hj, rfl⟩ := List.getElem_of_mem ho
          simpa using HJ.out j hj hj
        go_wp2
        go_returns
        exact ⟨congrArg (fun x : Bool => Ending.returned (.bool x)) HF.out.symm, rfl⟩
  · have hl' : (60 : Int) < ops.length := by omega
    have HF : Hid (fewB ops = false) := by
      cases hf : fewB ops with
      | false => rfl
      | true => exact absurd (fewB_len hf) hl
    clear hl
    go_enter Try.func8, Try.ntmps8
    go_wp2
    go_returns
    exact ⟨congrArg (fun x : Bool => Ending.returned (.bool x)) HF.out.symm, rfl⟩
end Go.Proofs.Ytekdfcbkpljllaa
