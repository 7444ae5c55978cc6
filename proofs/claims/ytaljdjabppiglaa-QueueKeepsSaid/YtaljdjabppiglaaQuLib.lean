/-
  slices.Clone over slices of packets in progress.
-/
import Derived.Test.YtaljdjabppiglaaQuIt
import Derived.Test.YtaljdjabppiglaaAppStep
import Derived.Lib.SliceRun
import Derived.Lib.Hide
import Derived.BigQuiet
import Derived.BigRegion
import Derived.Handy
import Derived.WalkSpells
import Derived.WalkLawsBesides
namespace Go.Proofs.Ytaljdjabppiglaa
open Go.RowKit Go.Qu Go.Wr
attribute [local go_sem] Oper.semAt_some

/-- What Clone hands back: the packets in a row of its own. -/
def OwnIt (w w' : World) (v : Value) (l : List It) : Prop := w'.ownsRow w.heap.size 28 7 v l.length (It_.flat l) ∧ Below w.heap.size w w'

set_option maxRecDepth 100000 in
set_option maxHeartbeats 2000000 in
theorem clone23_any (sa : Option Addr) (l : List It) (c : Nat) (w : World) (hs : It_.Sl w sa l c) (hl : l.length ≤ 1000) :
    Calls Try.prog 31 #[.slice sa l.length c] w fun e w' => ∃ v', e = .returned v' ∧ OwnIt w w' v' l := by
  have HI := Lib.hid (info_parts It_.info)
  have q : ∀ (w : World) (a : Option Addr) (n c n' c' : Nat), (binOp .eql 24 (.slice a n c) (.slice none n' c')).run Try.prog w = .ok (.bool a.isNone) w := fun w a n c n' c' => Lib.run_eql_slice_nil w _ _ a n c n' c' Try.underlying24
  have HS := Lib.hid hs
  have HL := Lib.hid hl
  clear hs hl
  cases sa with
  | none =>
    have hc := HS.out.nil rfl
    have hle := HS.out.le
    obtain rfl : l = [] := List.eq_nil_of_length_eq_zero (by omega)
    go_enter Try.func31, Try.ntmps31
    go_wp2
    go_returns
    exact ⟨_, rfl, World.ownsRow_nil _ _ _ _, Below.refl _ _⟩
  | some a =>
    have B0 : Hid (Below w.heap.size w (w.alloc (.cells #[] 28))) := (Below.refl _ _).alloc (Nat.le_refl _) _
    go_enter Try.func31, Try.ntmps31
    go_wp2_with (at_builtin; obtain ⟨i0, hi, hz0, hz1, hz2⟩ := HI.out; refine wpList_append_any _ rfl _ _ 24 rfl w.heap.size 28 i0 (.agg #[.int .i64 0, .int .i64 0, .int .u64 0, .int .u64 0, .string ⟨#[]⟩, .int .i64 0, .int .i64 0]) 7 64 Try.underlying24 hi hz0 hz1 hz2 rfl (by decide) _ _ _ rfl (World.ownsRow_made w #[] 0 (Nat.le_refl _) (Nat.zero_le _) (by simp)) (some a) l.length c (It_.flat l) rfl (It_.flat_len l) ?c0 ?c1 (It_.flat_ones l) ?c2 ?c3 ?c4 ?_)
    case c0 => intro h; cases h
    case c1 => exact (HS.out.below B0.out).news
    case c2 => have := HL.out; unfold maxLen; omega
    case c3 => have := HL.out; omega
    case c4 => simp
    intro v' w1 hown hgrow
    have hown' : w1.ownsRow w.heap.size 28 7 v' l.length (It_.flat l) := by simpa using hown
    have hb : Below w.heap.size w w1 := B0.out.grown hgrow (by simp) (by intro k hk; simp [Value.ownBlock] at hk; omega)
    clear hown hgrow hi hz0 hz1 hz2
    go_wp2
    go_returns
    exact ⟨_, rfl, hown', hb⟩
end Go.Proofs.Ytaljdjabppiglaa
