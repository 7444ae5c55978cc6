/-
  Appending a slice of packets to a row of one's own.
-/
import Derived.Test.YtaljdjabppiglaaQuLib
import Derived.Test.YtaljdjabppiglaaAppStep
namespace Go.Proofs.Ytaljdjabppiglaa
open Go.RowKit Go.Qu Go.Wr

theorem wpList_appIt (w : World) {ops : Array Oper} {rest : List Oper} {o : Oper} {a : Act} {Q : Exit → Act → World → Prop} (hgd : o.guard = none) (s x : Operand)
    (ho : o.op = .call { callee := .builtin .append, args := #[s, x], argTypes := #[24, 24] })
    (base : Nat) (v : Value) (n : Nat) (l : List It) (hs : a.eval s = v) (hown : w.ownsRow base 28 7 v n (It_.flat l))
    (sa : Option Addr) (m c : Nat) (l2 : List It) (hx : a.eval x = .slice sa m c) (hm : l2.length = m) (hsl : It_.Sl w sa l2 c) (hlen : n + m ≤ 3000) (hbase : base ≤ w.heap.size)
    (h : ∀ v0 c' w', w'.ownsRow base 28 7 (.slice v0 (n + m) c') (n + m) (It_.flat (l ++ l2)) → Below base w w' → wpList Try.prog ops Q rest (a.put o.dst (.slice v0 (n + m) c')) w') : wpList Try.prog ops Q (o :: rest) a w := by
  obtain ⟨i0, hi, hz0, hz1, hz2⟩ := info_parts It_.info
  refine wpList_append_any w hgd s x 24 ho base 28 i0 (.agg #[.int .i64 0, .int .i64 0, .int .u64 0, .int .u64 0, .string ⟨#[]⟩, .int .i64 0, .int .i64 0]) 7 64 Try.underlying24 hi hz0 hz1 hz2 rfl (by decide) v n (It_.flat l) hs hown sa m c (It_.flat l2) hx (by rw [It_.flat_len, hm]) (fun e => ?_) hsl.news (It_.flat_ones l2) (by unfold maxLen; omega) (by omega) hbase ?_
  · have h1 := hsl.nil e
    have h2 := hsl.le
    exact ⟨by omega, h1⟩
  · intro v' w' h1 h2
    obtain ⟨v0, c', rfl⟩ := It_.slice_form h1
    rw [← It_.flat_append] at h1
    exact h v0 c' w' h1 ((Below.refl _ _).grown h2 hbase (fun k hk => (hown.lt k hk).1))

end Go.Proofs.Ytaljdjabppiglaa
