/-
  Appending to a row of packets, of strings.
-/
import Derived.Test.YteffmfloopkmoaaRoCmp
import Derived.Test.YteffmfloopkmoaaAppStep
namespace Go.Proofs.Yteffmfloopkmoaa
open Go.RowKit Go.Ro Go.Wr

theorem wpList_appHd (w : World) {ops : Array Oper} {rest : List Oper} {o : Oper} {a : Act} {Q : Exit → Act → World → Prop} (hgd : o.guard = none) (s x : Operand)
    (ho : o.op = .call { callee := .builtin .append, args := #[s, x], argTypes := #[23, 23] })
    (base : Nat) (v : Value) (n : Nat) (l : List Hd) (hs : a.eval s = v) (hown : w.ownsRow base 51 2 v n (Hd_.flat l))
    (sa : Option Addr) (m c : Nat) (l2 : List Hd) (hx : a.eval x = .slice sa m c) (hm : l2.length = m) (hsl : Hd_.Sl w sa l2 c) (hlen : n + m ≤ 3000) (hbase : base ≤ w.heap.size)
    (h : ∀ v0 c' w', w'.ownsRow base 51 2 (.slice v0 (n + m) c') (n + m) (Hd_.flat (l ++ l2)) → Below base w w' → wpList Try.prog ops Q rest (a.put o.dst (.slice v0 (n + m) c')) w') : wpList Try.prog ops Q (o :: rest) a w := by
  obtain ⟨i0, hi, hz0, hz1, hz2⟩ := info_parts Hd_.info
  refine wpList_append_any w hgd s x 23 ho base 51 i0 (.agg #[.int .i64 0, .string ⟨#[]⟩]) 2 24 Try.underlying23 hi hz0 hz1 hz2 rfl (by decide) v n (Hd_.flat l) hs hown sa m c (Hd_.flat l2) hx (by rw [Hd_.flat_len, hm]) (fun e => ?_) hsl.news (Hd_.flat_ones l2) (by unfold maxLen; omega) (by omega) hbase ?_
  · have h1 := hsl.nil e
    have h2 := hsl.le
    exact ⟨by omega, h1⟩
  · intro v' w' h1 h2
    obtain ⟨v0, c', rfl⟩ := Hd_.slice_form h1
    rw [← Hd_.flat_append] at h1
    exact h v0 c' w' h1 ((Below.refl _ _).grown h2 hbase (fun k hk => (hown.lt k hk).1))

theorem step_appHd (w : World) {ops : Array Oper} {o : Oper} {a : Act} {K : Act → World → Prop} {Q : Exit → Act → World → Prop} {E : Prop} (hgd : o.guard = none) (s x : Operand)
    (ho : o.op = .call { callee := .builtin .append, args := #[s, x], argTypes := #[23, 23] })
    (base : Nat) (v : Value) (n : Nat) (l : List Hd) (hs : a.eval s = v) (hown : w.ownsRow base 51 2 v n (Hd_.flat l))
    (sa : Option Addr) (m c : Nat) (l2 : List Hd) (hx : a.eval x = .slice sa m c) (hm : l2.length = m) (hsl : Hd_.Sl w sa l2 c) (hlen : n + m ≤ 3000) (hbase : base ≤ w.heap.size)
    (h : ∀ v0 c' w', w'.ownsRow base 51 2 (.slice v0 (n + m) c') (n + m) (Hd_.flat (l ++ l2)) → Below base w w' → K (a.put o.dst (.slice v0 (n + m) c')) w') : if Region.wanted o (yielded ops a.tmps) = true then Oper.wp Try.prog o a w K Q else E := by
  obtain ⟨i0, hi, hz0, hz1, hz2⟩ := info_parts Hd_.info
  refine step_append_any16 w hgd s x 23 ho base 51 i0 (.agg #[.int .i64 0, .string ⟨#[]⟩]) 2 24 Try.underlying23 hi hz0 hz1 hz2 rfl (by decide) v n (Hd_.flat l) hs hown sa m c (Hd_.flat l2) hx (by rw [Hd_.flat_len, hm]) (fun e => ?_) hsl.news (Hd_.flat_ones l2) (by unfold maxLen; omega) (by omega) hbase ?_
  · have h1 := hsl.nil e
    have h2 := hsl.le
    exact ⟨by omega, h1⟩
  · intro v' w' h1 h2
    obtain ⟨v0, c', rfl⟩ := Hd_.slice_form h1
    rw [← Hd_.flat_append] at h1
    exact h v0 c' w' h1 ((Below.refl _ _).grown h2 hbase (fun k hk => (hown.lt k hk).1))

theorem step_appSs (w : World) {ops : Array Oper} {o : Oper} {a : Act} {K : Act → World → Prop} {Q : Exit → Act → World → Prop} {E : Prop} (hgd : o.guard = none) (s x : Operand)
    (ho : o.op = .call { callee := .builtin .append, args := #[s, x], argTypes := #[35, 35] })
    (base : Nat) (v : Value) (n : Nat) (l : List ByteArray) (hs : a.eval s = v) (hown : w.ownsRow base 9 1 v n (Ss_.vs l))
    (sa : Option Addr) (m c : Nat) (l2 : List ByteArray) (hx : a.eval x = .slice sa m c) (hm : l2.length = m) (hsl : Ss_.Sl w sa l2 c) (hlen : n + m ≤ 3000) (hbase : base ≤ w.heap.size)
    (h : ∀ v0 c' w', w'.ownsRow base 9 1 (.slice v0 (n + m) c') (n + m) (Ss_.vs (l ++ l2)) → Below base w w' → (∀ k, v.ownBlock ≠ some k → k < w.heap.size → w'.heap[k]? = w.heap[k]?) → K (a.put o.dst (.slice v0 (n + m) c')) w') : if Region.wanted o (yielded ops a.tmps) = true then Oper.wp Try.prog o a w K Q else E := by
  obtain ⟨i0, hi, hz0, hz1, hz2⟩ := info_parts Ss_.info
  refine step_append_any16 w hgd s x 35 ho base 9 i0 (.string ⟨#[]⟩) 1 16 Try.underlying35 hi hz0 hz1 hz2 rfl (by decide) v n (Ss_.vs l) hs hown sa m c (Ss_.vs l2) hx (by rw [Ss_.vs_len, hm, Nat.mul_one]) (fun e => ?_) (fun ad e j u hu => ?_) (fun u hu => ?_) (by unfold maxLen; omega) (by omega) hbase ?_
  · have h1 := hsl.nil e
    have h2 := hsl.le
    exact ⟨by omega, h1⟩
  · have hj : j < l2.length := by have := (List.getElem?_eq_some_iff.1 hu).1; rwa [Ss_.vs_len] at this
    obtain ⟨b, off, e1, -, e2⟩ := hsl.lies j hj
    rw [e1] at e
    cases e
    rw [Ss_.vs_get l2 j hj] at hu
    cases hu
    rw [Addr.add_lit]; exact e2
  · unfold Ss_.vs at hu
    obtain ⟨y, -, rfl⟩ := List.mem_map.1 hu
    rfl
  · intro v' w' h1 h2
    obtain ⟨v0, c', rfl⟩ := Ss_.slice_form h1
    have h3 : w'.ownsRow base 9 1 (.slice v0 (n + m) c') (n + m) (Ss_.vs (l ++ l2)) := by
      unfold Ss_.vs at *
      rw [List.map_append]; exact h1
    exact h v0 c' w' h3 ((Below.refl _ _).grown h2 hbase (fun k hk => (hown.lt k hk).1)) (fun k hk hlt => h2.block k hlt (fun e => hk e.symm))

theorem wpList_appSs (w : World) {ops : Array Oper} {rest : List Oper} {o : Oper} {a : Act} {Q : Exit → Act → World → Prop} (hgd : o.guard = none) (s x : Operand)
    (ho : o.op = .call { callee := .builtin .append, args := #[s, x], argTypes := #[35, 35] })
    (base : Nat) (v : Value) (n : Nat) (l : List ByteArray) (hs : a.eval s = v) (hown : w.ownsRow base 9 1 v n (Ss_.vs l))
    (sa : Option Addr) (m c : Nat) (l2 : List ByteArray) (hx : a.eval x = .slice sa m c) (hm : l2.length = m) (hsl : Ss_.Sl w sa l2 c) (hlen : n + m ≤ 3000) (hbase : base ≤ w.heap.size)
    (h : ∀ v0 c' w', w'.ownsRow base 9 1 (.slice v0 (n + m) c') (n + m) (Ss_.vs (l ++ l2)) → Below base w w' → (∀ k, v.ownBlock ≠ some k → k < w.heap.size → w'.heap[k]? = w.heap[k]?) → wpList Try.prog ops Q rest (a.put o.dst (.slice v0 (n + m) c')) w') : wpList Try.prog ops Q (o :: rest) a w := by
  obtain ⟨i0, hi, hz0, hz1, hz2⟩ := info_parts Ss_.info
  refine wpList_append_any w hgd s x 35 ho base 9 i0 (.string ⟨#[]⟩) 1 16 Try.underlying35 hi hz0 hz1 hz2 rfl (by decide) v n (Ss_.vs l) hs hown sa m c (Ss_.vs l2) hx (by rw [Ss_.vs_len, hm, Nat.mul_one]) (fun e => ?_) (fun ad e j u hu => ?_) (fun u hu => ?_) (by unfold maxLen; omega) (by omega) hbase ?_
  · have h1 := hsl.nil e
    have h2 := hsl.le
    exact ⟨by omega, h1⟩
  · have hj : j < l2.length := by have := (List.getElem?_eq_some_iff.1 hu).1; rwa [Ss_.vs_len] at this
    obtain ⟨b, off, e1, -, e2⟩ := hsl.lies j hj
    rw [e1] at e
    cases e
    rw [Ss_.vs_get l2 j hj] at hu
    cases hu
    rw [Addr.add_lit]; exact e2
  · unfold Ss_.vs at hu
    obtain ⟨y, -, rfl⟩ := List.mem_map.1 hu
    rfl
  · intro v' w' h1 h2
    obtain ⟨v0, c', rfl⟩ := Ss_.slice_form h1
    have h3 : w'.ownsRow base 9 1 (.slice v0 (n + m) c') (n + m) (Ss_.vs (l ++ l2)) := by
      unfold Ss_.vs at *
      rw [List.map_append]; exact h1
    exact h v0 c' w' h3 ((Below.refl _ _).grown h2 hbase (fun k hk => (hown.lt k hk).1)) (fun k hk hlt => h2.block k hlt (fun e => hk e.symm))
end Go.Proofs.Yteffmfloopkmoaa
