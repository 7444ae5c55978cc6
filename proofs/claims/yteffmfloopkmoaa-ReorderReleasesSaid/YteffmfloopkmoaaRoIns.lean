/-
  slices.Insert over slices of packets.
-/
import Derived.Test.YteffmfloopkmoaaRoLib
namespace Go.Proofs.Yteffmfloopkmoaa
open Go.RowKit Go.Ro Go.Wr
attribute [local go_sem] Oper.semAt_some

theorem sz20 : (Try.prog.info? 51).map (·.size) = some 2 := by kernel_rfl
theorem sizeOf20 (w : World) : (Go.sizeOf 51).run Try.prog w = .ok 2 w := by kernel_rfl

theorem shape20 {w : World} {g : Nat} {cur : Array Value} {t : TypeId} (h : w.heap[g]? = some (.cells cur t (0, 0))) : w.shape? g = some (t, cur.size) := by simp [World.shape?, h]
/-- Packets put into a row at a place. -/
def put20 (cur : Array Value) (o : Nat) (m : List Hd) : Array Value := (cur.toList.take o ++ Hd_.flat m ++ cur.toList.drop (o + (Hd_.flat m).length)).toArray
theorem put20_size {cur : Array Value} {o : Nat} {m : List Hd} (h : o + m.length * 2 ≤ cur.size) : (put20 cur o m).size = cur.size := by
  unfold put20
  rw [List.size_toArray, List.length_append, List.length_append, List.length_take, List.length_drop, Hd_.flat_len, Array.length_toList]; omega
theorem take_three (A B C : List Value) (k : Nat) (h : A.length + B.length = k) : (A ++ B ++ C).take k = A ++ B := by
  rw [List.take_append_of_le_length (by rw [List.length_append]; omega), List.take_of_length_le (by rw [List.length_append]; omega)]
theorem drop_three (A B C : List Value) (k : Nat) (h : A.length + B.length = k) : (A ++ B ++ C).drop k = C := by
  rw [List.drop_append_of_le_length (by rw [List.length_append]; omega), List.drop_of_length_le (by rw [List.length_append]; omega)]; rfl
theorem ins_flat (l : List Hd) (i : Nat) (x : Hd) : Hd_.flat (l.take i ++ x :: l.drop i) = Hd_.flat (l.take i) ++ Hd_.flat [x] ++ Hd_.flat (l.drop i) := by
  rw [show x :: l.drop i = [x] ++ l.drop i from rfl, Hd_.flat_append, Hd_.flat_append, List.append_assoc]
theorem shift_done {cur : Array Value} {l : List Hd} {i n c : Nat} {x : Hd} (hi : i ≤ n) (hroom : n + 1 ≤ c) (hln : l.length = n) (hcs : cur.size = c * 2) (hcl : cur.toList.take (i * 2) = Hd_.flat (l.take i)) :
    (put20 (put20 cur ((i + 1) * 2) (l.drop i)) (i * 2) [x]).size = c * 2 ∧ (put20 (put20 cur ((i + 1) * 2) (l.drop i)) (i * 2) [x]).toList.take ((n + 1) * 2) = Hd_.flat (l.take i ++ x :: l.drop i) := by
  have hd : (l.drop i).length = n - i := by rw [List.length_drop, hln]
  have htl : (Hd_.flat (l.take i)).length = i * 2 := by rw [Hd_.flat_len, List.length_take, hln]; omega
  have h1 : (put20 cur ((i + 1) * 2) (l.drop i)).size = cur.size := put20_size (by rw [hd]; omega)
  refine ⟨by rw [put20_size (by rw [h1, hcs]; show i * 2 + 1 * 2 ≤ _; omega), h1, hcs], ?_⟩
  have e1 : (put20 cur ((i + 1) * 2) (l.drop i)).toList.take (i * 2) = Hd_.flat (l.take i) := by
    unfold put20
    rw [List.append_assoc, List.take_append_of_le_length (by rw [List.length_take, Array.length_toList]; omega), List.take_take, Nat.min_eq_left (by omega), hcl]
  have hl2 : (cur.toList.take ((i + 1) * 2)).length = i * 2 + 2 := by rw [List.length_take, Array.length_toList]; omega
  have e2 : (put20 cur ((i + 1) * 2) (l.drop i)).toList.drop (i * 2 + 2) = Hd_.flat (l.drop i) ++ cur.toList.drop ((i + 1) * 2 + (Hd_.flat (l.drop i)).length) := by
    unfold put20
    rw [List.append_assoc, List.drop_append_of_le_length (by omega), List.drop_of_length_le (by omega)]; rfl
  have e3 : (put20 (put20 cur ((i + 1) * 2) (l.drop i)) (i * 2) [x]).toList = Hd_.flat (l.take i) ++ Hd_.flat [x] ++ (Hd_.flat (l.drop i) ++ cur.toList.drop ((i + 1) * 2 + (Hd_.flat (l.drop i)).length)) := by
    rw [← e1, ← e2]; rfl
  rw [e3, ← List.append_assoc, ins_flat, take_three _ _ _ _ ?_]
  rw [List.length_append, htl, Hd_.flat_len, Hd_.flat_len, hd]
  show i * 2 + 1 * 2 + (n - i) * 2 = _
  omega
theorem grow_done {cur : Array Value} {l : List Hd} {i n c : Nat} {x : Hd} (hi : i ≤ n) (hroom : n + 1 ≤ c) (hln : l.length = n) (hcs : cur.size = c * 2) (hcl : cur.toList.take (i * 2) = Hd_.flat (l.take i)) :
    (put20 (put20 cur (i * 2) [x]) ((i + 1) * 2) (l.drop i)).size = c * 2 ∧ (put20 (put20 cur (i * 2) [x]) ((i + 1) * 2) (l.drop i)).toList.take ((n + 1) * 2) = Hd_.flat (l.take i ++ x :: l.drop i) := by
  have hd : (l.drop i).length = n - i := by rw [List.length_drop, hln]
  have htl : (Hd_.flat (l.take i)).length = i * 2 := by rw [Hd_.flat_len, List.length_take, hln]; omega
  have h1 : (put20 cur (i * 2) [x]).size = cur.size := put20_size (by show i * 2 + 1 * 2 ≤ _; omega)
  refine ⟨by rw [put20_size (by rw [h1, hcs, hd]; omega), h1, hcs], ?_⟩
  have e1 : (put20 cur (i * 2) [x]).toList.take ((i + 1) * 2) = Hd_.flat (l.take i) ++ Hd_.flat [x] := by
    unfold put20
    rw [hcl]
    exact take_three _ _ _ _ (by rw [htl]; show i * 2 + 2 = _; omega)
  have e3 : (put20 (put20 cur (i * 2) [x]) ((i + 1) * 2) (l.drop i)).toList = Hd_.flat (l.take i) ++ Hd_.flat [x] ++ Hd_.flat (l.drop i) ++ (put20 cur (i * 2) [x]).toList.drop ((i + 1) * 2 + (Hd_.flat (l.drop i)).length) := by
    rw [← e1]; rfl
  rw [e3, ins_flat, take_three _ _ _ _ ?_]
  rw [List.length_append, htl, Hd_.flat_len, Hd_.flat_len, hd]
  show i * 2 + 1 * 2 + (n - i) * 2 = _
  omega
theorem flat_take (l : List Hd) (i : Nat) : (Hd_.flat l).take (i * 2) = Hd_.flat (l.take i) := by
  by_cases h : i ≤ l.length
  · have e := List.take_append_drop i l
    have h2 : Hd_.flat l = Hd_.flat (l.take i) ++ Hd_.flat (l.drop i) := by rw [← Hd_.flat_append, e]
    have hl : (Hd_.flat (l.take i)).length = i * 2 := by rw [Hd_.flat_len, List.length_take]; omega
    rw [h2, List.take_append_of_le_length (by omega), List.take_of_length_le (by omega)]
  · rw [List.take_of_length_le (by rw [Hd_.flat_len]; omega), List.take_of_length_le (by omega)]
theorem flat_drop (l : List Hd) (i : Nat) : (Hd_.flat l).drop (i * 2) = Hd_.flat (l.drop i) := by
  by_cases h : i ≤ l.length
  · have e := List.take_append_drop i l
    have h2 : Hd_.flat l = Hd_.flat (l.take i) ++ Hd_.flat (l.drop i) := by rw [← Hd_.flat_append, e]
    have hl : (Hd_.flat (l.take i)).length = i * 2 := by rw [Hd_.flat_len, List.length_take]; omega
    rw [h2, List.drop_append_of_le_length (by omega), List.drop_of_length_le (by omega)]; rfl
  · rw [List.drop_of_length_le (by rw [Hd_.flat_len]; omega), List.drop_of_length_le (by omega)]; rfl
theorem ov20 (vb g : Nat) (x : Hd) (w : World) (cur : Array Value) (c : Nat) (hc : 0 < c) (hcs : cur.size = c) (hg : w.heap[g]? = some (.cells cur 51 (0, 0))) (hx : Hd_.Box w vb x) (hvb : vb ≠ g) (la ca lb cb o : Nat) :
    (callFunc 45 #[.slice (some ⟨vb, 0, none⟩) la ca, .slice (some ⟨g, o, none⟩) lb cb]).run Try.prog w = .ok (.value (.bool false)) w := by
  have h1 : w.shape? vb = some (51, 2) := shape20 hx
  have h2 : w.shape? g = some (51, c) := by rw [← hcs]; exact shape20 hg
  rw [run_callFunc_extern Try.func45 (by kernel_rfl) (by kernel_rfl) (by kernel_rfl) (e := Extern.SlicesOverlaps.overlaps #[23, 23] #[4]) (by kernel_rfl),
    Lib.run_overlaps_apart w 23 4 51 Try.underlying23 2 sizeOf20 ⟨vb, 0, none⟩ ⟨g, o, none⟩ la ca lb cb hvb 51 51 2 c h1 h2 (by omega) (hx.frozen 0) (hx.frozen 2)]
  rfl
theorem cp20_up (g : Nat) (a : Addr) (o n' sL dc sc : Nat) (m : List Hd) (w : World) (cur : Array Value) (ty : TypeId) (hn : m.length = min sL n')
    (hg : w.heap[g]? = some (.cells cur 51 (0, 0))) (hsrc : ∀ j u, (Hd_.flat m)[j]? = some u → w.cell? (a.add j) = some u) (hfit : o + m.length * 2 ≤ cur.size) :
    (Builtin.copy_ #[23, 23] ty #[.slice (some ⟨g, o, none⟩) n' dc, .slice (some a) sL sc]).run Try.prog w = .ok (goInt (m.length : Nat)) (w.setRow g (put20 cur o m)) :=
  Cp.run_copy_rows w _ _ ty 51 2 g o n' dc a sL sc cur 51 (Hd_.flat m) Try.underlying23 sz20 m.length hg hn (Hd_.flat_len m) hsrc (by rw [Hd_.flat_len]; exact hfit) (Hd_.flat_ones _)
theorem src20 {g i n : Nat} {l : List Hd} {w : World} {cur : Array Value} (hg : w.heap[g]? = some (.cells cur 51 (0, 0))) (hcl : cur.toList.take (n * 2) = Hd_.flat l) (j : Nat) (u : Value) (hj : (Hd_.flat (l.drop i))[j]? = some u) : w.cell? ((⟨g, i * 2, none⟩ : Addr).add j) = some u := by
  rw [Addr.add_lit]
  rw [← flat_drop, List.getElem?_drop, ← hcl, List.getElem?_take] at hj
  split at hj
  · have e : w.cell? ⟨g, i * 2 + j, none⟩ = cur[i * 2 + j]? := cell_of_row w g _ cur _ _ hg
    rw [e, ← Array.getElem?_toList]; exact hj
  · cases hj
theorem src20x {w : World} {vb : Nat} {x : Hd} (hx : Hd_.Box w vb x) (j : Nat) (u : Value) (hj : (Hd_.flat [x])[j]? = some u) : w.cell? ((⟨vb, 0, none⟩ : Addr).add j) = some u := by
  rw [Addr.add_lit, Nat.zero_add, hx.cell j]
  simpa [Hd_.flat] using hj

theorem other20 {w : World} {g vb : Nat} {x : Hd} {c : Array Value} (hx : Hd_.Box w vb x) (hvb : vb ≠ g) : Hd_.Box (w.setRow g c) vb x := by
  have e : (w.setRow g c).heap[vb]? = w.heap[vb]? := by
    simp only [World.setRow, Array.getElem?_modify]; rw [if_neg (fun e => hvb e.symm)]
  exact e.trans hx

set_option maxRecDepth 100000 in
set_option maxHeartbeats 4000000 in
/-- There is room, and it isn't the end: in place. -/
theorem ins20_shift (g n c i : Nat) (l : List Hd) (x : Hd) (w : World) (cur : Array Value) (hi : i < n) (hroom : n + 1 ≤ c) (hc63 : c ≤ 9223372036854775807) (hln : l.length = n) (hl : l.length ≤ 1000)
    (hg : w.heap[g]? = some (.cells cur 51 (0, 0))) (hcs : cur.size = c * 2) (hcl : cur.toList.take (n * 2) = Hd_.flat l)
    (vb : Nat) (hx : Hd_.Box w vb x) (hvb : vb ≠ g) :
    Calls Try.prog 33 #[.slice (some ⟨g, 0, none⟩) n c, .int .i64 (i : Int), .slice (some ⟨vb, 0, none⟩) 1 1] w fun e w' =>
      ∃ cur', e = .returned (.slice (some ⟨g, 0, none⟩) (n + 1) c) ∧ w' = w.drew.setRow g cur' ∧ cur'.size = c * 2 ∧ cur'.toList.take ((n + 1) * 2) = Hd_.flat (l.take i ++ x :: l.drop i) := by
  have hov := ov20 vb g x w cur (c * 2) (by omega) hcs hg hx hvb
  have hd : (l.drop i).length = n - i := by rw [List.length_drop, hln]
  have hcp1 := fun ty dc sc => cp20_up g ⟨g, i * 2, none⟩ ((i + 1) * 2) (n - i) (n + 1 - i) dc sc (l.drop i) w.drew cur ty (by rw [hd]; simp only [Nat.min_def]; split <;> omega) hg (src20 (w := w.drew) hg hcl) (by rw [hd]; omega)
  have hcp2 := fun ty dc => cp20_up g ⟨vb, 0, none⟩ (i * 2) (n + 1 - i) 1 dc 1 [x] (w.drew.setRow g (put20 cur ((i + 1) * 2) (l.drop i))) (put20 cur ((i + 1) * 2) (l.drop i)) ty (by show 1 = min 1 _; simp only [Nat.min_def]; split <;> omega) (setRow_heap _ _ _ _ _ _ hg) (src20x (other20 (w := w.drew) hx hvb)) (by rw [put20_size (by rw [hd]; omega)]; show i * 2 + 1 * 2 ≤ _; omega)
  rw [setRow_setRow] at hcp2
  have HD := Lib.hid (shift_done (cur := cur) (x := x) (Nat.le_of_lt hi) hroom hln hcs (by rw [← flat_take, ← hcl, List.take_take, Nat.min_eq_left (by omega)]))
  generalize put20 (put20 cur ((i + 1) * 2) (l.drop i)) (i * 2) [x] = C2 at *
  generalize w.drew.setRow g (put20 cur ((i + 1) * 2) (l.drop i)) = W1 at *
  rw [hd] at hcp1
  rw [show ([x] : List Hd).length = 1 from rfl] at hcp2
  have mixed : Try.prog.follows Departure.mixedOrders = true := by kernel_rfl
  have hz2 : ¬ ((i : Int) = (n : Int)) := by omega
  have hw1 : IntKind.i64.wrap ((i : Int) + 1) = (i : Int) + 1 := by rw [IntKind.wrap_i64]; omega
  have hw1' : wrap64 ((i : Int) + 1) = (i : Int) + 1 := IntWalk.wrap64_in _ (by omega)
  have hw2 : wrap64 ((n : Int) + 1) = (n : Int) + 1 := IntWalk.wrap64_in _ (by omega)
  have hb1 : (0 : Int) ≤ (i : Int) + 1 := by omega
  have hin : i ≤ n := by omega
  have htn : ((i : Int) + 1).toNat = i + 1 := by omega
  have hb3 : (i : Int) ≤ (n : Int) + 1 := by omega
  have hb2 : ¬ (c = i + 1) := by omega
  have hb4 : ¬ (c = i) := by omega
  clear hcl hcs hg hx hl hln hd
  go_enter Try.func33, Try.ntmps33
  go_wp2_with (simp only [hov])
  go_region_law_o (refine step_copy_runI rfl _ _ 23 23 rfl _ _ (by simp [Act.eval, Act.put]) (by simp [Act.eval, Act.put]) (hcp1 _ _ _) ?_)
  go_wp2_with (at_builtin; refine wpList_copy_runI _ rfl _ _ 23 23 rfl _ _ rfl rfl (hcp2 _ _) ?_)
  go_returns
  exact ⟨C2, rfl, rfl, HD.out.1, HD.out.2⟩
end Go.Proofs.Yteffmfloopkmoaa
