/-
  WALKS of the reference of layer 20: Flush.
-/
import Derived.Test.YteffmfloopkmoaaRoRefE
namespace Go.Proofs.Yteffmfloopkmoaa
open Go.RowKit Go.Ro Go.Sq Go.Wr
attribute [local go_sem ↓ high] Rw_.loadF Rw_.storeF Rw_.v_cells Rw_.v_match
attribute [local go_sem] Rw_.C0 Rw_.C1 Rw_.C2 Rw_.loadF_new Rw_.storeF_zero Oper.semAt_some

/-- The start behind i packets. -/
def fstk (b : Bf) (i : Nat) : Int := fst ⟨b.st, b.sz, b.hs.take i⟩
theorem fstk_zero (b : Bf) : fstk b 0 = b.st := rfl
theorem fstk_succ (b : Bf) {i : Nat} (h : i < b.hs.length) : fstk b (i + 1) = add b.hs[i].q 1 := by
  unfold fstk fst
  rw [List.take_succ_eq_append_getElem h, List.getLast?_append]
  rfl
theorem fstk_all (b : Bf) : fstk b b.hs.length = fst b := by
  unfold fstk
  rw [List.take_length]

set_option maxRecDepth 100000 in
set_option maxHeartbeats 4000000 in
theorem r_flush_any (x : Rw) (b : Bf) (w : World) (hL : Lies w x b) (hb : Ok b) :
    Calls Try.prog 22 #[Rw_.v x] w fun e w' => RPost (flush b) w e w' := by
  have hl : b.hs.length ≤ 1000 := by have := hb.len; omega
  obtain ⟨w1, hw1⟩ : ∃ w1, w.alloc (.cells (Rw_.C x) 25) = w1 := ⟨_, rfl⟩
  obtain ⟨w2, hw2⟩ : ∃ w2, w1.alloc (.cells (Rw_.C zr) 25) = w2 := ⟨_, rfl⟩
  have hw2' : w1.alloc (.cells #[.int .i64 0, .int .i64 0, .slice none 0 0] 25) = w2 := hw2
  have z1 : w1.heap.size = w.heap.size + 1 := by rw [← hw1]; simp
  have T2 := Lib.hid (Two.new hw1 hw2)
  have e2 := T2.out.bx.all
  rw [flush_eq b hb]
  obtain ⟨n, hn⟩ : ∃ n, b.hs.length = n := ⟨_, rfl⟩
  have hxn : x.n = n := hL.n.trans hn
  have hst := hL.st
  have hsz := hL.sz
  have hn1 : n ≤ 1000 := by omega
  have HN := Lib.hid hn
  have HL := Lib.hid hL
  have HFZ := Lib.hid (fstk_zero b)
  have HFA := Lib.hid (show fstk b n = fst b from hn ▸ fstk_all b)
  have HFS := Lib.hid (fun i (h : i < b.hs.length) => fstk_succ b h)
  clear hL hb hl hn
  go_enter Try.func22, Try.ntmps22
  go_wp2
  go_loopw [4, 5, 6] (fun v s5 s6 wr => ∃ (i : Nat) (v0 : Option Addr) (c : Nat) (S : Int), v = .slice v0 i c ∧ s5 = .int .i64 S ∧ s6 = .int .i64 i ∧ i ≤ n ∧ Hid (S = fstk b i) ∧ Hid (Two w x zr wr ∧ wr.ownsRow (w.heap.size + 2) 9 1 v i (Ss_.vs ((b.hs.take i).map (·.d))))) (fun _ _ s6 _ => n - (intOf s6).toNat)
  case atStart => exact ⟨0, none, 0, b.st, rfl, rfl, rfl, Nat.zero_le _, HFZ.out.symm, ⟨T2.out, World.ownsRow_nil _ _ _ _⟩⟩
  case round =>
    rename World => wr
    obtain ⟨i, v0, c0, S, rfl, rfl, rfl, hi, HS, HW⟩ := hrel
    have e1 := HW.out.1.bx.all
    by_cases hlt : i < n
    · have hil : i < b.hs.length := by have := HN.out; omega
      obtain ⟨bb, off, hsa, hbl, k0, k1⟩ := (HL.out.sl.below HW.out.1.bel).lies i hil
      have HTK : Hid ((b.hs.take (i + 1)).map (·.d) = (b.hs.take i).map (·.d) ++ [b.hs[i].d]) := by
        show (b.hs.take (i + 1)).map (·.d) = _
        rw [List.take_succ_eq_append_getElem hil, List.map_append]; rfl
      have HSN := Lib.hid (HFS.out i hil)
      have hbb : bb < w.heap.size := by
        obtain ⟨b2, o2, e2, h2, -⟩ := HL.out.sl.lies i hil
        rw [hsa] at e2; cases e2; exact h2
      generalize b.hs[i] = z at *
      have CA := Lib.hid (fun w => refAdd_any z.q 1 w)
      rw [← HSN.out] at CA
      have HSI := Lib.hid (fun (W : World) => Ss_.sl_lit W [z.d] (show 1 ≤ maxLen by unfold maxLen; decide))
      have HLE : Hid (i + 1 ≤ 3000) := by show i + 1 ≤ 3000; omega
      have HK0 : Hid (∀ W, Below w.heap.size wr W → W.cell? ⟨bb, off + i * 2, none⟩ = some (.int .i64 z.q)) := fun W h => (h.cell hbb).trans k0
      have HLT := Lib.hid hlt
      clear hil hbl hbb
      go_wp2_with (first
        | (at_builtin; refine wpList_appSs _ rfl _ _ rfl (w.heap.size + 2) _ i ((b.hs.take i).map (·.d)) rfl (HW.out.2.alloc _) _ 1 _ [z.d] rfl rfl (HSI.out _) HLE.out (by have := HW.out.1.size; simp at this ⊢; omega) ?_; intro v4 c4 w4 h1 h2 _; have b4 := ((Below.refl _ _).alloc HW.out.1.size _).trans h2; have T4 := Lib.hid (And.intro (HW.out.1.keep b4 (Nat.le_refl _)) h1); have e4 := T4.out.1.bx.all; have c4' := HK0.out w4 (b4.mono (by omega)); clear h1 h2 b4)
        | (go_at_call 40; refine (CA.out _).mono ?_; rintro e w' ⟨rfl, rfl⟩))
      go_roundw
      case rel => exact ⟨i + 1, v4, c4, _, rfl, rfl, by go_num, HLT.out, rfl, ⟨T4.out.1, by rw [HTK.out]; exact T4.out.2⟩⟩
      case measure => simp [intOf]; omega
    · obtain rfl : i = n := by omega
      have HFIN : Hid (RPost (⟨fst b, b.sz, []⟩, b.hs.map (·.d)) w (.returned (.tuple #[Rw_.v ⟨S, b.sz, none, 0, 0⟩, .slice v0 i c0])) (wr.setRow (w.heap.size + 1) (Rw_.C ⟨S, b.sz, none, 0, 0⟩))) := by
        have hO := HW.out.2
        rw [show b.hs.take i = b.hs by rw [← HN.out, List.take_length]] at hO
        have hlen := vs_owns_len hO
        have hO2 : wr.ownsRow (w.heap.size + 2) 9 1 (.slice v0 (b.hs.map (·.d)).length c0) (b.hs.map (·.d)).length (Ss_.vs (b.hs.map (·.d))) := by rw [hlen]; exact hO
        refine ⟨_, v0, c0, by rw [hlen], ⟨HS.out.trans HFA.out, rfl, rfl, Hd_.Sl.none _⟩, ss_row (Ss_.sl_owns hO2) (fun bb off e => ?_), (HW.out.1.setY _).bel⟩
        subst e
        have := (hO2.lt bb rfl).1
        omega
      have s9 : (Rw_.StoreF ⟨w.heap.size + 1, 0, none⟩ (.agg #[.int .i64 S, .int .i64 b.sz, .slice none 0 0])).run Try.prog wr = .ok () (wr.setRow (w.heap.size + 1) (Rw_.C ⟨S, b.sz, none, 0, 0⟩)) := HW.out.1.rs.storeF ⟨S, b.sz, none, 0, 0⟩
      have X9 := Lib.hid (HW.out.1.setY ⟨S, b.sz, none, 0, 0⟩).rs
      go_wp2
      exact ret_rw2 Try.results22 rfl rfl X9.out rfl HFIN.out
end Go.Proofs.Yteffmfloopkmoaa
