/-
  THE LAW of layer 14: BeaconReads.
-/
import Derived.Test.YtojiffpmmgjpjaaDoorBnLives
import Derived.Test.YtojiffpmmgjpjaaDoorBnUnk
import Derived.Test.YtojiffpmmgjpjaaDoorBnRefE2
import Derived.Test.YtojiffpmmgjpjaaDoorAppAny
namespace Go.Bn
open Go.Em (El)
/-- Elements among which unknown ones were put. -/
def mix (b : Bn) (M : List El) (k : Nat) : List El := (els b).take k ++ M ++ (els b).drop k
theorem knl_mix {b : Bn} {M : List El} {k : Nat} (hM : unk M = true) : knl (mix b M k) = els b := by
  have hu := (unk_iff.1 hM).2
  unfold knl mix
  rw [List.filter_append, List.filter_append]
  rw [List.filter_eq_self.2 (fun e he => els_kn b e (List.mem_of_mem_take he)), List.filter_eq_self.2 (fun e he => els_kn b e (List.mem_of_mem_drop he))]
  rw [List.filter_eq_nil_iff.2 (fun e he => by simp [(unkE_iff.1 (hu e he)).2.2.2]), List.append_nil, List.take_append_drop]
theorem chk_mix {b : Bn} {M : List El} {k : Nat} (hb : Ok b) (hw : TmW b.tm) (hM : unk M = true) : Go.Em.chk (mix b M k) = 0 := by
  have hu := unk_iff.1 hM
  have hl := els_len b
  have hc := els_chk hb hw
  have h0 : Go.Em.chkL (els b) = 0 := by
    unfold Go.Em.chk at hc
    rw [if_neg (by omega)] at hc
    exact hc
  have h1 := Go.Em.chkL_ok.1 h0
  unfold Go.Em.chk mix
  rw [if_neg (by simp only [List.length_append, List.length_take, List.length_drop]; omega)]
  refine Go.Em.chkL_ok.2 fun e he => ?_
  rcases List.mem_append.1 he with he | he
  · rcases List.mem_append.1 he with he | he
    · exact h1 e (List.mem_of_mem_take he)
    · have := unkE_iff.1 (hu.2 e he)
      exact Go.Em.chkE_ok.2 ⟨⟨this.1, this.2.1⟩, by omega⟩
  · exact h1 e (List.mem_of_mem_drop he)
theorem octs_le (b : Bn) (l : List El) : (octs b l).size ≤ 10006 := by
  have := octs_size b l
  have := Go.Em.enc_size l
  omega
end Go.Bn

namespace Go.Proofs.YtojiffpmmgjpjaaDoor
open Go.RowKit Go.Bn Go.Wr
attribute [local go_sem ↓ high] Bn_.loadF Bn_.storeF Bn_.v_cells Bn_.v_match
attribute [local go_sem] Bn_.loadF_new Bn_.storeF_zero Bn_.C2

theorem el_take {W : World} {sa : Option Addr} {l : List Go.Em.El} (h : El_.At W sa l) (k : Nat) : El_.At W sa (l.take k) := fun i hi => by
  have hi' : i < l.length := by rw [List.length_take] at hi; omega
  rw [List.getElem_take]
  exact h i hi'
theorem el_drop {W : World} {b off : Nat} {l : List Go.Em.El} (h : El_.At W (some ⟨b, off, none⟩) l) (k : Nat) : El_.At W (some ⟨b, off + k * 2, none⟩) (l.drop k) := fun i hi => by
  have hi' : k + i < l.length := by rw [List.length_drop] at hi; omega
  obtain ⟨b', off', e, hl, h0, h1⟩ := h (k + i) hi'
  cases e
  rw [List.getElem_drop]
  exact ⟨b, off + k * 2, rfl, hl, by rw [show off + k * 2 + i * 2 = off + (k + i) * 2 by omega]; exact h0, by rw [show off + k * 2 + i * 2 + 1 = off + (k + i) * 2 + 1 by omega]; exact h1⟩

/-- Where a slice of elements begins that is cut at k. -/
def cutE (b off k c : Nat) : Addr := if c = k then ⟨b, off, none⟩ else ⟨b, off + k * 2, none⟩
set_option maxRecDepth 100000 in
theorem el_head (b off n c k : Nat) (hk : k ≤ n) (hn : n ≤ c) (W : World) :
    (Instr.slice 32 (.slice (some ⟨b, off, none⟩) n c) none (some (.int .i64 (k : Int))) none).run Tryd.prog W = .ok (.slice (some ⟨b, off, none⟩) k c) W := by
  have h0 : (sizeOf (Tryd.prog.elem 32)).run Tryd.prog W = .ok 2 W := by kernel_rfl
  rw [run_slice_h W 32 (some ⟨b, off, none⟩) n c (by kernel_rfl) .i64 k (by omega) (by omega), h0]
  simp only [Result.andThen, sliced, Int.toNat_natCast, Option.map_some, Nat.sub_zero, Nat.zero_mul]
  congr 3
  split
  · rfl
  · simp [Addr.add]
set_option maxRecDepth 100000 in
theorem el_tail (b off n c k : Nat) (hk : k ≤ n) (W : World) :
    (Instr.slice 32 (.slice (some ⟨b, off, none⟩) n c) (some (.int .i64 (k : Int))) none none).run Tryd.prog W = .ok (.slice (some (cutE b off k c)) (n - k) (c - k)) W := by
  have h0 : (sizeOf (Tryd.prog.elem 32)).run Tryd.prog W = .ok 2 W := by kernel_rfl
  rw [run_slice_l W 32 (some ⟨b, off, none⟩) n c (by kernel_rfl) .i64 k (by omega) (by omega), h0]
  simp only [Result.andThen, sliced, Int.toNat_natCast, Option.map_some, cutE]
  congr 3
  split
  · rfl
  · simp [Addr.add]
theorem el_cut {W : World} {b off c : Nat} {l : List Go.Em.El} (h : El_.At W (some ⟨b, off, none⟩) l) (k : Nat) (hc : l.length ≤ c) : El_.At W (some (cutE b off k c)) (l.drop k) := by
  unfold cutE
  split
  · rw [List.drop_eq_nil_of_le (by omega)]; exact El_.At.nil _ _
  · exact el_drop h k
theorem el_news {W : World} {a : Addr} {l : List Go.Em.El} (h : El_.At W (some a) l) : ∀ ad, some a = some ad → ∀ j u, (El_.flat l)[j]? = some u → W.cell? (ad.add j) = some u := by
  intro ad had j u hu
  obtain rfl := Option.some.inj had
  have hj : 0 < l.length := by have := (List.getElem?_eq_some_iff.1 hu).1; rw [El_.flat_len] at this; omega
  obtain ⟨b, off, e, -⟩ := h 0 hj
  obtain rfl := Option.some.inj e
  exact h.cells j u hu

/-- The table, a beacon in its block, the elements that came in. -/
structure Rat (w : World) (B : Nat) (x : Bn) (sa : Option Addr) (M : List Go.Em.El) (c : Nat) (wi : World) : Prop where
  lst : Lst w B x wi
  sl : El_.Sl wi sa M c
theorem Rat.keep {w : World} {B : Nat} {x : Bn} {sa : Option Addr} {M : List Go.Em.El} {c : Nat} (wi w' : World) (h : Rat w B x sa M c wi) (hb : Below wi.heap.size wi w') : Rat w B x sa M c w' := ⟨Lst.keep _ _ h.lst hb, h.sl.below hb⟩
/-- A second beacon in its block beside them. -/
structure Rbt (w : World) (B B2 : Nat) (x : Bn) (sa : Option Addr) (M : List Go.Em.El) (c : Nat) (wi : World) : Prop where
  rat : Rat w B x sa M c wi
  box : Bn_.Box wi B2 x
theorem Rbt.keep {w : World} {B B2 : Nat} {x : Bn} {sa : Option Addr} {M : List Go.Em.El} {c : Nat} (wi w' : World) (h : Rbt w B B2 x sa M c wi) (hb : Below wi.heap.size wi w') : Rbt w B B2 x sa M c w' := ⟨Rat.keep _ _ h.rat hb, h.box.below hb h.box.lt⟩
theorem Rbt.new {w wi : World} {B : Nat} {x : Bn} {sa : Option Addr} {M : List Go.Em.El} {c : Nat} (h : Rat w B x sa M c wi) : Rbt w B wi.heap.size x sa M c (wi.alloc (.cells (Bn_.C x) 31)) := ⟨Rat.keep _ _ h ((Below.refl _ _).alloc (Nat.le_refl _) _), Bn_.Box.new wi x⟩

set_option maxRecDepth 100000 in
set_option maxHeartbeats 8000000 in
theorem beaconReads_walk0 (x : Bn) (hx : TmW x.tm) (sa : Option Addr) (M : List Go.Em.El) (c : Nat) (W : World) (h : El_.Sl W sa M c) (z : Int) (ht : KnTab W) :
    Calls Tryd.prog 3 #[Bn_.v x, .slice sa M.length c, .int .i64 z] W fun e W' => e = .returned (.bool true) ∧ Below W.heap.size W W' := by
  have HI := Lib.hid (info_parts El_.info)
  obtain ⟨w1, hw1⟩ : ∃ w1, W.alloc (.cells (Bn_.C x) 31) = w1 := ⟨_, rfl⟩
  have L1 : Hid (Rat W W.heap.size x sa M c w1) := hw1 ▸ ⟨Lst.new ht (Below.refl W.heap.size W) x, h.below ((Below.refl _ _).alloc (Nat.le_refl _) _)⟩
  have e1 := L1.out.lst.box.all
  have l1 := L1.out.lst.box.loadF
  by_cases hn : 300 < x.nm.size
  · have hn' : 300 < (x.nm.size : Int) := by omega
    clear hn hx ht h
    go_enter Tryd.func3, Tryd.ntmps3
    go_wp2_with (go_at_call 8; refine (lives14_any _ L1.out.lst.tab).mono ?_; rintro e w2 ⟨rfl, hb⟩; have L2 := Lib.hid (Rat.keep _ _ L1.out hb); clear hb)
    go_ret
    exact ⟨rfl, L2.out.lst.bel⟩
  have hn' : ¬ 300 < (x.nm.size : Int) := by omega
  have CU := Lib.hid fun w h => unknown14_any M sa c w h
  cases hu : unk M
  · rw [hu] at CU
    clear hn hx ht h hu
    go_enter Tryd.func3, Tryd.ntmps3
    go_wp2_with (first
      | (go_at_call 7; refine (CU.out _ L1.out.sl.lies).mono ?_; rintro e w2 ⟨rfl, hb⟩; have L2 := Lib.hid (Rat.keep _ _ L1.out hb); clear hb)
      | (go_at_call 8; refine (lives14_any _ L2.out.lst.tab).mono ?_; rintro e w3 ⟨rfl, hb⟩; have L3 := Lib.hid (Rat.keep _ _ L2.out hb); clear hb))
    go_ret
    exact ⟨rfl, L3.out.lst.bel⟩
  rw [hu] at CU
  by_cases h0 : chk x = 0
  case neg =>
    have CE : Hid (∀ w, Calls Tryd.prog 9 #[Bn_.v x] w fun e w' => e = .returned (.tuple #[.string ⟨#[]⟩, .int .i64 (chk x)]) ∧ Below w.heap.size w w') := fun w => by
      have := bnEncode_any x w hx
      rw [show encR x = ⟨#[]⟩ from if_neg h0] at this
      exact this
    have CC := Lib.hid fun w => bnCheck_any x w hx
    have h0' : (chk x != 0) = true := by simp; exact h0
    generalize chk x = r at *
    clear hn hx ht h hu h0
    go_enter Tryd.func3, Tryd.ntmps3
    go_wp2_with (first
      | (go_at_call 7; refine (CU.out _ L1.out.sl.lies).mono ?_; rintro e w2 ⟨rfl, hb⟩; have L2 := Lib.hid (Rat.keep _ _ L1.out hb); have l2 := L2.out.lst.box.loadF; have l2' := L2.out.lst.box.drew.loadF; clear hb)
      | (go_at_call 9; refine (CE.out _).mono ?_; rintro e w3 ⟨rfl, hb⟩; have L3 := Lib.hid (Rat.keep _ _ L2.out hb); have l3 := L3.out.lst.box.loadF; have l3' := L3.out.lst.box.drew.loadF; clear hb)
      | (go_at_call 10; refine (CC.out _).mono ?_; rintro e w4 ⟨rfl, hb⟩; have L4 := Lib.hid (Rat.keep _ _ L3.out hb); clear hb)
      | (go_at_call 8; refine (lives14_any _ L4.out.lst.tab).mono ?_; rintro e w5 ⟨rfl, hb⟩; have L5 := Lib.hid (Rat.keep _ _ L4.out hb); clear hb))
    go_ret
    exact ⟨rfl, L5.out.lst.bel⟩
  have hok := chk_ok.1 h0
  have CE : Hid (∀ w, Calls Tryd.prog 9 #[Bn_.v x] w fun e w' => e = .returned (.tuple #[.string (enc x), .int .i64 0]) ∧ Below w.heap.size w w') := fun w => by
    have := bnEncode_any x w hx
    rw [show encR x = enc x from if_pos h0, h0] at this
    exact this
  have hd := dec_octs h0 hx (knl_els x) (els_chk hok hx)
  have CD : Hid (∀ w, KnTab w → Calls Tryd.prog 11 #[.string (enc x)] w fun e w' => e = .returned (.tuple #[Bn_.v x, .int .i64 0]) ∧ Below w.heap.size w w') := fun w ht => by
    have := bnDecode_any (enc x) w (octs_le _ _) ht
    rw [show decE (enc x) = 0 from hd.1, show decB (enc x) = x from hd.2] at this
    exact this
  have CL := Lib.hid fun w => refElements14_any x w hx hok
  unfold ElsPost at CL
  have hel := els_len x
  have hbe := bn_eql x
  have hbn := bn_neq x
  have hbg := fun op a b => bn_guard op a b x x
  by_cases hz0 : z < 0
  · have hz0' : decide (z < 0) = true := decide_eq_true hz0
    generalize enc x = E at *
    generalize els x = L at *
    clear hn hx ht h hu h0 hok hd
    go_enter Tryd.func3, Tryd.ntmps3
    go_wp2_with (first
      | (go_at_call 7; refine (CU.out _ L1.out.sl.lies).mono ?_; rintro e w2 ⟨rfl, hb⟩; have L2 := Lib.hid (Rat.keep _ _ L1.out hb); have l2 := L2.out.lst.box.loadF; have l2' := L2.out.lst.box.drew.loadF; clear hb)
      | (go_at_call 9; refine (CE.out _).mono ?_; rintro e w3 ⟨rfl, hb⟩; have L3 := Lib.hid (Rat.keep _ _ L2.out hb); have l3 := L3.out.lst.box.loadF; have l3' := L3.out.lst.box.drew.loadF; clear hb)
      | (go_at_call 11; refine (CD.out _ L3.out.lst.tab).mono ?_; rintro e w4 ⟨rfl, hb⟩; have L4 := Lib.hid (Rbt.new (Rat.keep _ _ L3.out hb)); have l4 := L4.out.rat.lst.box.loadF; have l4' := L4.out.rat.lst.box.drew.loadF; clear hb)
      | (go_at_call 12; refine (CL.out _).mono ?_; rintro e w5 ⟨v0, c0, rfl, hsl, hb⟩; have L5 := Lib.hid (Rbt.keep _ _ L4.out hb); have S5 := Lib.hid hsl; have l5 := L5.out.rat.lst.box.loadF; have l5' := L5.out.rat.lst.box.drew.loadF; have m5 := L5.out.box.loadF; have m5' := L5.out.box.drew.loadF; clear hb hsl)
      | (go_at_call 8; refine (lives14_any _ L5.out.rat.lst.tab).mono ?_; rintro e w6 ⟨rfl, hb⟩; have L6 := Lib.hid (Rbt.keep _ _ L5.out hb); clear hb))
    go_ret
    exact ⟨rfl, L6.out.rat.lst.bel⟩
  by_cases hz1 : ((els x).length : Int) < z
  · have hz0' : decide (z < 0) = false := decide_eq_false hz0
    have hz1' : decide (((els x).length : Int) < z) = true := decide_eq_true hz1
    generalize enc x = E at *
    generalize els x = L at *
    clear hn hx ht h hu h0 hok hd
    go_enter Tryd.func3, Tryd.ntmps3
    go_wp2_with (first
      | (go_at_call 7; refine (CU.out _ L1.out.sl.lies).mono ?_; rintro e w2 ⟨rfl, hb⟩; have L2 := Lib.hid (Rat.keep _ _ L1.out hb); have l2 := L2.out.lst.box.loadF; have l2' := L2.out.lst.box.drew.loadF; clear hb)
      | (go_at_call 9; refine (CE.out _).mono ?_; rintro e w3 ⟨rfl, hb⟩; have L3 := Lib.hid (Rat.keep _ _ L2.out hb); have l3 := L3.out.lst.box.loadF; have l3' := L3.out.lst.box.drew.loadF; clear hb)
      | (go_at_call 11; refine (CD.out _ L3.out.lst.tab).mono ?_; rintro e w4 ⟨rfl, hb⟩; have L4 := Lib.hid (Rbt.new (Rat.keep _ _ L3.out hb)); have l4 := L4.out.rat.lst.box.loadF; have l4' := L4.out.rat.lst.box.drew.loadF; clear hb)
      | (go_at_call 12; refine (CL.out _).mono ?_; rintro e w5 ⟨v0, c0, rfl, hsl, hb⟩; have L5 := Lib.hid (Rbt.keep _ _ L4.out hb); have S5 := Lib.hid hsl; have l5 := L5.out.rat.lst.box.loadF; have l5' := L5.out.rat.lst.box.drew.loadF; have m5 := L5.out.box.loadF; have m5' := L5.out.box.drew.loadF; clear hb hsl)
      | (go_at_call 8; refine (lives14_any _ L5.out.rat.lst.tab).mono ?_; rintro e w6 ⟨rfl, hb⟩; have L6 := Lib.hid (Rbt.keep _ _ L5.out hb); clear hb))
    go_ret
    exact ⟨rfl, L6.out.rat.lst.bel⟩
  obtain ⟨k, rfl⟩ : ∃ k : Nat, z = k := ⟨z.toNat, by omega⟩
  have hk : k ≤ (els x).length := by omega
  have CO : Hid (∀ (w : World) sa' c', El_.At w sa' (mix x M k) → Calls Tryd.prog 13 #[Bn_.v x, .slice sa' (mix x M k).length c'] w fun e w' => e = .returned (.tuple #[.string (octs x (mix x M k)), .int .i64 0]) ∧ Below w.heap.size w w') := fun w sa' c' h => by
    have := refOctets14_any x (mix x M k) sa' c' w hok h (by have := (unk_iff.1 hu).1; unfold mix; simp only [List.length_append, List.length_take, List.length_drop]; omega)
    rw [chk_mix hok hx hu] at this
    exact this
  have hd2 := dec_octs h0 hx (knl_mix (k := k) hu) (chk_mix hok hx hu)
  have CD2 : Hid (∀ w, KnTab w → Calls Tryd.prog 11 #[.string (octs x (mix x M k))] w fun e w' => e = .returned (.tuple #[Bn_.v x, .int .i64 0]) ∧ Below w.heap.size w w') := fun w ht => by
    have := bnDecode_any (octs x (mix x M k)) w (octs_le _ _) ht
    rw [hd2.1, hd2.2] at this
    exact this
  have hM := (unk_iff.1 hu).1
  have HX : Hid (mix x M k = (els x).take k ++ M ++ (els x).drop k) := rfl
  have hz0' : decide ((k : Int) < 0) = false := decide_eq_false hz0
  have hz1' : decide (((els x).length : Int) < (k : Int)) = false := decide_eq_false hz1
  generalize octs x (mix x M k) = T at *
  generalize mix x M k = N at *
  generalize enc x = E at *
  generalize els x = L at *
  clear hn hx ht h hu h0 hok hd hd2
  go_enter Tryd.func3, Tryd.ntmps3
  go_wp2_with (first
    | (go_at_call 7; refine (CU.out _ L1.out.sl.lies).mono ?_; rintro e w2 ⟨rfl, hb⟩; have L2 := Lib.hid (Rat.keep _ _ L1.out hb); have l2 := L2.out.lst.box.loadF; have l2' := L2.out.lst.box.drew.loadF; clear hb)
    | (go_at_call 9; refine (CE.out _).mono ?_; rintro e w3 ⟨rfl, hb⟩; have L3 := Lib.hid (Rat.keep _ _ L2.out hb); have l3 := L3.out.lst.box.loadF; have l3' := L3.out.lst.box.drew.loadF; clear hb)
    | (go_at_call 11; refine (CD.out _ L3.out.lst.tab).mono ?_; rintro e w4 ⟨rfl, hb⟩; have L4 := Lib.hid (Rbt.new (Rat.keep _ _ L3.out hb)); have l4 := L4.out.rat.lst.box.loadF; have l4' := L4.out.rat.lst.box.drew.loadF; clear hb)
    | (go_at_call 12; refine (CL.out _).mono ?_; rintro e w5 ⟨v0, c0, rfl, hsl, hb⟩; have L5 := Lib.hid (Rbt.keep _ _ L4.out hb); have S5 := Lib.hid hsl; obtain ⟨g, off, rfl, -⟩ := hsl.lies 0 (by omega); have hcap := hsl.le; have hsh := el_head g off L.length c0 k hk hcap; have hst := el_tail g off L.length c0 k hk; have l5 := L5.out.rat.lst.box.loadF; have l5' := L5.out.rat.lst.box.drew.loadF; have m5 := L5.out.box.loadF; have m5' := L5.out.box.drew.loadF; clear hb hsl)
    | (at_builtin; obtain ⟨i0, hi, ha0, ha1, ha2⟩ := HI.out; refine Go.Wr.wpList_append_any _ rfl _ _ 32 rfl w5.heap.size 49 i0 (.agg #[.int .i64 0, .string ⟨#[]⟩]) 2 24 Tryd.underlying32 hi ha0 ha1 ha2 rfl (by decide) _ 0 [] rfl ?own (some ⟨g, off, none⟩) k c0 (El_.flat (L.take k)) rfl ?c0 ?c1 ?c2 ?c3 ?c4 ?c5 ?c6 ?_))
  have own5 : w5.ownsRow w5.heap.size 49 2 (.slice none 0 0) 0 [] := World.ownsRow_nil _ _ _ _
  case own => exact own5
  case c0 => rw [El_.flat_len, List.length_take, Nat.min_eq_left hk]
  case c1 => exact fun h => absurd h (by simp)
  case c2 => exact el_news (el_take S5.out.lies k)
  case c3 => exact El_.flat_ones _
  case c4 => unfold maxLen; omega
  case c5 => omega
  case c6 => exact Nat.le_refl _
  intro v6 w6 hown6 hgrow6
  have own5 : w5.ownsRow w5.heap.size 49 2 (.slice none 0 0) 0 [] := World.ownsRow_nil _ _ _ _
  have B6 : Below w5.heap.size w5 w6 := Below.grown (Below.refl _ _) hgrow6 (Nat.le_refl _) (fun j hj => (own5.lt j hj).1)
  have R6 : w6.ownsRow w5.heap.size 49 2 v6 k (El_.flat (L.take k)) := by simpa using hown6
  have L6 := Lib.hid (Rbt.keep _ _ L5.out B6)
  have S6 := Lib.hid (S5.out.below B6)
  have Z6 := Lib.hid B6.size
  have HB6 := Lib.hid B6
  clear hown6 hgrow6 own5 l5 l5' m5 m5' B6
  go_wp2_with (at_builtin; obtain ⟨i0, hi, ha0, ha1, ha2⟩ := HI.out; refine Go.Wr.wpList_append_any _ rfl _ _ 32 rfl w5.heap.size 49 i0 (.agg #[.int .i64 0, .string ⟨#[]⟩]) 2 24 Tryd.underlying32 hi ha0 ha1 ha2 rfl (by decide) _ k (El_.flat (L.take k)) rfl ?own sa M.length c (El_.flat M) rfl ?c0 ?c1 ?c2 ?c3 ?c4 ?c5 ?c6 ?_)
  case own => exact R6
  case c0 => exact El_.flat_len _
  case c1 => exact fun h => by have := L6.out.rat.sl.nil h; have := L6.out.rat.sl.le; omega
  case c2 => exact L6.out.rat.sl.news
  case c3 => exact El_.flat_ones _
  case c4 => unfold maxLen; omega
  case c5 => omega
  case c6 => exact Z6.out
  intro v7 w7 hown7 hgrow7
  have B7 : Below w5.heap.size w6 w7 := Below.grown (Below.refl _ _) hgrow7 Z6.out (fun j hj => (R6.lt j hj).1)
  have R7 : w7.ownsRow w5.heap.size 49 2 v7 (k + M.length) (El_.flat (L.take k) ++ El_.flat M) := hown7
  have HB7 := Lib.hid (HB6.out.trans B7)
  have L7 := Lib.hid (Rbt.keep _ _ L5.out HB7.out)
  have S7 := Lib.hid (S5.out.below HB7.out)
  have Z7 : Hid (w5.heap.size ≤ w7.heap.size) := Nat.le_trans Z6.out B7.size
  clear hown7 hgrow7 B7 R6
  go_wp2_with (at_builtin; obtain ⟨i0, hi, ha0, ha1, ha2⟩ := HI.out; refine Go.Wr.wpList_append_any _ rfl _ _ 32 rfl w5.heap.size 49 i0 (.agg #[.int .i64 0, .string ⟨#[]⟩]) 2 24 Tryd.underlying32 hi ha0 ha1 ha2 rfl (by decide) _ (k + M.length) (El_.flat (L.take k) ++ El_.flat M) rfl ?own (some (cutE g off k c0)) (L.length - k) (c0 - k) (El_.flat (L.drop k)) rfl ?c0 ?c1 ?c2 ?c3 ?c4 ?c5 ?c6 ?_)
  case own => exact R7
  case c0 => rw [El_.flat_len, List.length_drop]
  case c1 => exact fun h => absurd h (by simp)
  case c2 => exact el_news (el_cut S7.out.lies k hcap)
  case c3 => exact El_.flat_ones _
  case c4 => unfold maxLen; omega
  case c5 => omega
  case c6 => exact Z7.out
  intro v8 w8 hown8 hgrow8
  have B8 : Below w5.heap.size w7 w8 := Below.grown (Below.refl _ _) hgrow8 Z7.out (fun j hj => (R7.lt j hj).1)
  have hln : N.length = k + M.length + (L.length - k) := by rw [HX.out]; simp only [List.length_append, List.length_take, List.length_drop]; omega
  have R8 : w8.ownsRow w5.heap.size 49 2 v8 N.length (El_.flat N) := by
    rw [hln, HX.out, El_.flat_append, El_.flat_append, List.append_assoc]; exact hown8
  obtain ⟨v0, c8, rfl⟩ := El_.slice_form R8
  have A8 := Lib.hid (El_.at_owns R8)
  have L8 := Lib.hid (Rbt.keep _ _ L5.out (HB7.out.trans B8))
  have l8 := L8.out.rat.lst.box.loadF
  have l8' := L8.out.rat.lst.box.drew.loadF
  clear hown8 hgrow8 B8 R7 R8 hln hsh hst hM hel hcap hk S5 S6 S7 Z6 Z7
  go_wp2_with (first
    | (go_at_call 13; refine (CO.out _ _ _ A8.out).mono ?_; rintro e w9 ⟨rfl, hb⟩; have L9 := Lib.hid (Rbt.keep _ _ L8.out hb); clear hb)
    | (go_at_call 11; refine (CD2.out _ L9.out.rat.lst.tab).mono ?_; rintro e w10 ⟨rfl, hb⟩; have L10 := Lib.hid (Rbt.new (Rat.keep _ _ L9.out.rat hb)); have l10 := L10.out.rat.lst.box.loadF; have l10' := L10.out.rat.lst.box.drew.loadF; have m10 := L10.out.box.loadF; have m10' := L10.out.box.drew.loadF; clear hb)
    | (go_at_call 8; refine (lives14_any _ L10.out.rat.lst.tab).mono ?_; rintro e w11 ⟨rfl, hb⟩; have L11 := Lib.hid (Rbt.keep _ _ L10.out hb); clear hb))
  go_ret
  exact ⟨rfl, L11.out.rat.lst.bel⟩
end Go.Proofs.YtojiffpmmgjpjaaDoor
