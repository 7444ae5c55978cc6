/-
  WALKS of package queue: Head (a deferred call that recovers).
-/
import Derived.Test.YtaljdjabppiglaaQuPop
import Derived.Defers
import Derived.Recover
namespace Go.Proofs.Ytaljdjabppiglaa
open Go.RowKit Go.Qu Go.Wr Go.Ad
attribute [local go_sem ↓ high] Ix_.loadF Ix_.storeF Ix_.v_cells Ix_.v_match
attribute [local go_sem] Ix_.C0 Ix_.C1 Ix_.C2 Ix_.C3 Ix_.C4 Ix_.C5 Ix_.C6 Ix_.loadF_new Ix_.storeF_zero Oper.semAt_some fold_c Ix_.Csize

/-- The deferred call of a frame that returns: recover finds nothing. -/
theorem head_door (w : World) : CallsD Try.prog 42 #[] .returning w fun e u' w' => e = .returned (.tuple #[]) ∧ u' = .returning ∧ w' = w := by
  refine callsD_of_wpS Try.func42 rfl fun c₀ cs hu => ?_
  apply wpS_region
  simp [wpOpsS, go_sem, recoverD, hu, Try.ntmps42, bodyPostS, results, Try.results42]
  cases c₀
  simp_all
/-- Through the door: an item and one more handed back. -/
theorem door_it2 {fn : Func} {p q : Tmp} (hr : fn.results = #[.cell p 28, .tmp q]) {tmps : Array Value} {w : World} {g : Nat} {y : It} {vq : Value} {R : Ending → World → Prop} (hp : tmps.getD p undef = .pointer (some ⟨g, 0, none⟩)) (hq : tmps.getD q undef = vq) (hb : Ix_.Box w g y) (hR : R (.returned (.tuple #[Ix_.v y, vq])) w) :
    Leaves Try.prog fn tmps R [] .returning w := by
  refine ⟨.tuple #[Ix_.v y, vq], ?_, hR⟩
  have hp' : tmps[p]?.getD undef = .pointer (some ⟨g, 0, none⟩) := by simpa using hp
  have hq' : tmps[q]?.getD undef = vq := by simpa using hq
  have hl := run_loadVar_row w g 28 28 (Ix_.C y) (0, 0) _ hb Try.underlying28 rfl Ix_.sz
  simp [results, hr, hp', hq', asAddr, hl]
  rfl
theorem Pp.put {w wi : World} (h : Pp w wi) (x : It) : ∃ w', (Ix_.StoreF ⟨w.heap.size, 0, none⟩ (Ix_.v x)).run Try.prog wi = .ok () w' ∧ Ix_.Box w' w.heap.size x ∧ Below w.heap.size w w' :=
  ⟨_, h.rs.storeF x, h.rs.setRow x, below_row23 h.bel (Nat.le_refl _) _⟩
/-- A function that tells of an address, with what it captures. -/
structure TellsA (S : World → Prop) (F : FuncId) (caps : Array Value) (P : Int → Bool) : Prop where
  go : ∀ (args : Array Value) (w : World), (callFunc F args).run Try.prog w = .ok (.enter F args) w
  call : ∀ a W, S W → Calls Try.prog F (#[.int .u64 a] ++ caps) W fun e w' => e = .returned (.bool (P a)) ∧ Below W.heap.size W w'
theorem head_at {P : It → Bool} {l : List It} {i : Nat} (h : i < l.length) (h1 : P l[i] = false) (h2 : ∀ j (hj : j < l.length), j < i → P l[j] = true) : head l P = (l[i], true) := by
  have e : fidx (fun p => !P p) l = i := fidx_lt h (by simp [h1]) (fun j hj => by simp [h2 j (by omega) hj])
  unfold head
  rw [e, if_pos h, itAt_eq h]
theorem head_no {P : It → Bool} {l : List It} (h2 : ∀ j (hj : j < l.length), P l[j] = true) : head l P = (zit, false) := by
  have e : fidx (fun p => !P p) l = l.length := fidx_all (fun j hj => by simp [h2 j hj])
  unfold head
  rw [e, if_neg (by omega)]

set_option maxRecDepth 100000 in
set_option maxHeartbeats 4000000 in
theorem qu_head_any (S : World → Prop) (F : FuncId) (caps : Array Value) (P : Int → Bool) (T : TellsA S F caps P) (sa : Option Addr) (l : List It) (c : Nat) (w : World) (hk : ∀ W, Below w.heap.size w W → S W) (hS : It_.Sl w sa l c) (hl : l.length ≤ 1000) :
    Calls Try.prog 20 #[.slice sa l.length c, .func (.func F) #[] caps] w fun e w' => e = .returned (.tuple #[Ix_.v (head l (fun p => P p.to)).1, .bool (head l (fun p => P p.to)).2]) ∧ Below w.heap.size w w' := by
  have HS := Lib.hid hS
  have HL := Lib.hid hl
  have CK := Lib.hid T.call
  have eg := T.go
  have HK := Lib.hid hk
  obtain ⟨w1, hw1⟩ : ∃ w1, w.alloc (.cells (Ix_.C zit) 28) = w1 := ⟨_, rfl⟩
  have hw1' : w.alloc (.cells #[.int .i64 0, .int .i64 0, .int .u64 0, .int .u64 0, .string ⟨#[]⟩, .int .i64 0, .int .i64 0] 28) = w1 := hw1
  have HP := Lib.hid (show Pp w w1 from ⟨hw1 ▸ Ix_.Box.new w zit, hw1 ▸ (Below.refl _ _).alloc (Nat.le_refl _) _⟩)
  have hq : ∀ W, (binOp .eql 48 (.func (.func F) #[] caps) .nilFunc).run Try.prog W = .ok (.bool false) W := fun W => by kernel_rfl
  have hmf : ∀ (fn : Fn) (first cap : Array Value) (w : World), (Instr.makeFunc fn first cap).run Try.prog w = .ok (.func fn first cap) w := fun _ _ _ _ => rfl
  clear hS hl T hk hw1
  generalize hn : l.length = n at *
  have HN := Lib.hid hn
  clear hn
  go_enter_defers Try.func20, Try.ntmps20
  go_wp2
  go_loopw [10] (fun z wr => ∃ i : Nat, z = .int .i64 i ∧ i ≤ n ∧ Hid (∀ j (hj : j < l.length), j < i → P l[j].to = true) ∧ Hid (Pp w wr)) (fun z _ => n - (intOf z).toNat)
  case atStart => exact ⟨0, rfl, Nat.zero_le _, fun j _ hj => absurd hj (Nat.not_lt_zero _), HP⟩
  case round =>
    clear HP
    rename World => wr
    obtain ⟨i, rfl, hi, HA, HB⟩ := hrel
    by_cases hlt : i < n
    · have hil : i < l.length := by have := HN.out; omega
      have hlt' : (i : Int) < (n : Int) := by omega
      have i0 : (0 : Int) ≤ (i : Int) := by omega
      obtain ⟨b, off, hsa, hbl, -⟩ := HS.out.lies i hil
      have ld := it_load (HS.out.lies.below HB.out.bel) hil hsa
      subst hsa
      have HX := Lib.hid (fun (h0 : P l[i].to = true) => show ∀ j (hj : j < l.length), j < i + 1 → P l[j].to = true from fun j hj hji => by
        rcases Nat.lt_succ_iff_lt_or_eq.1 hji with h | h
        · exact HA.out j hj h
        · subst h; exact h0)
      have HY := Lib.hid (fun (h0 : P l[i].to = false) => head_at (P := fun p => P p.to) hil h0 (fun j hj hji => HA.out j hj hji))
      have hi1 : i ≤ 1000 := by have := HL.out; have := HN.out; omega
      have HLT := Lib.hid hlt
      generalize l[i] = h at *
      obtain ⟨w2, hw2⟩ : ∃ w2, wr.alloc (.cells (Ix_.C h) 28) = w2 := ⟨_, rfl⟩
      have hz := Ix_.storeF_zero wr h
      rw [hw2] at hz
      have b2 : Below wr.heap.size wr w2 := hw2 ▸ (Below.refl _ _).alloc (Nat.le_refl _) _
      have X2 := Lib.hid (show Ix_.Box w2 wr.heap.size h from hw2 ▸ Ix_.Box.new wr h)
      have e2 := X2.out.all
      have HP2 := Lib.hid (HB.out.keep b2)
      have CN := Lib.hid (CK.out h.to w2 (HK.out w2 HP2.out.bel))
      generalize hP : P h.to = p at *
      clear hbl hil hP hlt hw2 b2
      cases p
      · have HZ := Lib.hid (HY.out rfl)
        go_wp2_with (go_at_fn F; refine CN.out.mono ?_)
        rintro e w3 rfl hb3
        have HP3 := Lib.hid (HP2.out.keep hb3)
        have l3 := (X2.out.below hb3 X2.out.lt).loadF
        obtain ⟨w4, e4, hb4, hbel4⟩ := HP3.out.put h
        have HB4 := Lib.hid hb4
        have HE4 := Lib.hid hbel4
        clear hb3 hb4 hbel4
        go_wp2_with fail
        refine leaves_cons (f := 42) (args := #[]) (by simp) (by simp [go_sem]) ?_
        refine (head_door _).mono ?_
        rintro e u' w'' ⟨rfl, rfl, rfl⟩
        exact door_it2 Try.results20 rfl rfl HB4.out ⟨by rw [HZ.out]; rfl, HE4.out⟩
      · have HZ := Lib.hid (HX.out rfl)
        go_wp2_with (go_at_fn F; refine CN.out.mono ?_)
        rintro e w3 rfl hb3
        have HP3 := Lib.hid (HP2.out.keep hb3)
        clear hb3
        go_wp2_with fail
        go_roundw
        case rel => exact ⟨i + 1, by go_num, HLT.out, HZ, HP3⟩
        case measure => have := HLT.out; simp [intOf]; omega
    · obtain rfl : i = n := by omega
      have HZ := Lib.hid (head_no (P := fun p => P p.to) (l := l) (fun j hj => HA.out j hj (by have := HN.out; omega)))
      obtain ⟨w4, e4, hb4, hbel4⟩ := HB.out.put zit
      have e4' : (Ix_.StoreF ⟨w.heap.size, 0, none⟩ (.agg #[.int .i64 0, .int .i64 0, .int .u64 0, .int .u64 0, .string ⟨#[]⟩, .int .i64 0, .int .i64 0])).run Try.prog wr = .ok () w4 := e4
      have HB4 := Lib.hid hb4
      have HE4 := Lib.hid hbel4
      clear hb4 hbel4 e4
      go_wp2_with fail
      refine leaves_cons (f := 42) (args := #[]) (by simp) (by simp [go_sem]) ?_
      refine (head_door _).mono ?_
      rintro e u' w'' ⟨rfl, rfl, rfl⟩
      exact door_it2 Try.results20 rfl rfl HB4.out ⟨by rw [HZ.out]; rfl, HE4.out⟩

/-- A nil function skips nothing. -/
def hdI (l : List It) : It := itAt l 0
set_option maxRecDepth 100000 in
set_option maxHeartbeats 4000000 in
theorem qu_head_nil (sa : Option Addr) (l : List It) (c : Nat) (w : World) (hS : It_.Sl w sa l c) (hl : l.length ≤ 1000) :
    Calls Try.prog 20 #[.slice sa l.length c, .nilFunc] w fun e w' => e = .returned (.tuple #[Ix_.v (head l (fun _ => false)).1, .bool (head l (fun _ => false)).2]) ∧ Below w.heap.size w w' := by
  have HS := Lib.hid hS
  have HL := Lib.hid hl
  obtain ⟨w1, hw1⟩ : ∃ w1, w.alloc (.cells (Ix_.C zit) 28) = w1 := ⟨_, rfl⟩
  have hw1' : w.alloc (.cells #[.int .i64 0, .int .i64 0, .int .u64 0, .int .u64 0, .string ⟨#[]⟩, .int .i64 0, .int .i64 0] 28) = w1 := hw1
  have HP := Lib.hid (show Pp w w1 from ⟨hw1 ▸ Ix_.Box.new w zit, hw1 ▸ (Below.refl _ _).alloc (Nat.le_refl _) _⟩)
  have hq : ∀ W, (binOp .eql 48 .nilFunc .nilFunc).run Try.prog W = .ok (.bool true) W := fun W => by kernel_rfl
  have hmf : ∀ (fn : Fn) (first cap : Array Value) (w : World), (Instr.makeFunc fn first cap).run Try.prog w = .ok (.func fn first cap) w := fun _ _ _ _ => rfl
  clear hS hl hw1
  generalize hn : l.length = n at *
  have HN := Lib.hid hn
  clear hn
  go_enter_defers Try.func20, Try.ntmps20
  go_wp2
  go_loopw [10] (fun z wr => z = .int .i64 (0 : Nat) ∧ Hid (Pp w wr)) (fun _ _ => 0)
  case atStart => exact ⟨rfl, HP⟩
  case round =>
    clear HP
    rename World => wr
    obtain ⟨rfl, HB⟩ := hrel
    by_cases hlt : 0 < n
    · have hil : 0 < l.length := by have := HN.out; omega
      have hlt' : (0 : Int) < (n : Int) := by omega
      obtain ⟨b, off, hsa, hbl, -⟩ := HS.out.lies 0 hil
      have ld := it_load (HS.out.lies.below HB.out.bel) hil hsa
      rw [Nat.zero_mul, Nat.add_zero] at ld
      subst hsa
      have HZ := Lib.hid (head_at (P := fun _ => false) hil rfl (fun j _ hj => absurd hj (Nat.not_lt_zero _)))
      generalize l[0] = h at *
      obtain ⟨w2, hw2⟩ : ∃ w2, wr.alloc (.cells (Ix_.C h) 28) = w2 := ⟨_, rfl⟩
      have hz := Ix_.storeF_zero wr h
      rw [hw2] at hz
      have b2 : Below wr.heap.size wr w2 := hw2 ▸ (Below.refl _ _).alloc (Nat.le_refl _) _
      have X2 := Lib.hid (show Ix_.Box w2 wr.heap.size h from hw2 ▸ Ix_.Box.new wr h)
      have l2 := X2.out.loadF
      have HP2 := Lib.hid (HB.out.keep b2)
      obtain ⟨w4, e4, hb4, hbel4⟩ := HP2.out.put h
      have HB4 := Lib.hid hb4
      have HE4 := Lib.hid hbel4
      clear hbl hil hw2 b2 hb4 hbel4
      go_wp2
      refine leaves_cons (f := 42) (args := #[]) (by simp) (by simp [go_sem]) ?_
      refine (head_door _).mono ?_
      rintro e u' w'' ⟨rfl, rfl, rfl⟩
      exact door_it2 Try.results20 rfl rfl HB4.out ⟨by rw [HZ.out]; rfl, HE4.out⟩
    · obtain rfl : n = 0 := by omega
      have HZ := Lib.hid (head_no (P := fun _ => false) (l := l) (fun j hj => absurd hj (by have := HN.out; omega)))
      obtain ⟨w4, e4, hb4, hbel4⟩ := HB.out.put zit
      have e4' : (Ix_.StoreF ⟨w.heap.size, 0, none⟩ (.agg #[.int .i64 0, .int .i64 0, .int .u64 0, .int .u64 0, .string ⟨#[]⟩, .int .i64 0, .int .i64 0])).run Try.prog wr = .ok () w4 := e4
      have HB4 := Lib.hid hb4
      have HE4 := Lib.hid hbel4
      clear hb4 hbel4 e4
      go_wp2_with fail
      refine leaves_cons (f := 42) (args := #[]) (by simp) (by simp [go_sem]) ?_
      refine (head_door _).mono ?_
      rintro e u' w'' ⟨rfl, rfl, rfl⟩
      exact door_it2 Try.results20 rfl rfl HB4.out ⟨by rw [HZ.out]; rfl, HE4.out⟩
end Go.Proofs.Ytaljdjabppiglaa
