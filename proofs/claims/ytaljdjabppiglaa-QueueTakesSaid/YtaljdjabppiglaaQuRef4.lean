/-
  WALKS of the reference of layer 23: Head; the law's function that skips.
-/
import Derived.Test.YtaljdjabppiglaaQuHead
import Derived.Test.YtaljdjabppiglaaQuUs
namespace Go.Proofs.Ytaljdjabppiglaa
open Go.RowKit Go.Qu Go.Wr Go.Ad
attribute [local go_sem ↓ high] Ix_.loadF Ix_.storeF Ix_.v_cells Ix_.v_match
attribute [local go_sem] Ix_.C0 Ix_.C1 Ix_.C2 Ix_.C3 Ix_.C4 Ix_.C5 Ix_.C6 Ix_.loadF_new Ix_.storeF_zero Oper.semAt_some fold_c Ix_.Csize

def skp (K : List Int) (a : Int) : Bool := K.any (fun k => k == a)
theorem skp_take {K : List Int} {k : Nat} (h : k < K.length) (a : Int) : skp (K.take (k + 1)) a = (skp (K.take k) a || (K[k] == a)) := by
  unfold skp
  rw [List.take_succ_eq_append_getElem h, List.any_append]
  simp
theorem skp_yes {K : List Int} {k : Nat} (h : k < K.length) {a : Int} (hk : K[k] = a) : skp K a = true := by
  unfold skp; rw [List.any_eq_true]; exact ⟨_, List.getElem_mem h, by simp [hk]⟩
theorem skp_no {K : List Int} {a : Int} (h : ∀ j (hj : j < K.length), ¬ K[j] = a) : skp K a = false := by
  unfold skp; rw [List.any_eq_false]
  intro x hx
  obtain ⟨j, hj, rfl⟩ := List.mem_iff_getElem.1 hx
  simpa using h j hj
/-- The addresses that are skipped, in their variable. -/
structure Sk (b : Nat) (sb : Option Addr) (K : List Int) (cb : Nat) (W : World) : Prop where
  nc : Nc b (.slice sb K.length cb) W
  sl : Us_.Sl W sb K cb
theorem Sk.keep {b : Nat} {sb : Option Addr} {K : List Int} {cb : Nat} {W W' : World} (h : Sk b sb K cb W) (hb : Below W.heap.size W W') : Sk b sb K cb W' := ⟨h.nc.keep hb, h.sl.below hb⟩

set_option maxRecDepth 100000 in
set_option maxHeartbeats 4000000 in
theorem skipF_any (a : Int) (b : Nat) (sb : Option Addr) (K : List Int) (cb : Nat) (hl : K.length ≤ 1000) (w : World) (hS : Sk b sb K cb w) :
    Calls Try.prog 21 #[.int .u64 a, .pointer (some ⟨b, 0, none⟩)] w fun e w' => e = .returned (.bool (skp K a)) ∧ Below w.heap.size w w' := by
  have HS := Lib.hid hS.sl
  have HL := Lib.hid hl
  have e1 := hS.nc.c
  clear hS hl
  generalize hn : K.length = n at *
  have HN := Lib.hid hn
  clear hn
  go_enter Try.func21, Try.ntmps21
  go_wp2
  go_loopw [4] (fun z wr => ∃ i : Nat, z = .int .i64 i ∧ i ≤ n ∧ Hid (∀ j (hj : j < K.length), j < i → ¬ K[j] = a) ∧ w = wr) (fun z _ => n - (intOf z).toNat)
  case atStart => exact ⟨0, rfl, Nat.zero_le _, fun j _ hj => absurd hj (Nat.not_lt_zero _), rfl⟩
  case round =>
    obtain ⟨i, rfl, hi, HA, rfl⟩ := hrel
    by_cases hlt : i < n
    · have hil : i < K.length := by have := HN.out; omega
      have hlt' : (i : Int) < (n : Int) := by omega
      have i0 : (0 : Int) ≤ (i : Int) := by omega
      obtain ⟨bb, off, hsa, hbl, c0⟩ := HS.out.lies i hil
      subst hsa
      have HX := Lib.hid (fun (h0 : ¬ K[i] = a) => show ∀ j (hj : j < K.length), j < i + 1 → ¬ K[j] = a from fun j hj hji => by
        rcases Nat.lt_succ_iff_lt_or_eq.1 hji with h | h
        · exact HA.out j hj h
        · subst h; exact h0)
      have HY := Lib.hid (fun (h0 : K[i] = a) => skp_yes hil h0)
      have hi1 : i ≤ 1000 := by have := HL.out; omega
      have HLT := Lib.hid hlt
      generalize K[i] = h at *
      clear hbl hil hlt
      by_cases hk : h = a
      · have HZ := Lib.hid (HY.out hk)
        rw [hk] at c0
        go_wp2
        go_returns
        exact ⟨by rw [HZ.out]; rfl, Below.refl _ _⟩
      · have HZ := Lib.hid (HX.out hk)
        have hk' : (h == a) = false := by rw [beq_eq_false_iff_ne]; exact hk
        go_wp2
        go_roundw
        case rel => exact ⟨i + 1, by go_num, HLT.out, HZ, by first | rfl | trivial⟩
        case measure => have := HLT.out; simp [intOf]; omega
    · obtain rfl : i = n := by omega
      have HZ := Lib.hid (skp_no (fun j hj => HA.out j hj (by have := HN.out; omega)))
      go_wp2
      go_returns
      exact ⟨by rw [HZ.out]; rfl, Below.refl _ _⟩
theorem skipF_tells (b : Nat) (sb : Option Addr) (K : List Int) (cb : Nat) (hl : K.length ≤ 1000) : TellsA (Sk b sb K cb) 21 #[.pointer (some ⟨b, 0, none⟩)] (skp K) :=
  ⟨fun args w => by kernel_rfl, fun a W h => skipF_any a b sb K cb hl W h⟩

set_option maxRecDepth 100000 in
set_option maxHeartbeats 8000000 in
theorem r23_head_any (sa : Option Addr) (l : List It) (c : Nat) (sb : Option Addr) (K : List Int) (cb : Nat) (w : World) (hS : It_.Sl w sa l c) (hl : l.length ≤ 1000) (hU : Us_.Sl w sb K cb) (hK : K.length ≤ 1000) :
    Calls Try.prog 22 #[.slice sa l.length c, .slice sb K.length cb] w fun e w' => e = .returned (.tuple #[Ix_.v (head l (fun p => skp K p.to)).1, .bool (head l (fun p => skp K p.to)).2]) ∧ Below w.heap.size w w' := by
  obtain ⟨w1, hw1⟩ : ∃ w1, w.alloc (.cells (Ix_.C zit) 28) = w1 := ⟨_, rfl⟩
  have hw1' : w.alloc (.cells #[.int .i64 0, .int .i64 0, .int .u64 0, .int .u64 0, .string ⟨#[]⟩, .int .i64 0, .int .i64 0] 28) = w1 := hw1
  have HP0 := Lib.hid (show Pp w w1 from ⟨hw1 ▸ Ix_.Box.new w zit, hw1 ▸ (Below.refl _ _).alloc (Nat.le_refl _) _⟩)
  have HS := Lib.hid hS
  have HL := Lib.hid hl
  have HU := Lib.hid hU
  have HK := Lib.hid hK
  clear hS hl hU hK hw1
  generalize hn : l.length = n at *
  have HN := Lib.hid hn
  clear hn
  generalize hm : K.length = m at *
  have HM := Lib.hid hm
  clear hm
  go_enter Try.func22, Try.ntmps22
  go_wp2
  go_loopw [6] (fun z wr => ∃ i : Nat, z = .int .i64 i ∧ i ≤ n ∧ Hid (∀ j (hj : j < l.length), j < i → skp K l[j].to = true) ∧ Hid (Pp w wr)) (fun z _ => n - (intOf z).toNat)
  case atStart => exact ⟨0, rfl, Nat.zero_le _, fun j _ hj => absurd hj (Nat.not_lt_zero _), HP0⟩
  case round =>
    clear HP0
    rename World => wr
    obtain ⟨i, rfl, hi, HA, HB⟩ := hrel
    by_cases hlt : i < n
    · have hil : i < l.length := by have := HN.out; omega
      have hlt' : (i : Int) < (n : Int) := by omega
      have i0 : (0 : Int) ≤ (i : Int) := by omega
      obtain ⟨b, off, hsa, hbl, -, -, c2, -⟩ := HS.out.lies i hil
      have HLD := Lib.hid (fun W (hW : Below w.heap.size w W) => it_load (HS.out.lies.below hW) hil hsa)
      have HTO := Lib.hid (fun W (hW : Below w.heap.size w W) => (hW.cell hbl).trans c2)
      subst hsa
      have HX := Lib.hid (fun (h0 : skp K l[i].to = true) => show ∀ j (hj : j < l.length), j < i + 1 → skp K l[j].to = true from fun j hj hji => by
        rcases Nat.lt_succ_iff_lt_or_eq.1 hji with h | h
        · exact HA.out j hj h
        · subst h; exact h0)
      have HY := Lib.hid (fun (h0 : skp K l[i].to = false) => head_at (P := fun p => skp K p.to) hil h0 (fun j hj hji => HA.out j hj hji))
      have hi1 : i ≤ 1000 := by have := HL.out; have := HN.out; omega
      have HLT := Lib.hid hlt
      generalize l[i] = h at *
      clear hbl hil hlt c2 HA
      go_wp2
      go_loopw [7, 8] (fun v z wv => ∃ k : Nat, z = .int .i64 k ∧ v = .bool (skp (K.take k) h.to) ∧ k ≤ m ∧ Hid (Pp w wv)) (fun _ z _ => m - (intOf z).toNat)
      case atStart => exact ⟨0, rfl, rfl, Nat.zero_le _, HB⟩
      case round =>
        clear HB
        rename World => wv
        obtain ⟨k, rfl, rfl, hk, HV⟩ := hrel
        by_cases hkm : k < m
        · have hkl : k < K.length := by have := HM.out; omega
          have hkm' : (k : Int) < (m : Int) := by omega
          have k0 : (0 : Int) ≤ (k : Int) := by omega
          obtain ⟨b2, off2, hsb, hbl2, d0⟩ := HU.out.lies k hkl
          have q0 : ∀ (q : Of (fun W => Pp w W)), q.w.cell? ⟨b2, off2 + k, none⟩ = some (.int .u64 K[k]) := fun q => (q.ok.bel.cell hbl2).trans d0
          have q1 : ∀ (q : Of (fun W => Pp w W)), q.w.cell? ⟨b, off + i * 7 + 2, none⟩ = some (.int .u64 h.to) := fun q => HTO.out _ q.ok.bel
          subst hsb
          have HT := Lib.hid (skp_take hkl h.to)
          have hk1 : k ≤ 1000 := by have := HK.out; omega
          have HKM := Lib.hid hkm
          have _ne : Nonempty (Of (fun W => Pp w W)) := ⟨⟨_, HV.out⟩⟩
          generalize K[k] = q at *
          generalize skp (K.take k) h.to = sk at *
          clear hbl2 hkl hkm d0
          cases sk
          all_goals
            go_wp2
            refine wp_region_of (fun W => Pp w W) (by kernel_rfl) (Region.lexB_of_fast (by kernel_rfl)) (HV.out.keep ⟨rfl, rfl, rfl, Nat.le_refl _, fun _ _ => rfl⟩) ?_
            repeat (go_big_quiet_step (fail))
            refine wpQuiet_nil ?_
            rintro _ ⟨qq, rfl⟩
            have HV2 := Lib.hid qq.ok
            generalize qq.w = w5 at *
            clear q0 q1 _ne
            go_wp2
            go_roundw
            case rel => exact ⟨k + 1, by go_num, by rw [HT.out]; first | rfl | simp, HKM.out, HV2⟩
            case measure => have := HKM.out; simp [intOf]; omega
        · obtain rfl : k = m := by omega
          have HF : Hid (skp (K.take k) h.to = skp K h.to) := by show _ = _; rw [show K.take k = K by rw [← HM.out, List.take_length]]
          rw [HF.out]
          have ld := HLD.out _ HV.out.bel
          generalize skp K h.to = sk at *
          cases sk
          · have HZ := Lib.hid (HY.out rfl)
            obtain ⟨w4, e4, hb4, hbel4⟩ := HV.out.put h
            have HB4 := Lib.hid hb4
            have HE4 := Lib.hid hbel4
            clear hb4 hbel4
            go_wp2
            exact ret_it2 Try.results22 rfl rfl HB4.out rfl ⟨by rw [HZ.out]; rfl, HE4.out⟩
          · have HZ := Lib.hid (HX.out rfl)
            go_wp2
            go_roundw
            case rel => exact ⟨i + 1, by go_num, HLT.out, HZ, HV⟩
            case measure => have := HLT.out; simp [intOf]; omega
    · obtain rfl : i = n := by omega
      have HZ := Lib.hid (head_no (P := fun p => skp K p.to) (l := l) (fun j hj => HA.out j hj (by have := HN.out; omega)))
      obtain ⟨w4, e4, hb4, hbel4⟩ := HB.out.put zit
      have e4' : (Ix_.StoreF ⟨w.heap.size, 0, none⟩ (.agg #[.int .i64 0, .int .i64 0, .int .u64 0, .int .u64 0, .string ⟨#[]⟩, .int .i64 0, .int .i64 0])).run Try.prog wr = .ok () w4 := e4
      have HB4 := Lib.hid hb4
      have HE4 := Lib.hid hbel4
      clear hb4 hbel4 e4
      go_wp2
      exact ret_it2 Try.results22 rfl rfl HB4.out rfl ⟨by rw [HZ.out]; rfl, HE4.out⟩
end Go.Proofs.Ytaljdjabppiglaa
