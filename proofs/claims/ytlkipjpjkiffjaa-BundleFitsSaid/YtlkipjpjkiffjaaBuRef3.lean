/-
  WALKS of layer 16's reference: Octets, Encode.
-/
import Derived.Test.YtlkipjpjkiffjaaBuRef
import Derived.Test.YtlkipjpjkiffjaaBuEnc
import Derived.Deep.RegionHeld3
namespace Go.Proofs.Ytlkipjpjkiffjaa
open Go.RowKit Go.Bu Go.Wr Go.Ad Pk_

theorem conv16 (W : World) (g x y : Nat) (hx : x < 256) (hy : y < 256) (h0 : W.cell? ⟨g, 0, none⟩ = some (.int .u8 x)) (h1 : W.cell? ⟨g, 1, none⟩ = some (.int .u8 y)) :
    (convert 40 9 (.slice (some ⟨g, 0, none⟩) 2 2)).run Try.prog W = .ok (.string ⟨#[UInt8.ofNat x, UInt8.ofNat y]⟩) W :=
  run_convert_bytes_back (P := Try.prog) W 40 9 5 ⟨g, 0, none⟩ 2 [UInt8.ofNat x, UInt8.ofNat y] Try.underlying40 Try.underlying5 Try.underlying9 (fun j hj => by
    match j, hj with
    | 0, _ => rw [show (⟨g, 0, none⟩ : Addr).add 0 = ⟨g, 0, none⟩ from rfl, h0]; simp; omega
    | 1, _ => rw [show (⟨g, 0, none⟩ : Addr).add 1 = ⟨g, 1, none⟩ from rfl, h1]; simp; omega)
/-- A packet's copy at g, the two octets of its length at b (or nowhere yet), all else as it was. -/
structure Oc (w : World) (g : Nat) (p : Pk) (wi : World) : Prop where
  box : Box wi g p
  bel : Below w.heap.size w wi
theorem Oc.keep {w wi w' : World} {g : Nat} {p : Pk} (h : Oc w g p wi) (hb : Below wi.heap.size wi w') : Oc w g p w' :=
  ⟨h.box.below hb h.box.lt, h.bel.trans (hb.mono h.bel.size)⟩
theorem Oc.alloc {w wi : World} {g : Nat} {p : Pk} (h : Oc w g p wi) (o : Obj) : Oc w g p (wi.alloc o) := h.keep ((Below.refl _ _).alloc (Nat.le_refl _) _)
theorem Oc.drew {w wi : World} {g : Nat} {p : Pk} (h : Oc w g p wi) : Oc w g p wi.drew := ⟨h.box.drew, h.bel.drew⟩
theorem Oc.lim {w wi : World} {g : Nat} {p : Pk} (h : Oc w g p wi) : wi.cell? ⟨g, 0, none⟩ = some (.int .u64 p.to) ∧ wi.cell? ⟨g, 1, none⟩ = some (.int .u64 p.fr) ∧ wi.cell? ⟨g, 2, none⟩ = some (.string p.s) ∧ Oc w g p wi :=
  ⟨h.box.cells.1, h.box.cells.2.1, h.box.cells.2.2, h⟩
/-- Two octets at b. -/
def Tw (W : World) (b x y : Nat) : Prop := W.cell? ⟨b, 0, none⟩ = some (.int .u8 (x : Int)) ∧ W.cell? ⟨b, 1, none⟩ = some (.int .u8 (y : Int)) ∧ b < W.heap.size
theorem Tw.below {W W' : World} {b x y : Nat} (h : Tw W b x y) (hb : Below W.heap.size W W') : Tw W' b x y := ⟨(hb.cell h.2.2).trans h.1, (hb.cell h.2.2).trans h.2.1, Nat.lt_of_lt_of_le h.2.2 hb.size⟩
theorem Tw.new (W : World) (x y : Nat) : Tw (W.alloc (.cells #[.int .u8 (x : Int), .int .u8 (y : Int)] 5)) W.heap.size x y := ⟨by simp, by simp, by simp⟩
theorem Tw.drew {W : World} {b x y : Nat} (h : Tw W b x y) : Tw W.drew b x y := h

set_option maxRecDepth 100000 in
set_option maxHeartbeats 8000000 in
theorem r16Octets_any (l : List Pk) (sa : Option Addr) (c : Nat) (w : World) (h : At w sa l) (hz : sz l) (hc : chkL l = 0) :
    Calls Try.prog 25 #[.slice sa l.length c] w fun e w' => e = .returned (.string ⟨(oc l).toArray⟩) ∧ Below w.heap.size w w' := by
  have HA := Lib.hid h
  have HC := Lib.hid (chkL_ok.1 hc)
  have HL := Lib.hid fun k => ln_take_le hz k
  have HW := Lib.hid hz.2
  have hl : l.length ≤ 3000 := hz.1
  clear h hc hz
  go_enter Try.func25, Try.ntmps25
  go_wp2
  go_loopw [3, 4] (fun z i wr => ∃ k : Nat, k ≤ l.length ∧ i = .int .i64 k ∧ z = .string ⟨(oc (l.take k)).toArray⟩ ∧ Below w.heap.size w wr) (fun _ i _ => l.length - (intOf i).toNat)
  case atStart => exact ⟨0, Nat.zero_le _, rfl, rfl, Below.refl _ _⟩
  case round =>
    rename_i wr
    obtain ⟨k, hk, rfl, rfl, hb⟩ := hrel
    by_cases hlt : k < l.length
    · obtain ⟨b, off, rfl, hbl, c0, c1, c2⟩ := HA.out.below hb k hlt
      have HO := Lib.hid (oc_take hlt)
      have hn := HL.out k
      obtain ⟨ck1, ck2⟩ := chk_ok.1 (HC.out l[k] (List.getElem_mem hlt))
      have hpw := (HW.out l[k] (List.getElem_mem hlt)).2
      have hlen := oc_len (l.take k)
      have HLT := Lib.hid hlt
      obtain ⟨W0, hW0⟩ : ∃ W0, wr.alloc (.cells #[.int .u64 l[k].to, .int .u64 l[k].fr, .string l[k].s] 30) = W0 := ⟨_, rfl⟩
      have O0 : Hid (Oc w wr.heap.size l[k] W0) := by
        subst hW0
        exact ⟨Box.new wr l[k] rfl, hb.alloc hb.size _⟩
      have d0 := O0.out.box.cells
      generalize hp : l[k] = p at *
      have hsz : ((⟨(oc (l.take k)).toArray⟩ : ByteArray).size : Int) = (ln 0 (l.take k) : Nat) := by
        rw [← hlen]; exact congrArg Int.ofNat List.size_toArray
      have CP := Lib.hid fun w => r16Pad_any (ln 0 (l.take k)) w
      have CZ := Lib.hid fun w => r16Zeros_any (pad (ln 0 (l.take k))) w (pad_lt _)
      have CA1 : Hid (∀ w, Calls Try.prog 39 #[.int .u64 p.to] w fun e w' => e = .returned (.string ⟨(be p.to.toNat).toArray⟩) ∧ Below w.heap.size w w') := fun w => by
        have c := r10Address_any p.to.toNat w (by have := hpw.1; omega)
        rwa [Int.toNat_of_nonneg hpw.1.1] at c
      have CA2 : Hid (∀ w, Calls Try.prog 39 #[.int .u64 p.fr] w fun e w' => e = .returned (.string ⟨(be p.fr.toNat).toArray⟩) ∧ Below w.heap.size w w') := fun w => by
        have c := r10Address_any p.fr.toNat w (by have := hpw.2; omega)
        rwa [Int.toNat_of_nonneg hpw.2.1] at c
      obtain ⟨x, hx⟩ : ∃ x : Nat, x = p.s.size % 256 := ⟨_, rfl⟩
      obtain ⟨y, hy⟩ : ∃ y : Nat, y = p.s.size / 256 := ⟨_, rfl⟩
      have hx8 : x < 256 := by omega
      have hy8 : y < 256 := by omega
      have q1 : (p.s.size : Int).tmod 256 = x := by rw [Int.tmod_eq_emod_of_nonneg (by omega)]; omega
      have q2 : (p.s.size : Int).tdiv 256 = y := by rw [Int.tdiv_eq_ediv_of_nonneg (by omega)]; omega
      have u1 : IntKind.u8.wrap (x : Int) = x := (IntKind.wrap_u8 _).trans (by omega)
      have u2 : IntKind.u8.wrap (y : Int) = y := (IntKind.wrap_u8 _).trans (by omega)
      have v1 : IntKind.i64.wrap (x : Int) = x := IntWalk.i64_in _ (by omega)
      have v2 : IntKind.i64.wrap (y : Int) = y := IntWalk.i64_in _ (by omega)
      have hle : [UInt8.ofNat x, UInt8.ofNat y] = le p.s.size 2 := by
        rw [le, le, le, pow_zero, show pow 1 = 256 from by decide, hx, hy, Nat.div_one, Nat.mod_eq_of_lt (show p.s.size / 256 < 256 by omega)]; rfl
      have HCV : Hid (∀ (W : World) (g : Nat), Tw W g x y → (convert 40 9 (.slice (some ⟨g, 0, none⟩) 2 2)).run Try.prog W = .ok (.string ⟨(le p.s.size 2).toArray⟩) W) := fun W g h => by
        rw [← hle]; exact conv16 W g x y hx8 hy8 h.1 h.2.1
      have S0 : sub p = be p.to.toNat ++ (be p.fr.toNat ++ (le p.s.size 2 ++ p.s.data.toList)) := rfl
      rw [S0, ← List.append_assoc, ← List.append_assoc, ← List.append_assoc, ← List.append_assoc] at HO
      have hz := zs_len (pad (ln 0 (l.take k)))
      have hpl := pad_lt (ln 0 (l.take k))
      have b1 := be_len p.to.toNat
      have b2 := be_len p.fr.toNat
      have b3 := le_len p.s.size 2
      have ADD : ∀ s t : List UInt8, s.length + t.length ≤ 20000000 → ∀ W, (Op.stringOp .add ⟨s.toArray⟩ ⟨t.toArray⟩).run Try.prog W = .ok (.string ⟨(s ++ t).toArray⟩) W := fun s t h W => by
        have := run_string_add_sum (P := Try.prog) W ⟨s.toArray⟩ ⟨t.toArray⟩ (by simp [ByteArray.size]; omega)
        rw [this]
        congr 2
      have a1 := ADD (oc (l.take k)) (zs (pad (ln 0 (l.take k)))) (by omega)
      generalize hK0 : oc (l.take k) = K0 at *
      generalize ln 0 (l.take k) = n at *
      obtain ⟨K1, hK1⟩ : ∃ K, K = K0 ++ zs (pad n) := ⟨_, rfl⟩
      have a2 := ADD K1 (be p.to.toNat) (by rw [hK1, List.length_append]; omega)
      obtain ⟨K2, hK2⟩ : ∃ K, K = K1 ++ be p.to.toNat := ⟨_, rfl⟩
      have a3 := ADD K2 (be p.fr.toNat) (by rw [hK2, hK1, List.length_append, List.length_append]; omega)
      obtain ⟨K3, hK3⟩ : ∃ K, K = K2 ++ be p.fr.toNat := ⟨_, rfl⟩
      have a4 := ADD K3 (le p.s.size 2) (by rw [hK3, hK2, hK1, List.length_append, List.length_append, List.length_append]; omega)
      obtain ⟨K4, hK4⟩ : ∃ K, K = K3 ++ le p.s.size 2 := ⟨_, rfl⟩
      have hds : p.s.data.toList.length = p.s.size := Go.Bu.ba_len p.s
      have a5 := ADD K4 p.s.data.toList (by rw [hK4, hK3, hK2, hK1, List.length_append, List.length_append, List.length_append, List.length_append]; omega)
      obtain ⟨K5, hK5⟩ : ∃ K, K = K4 ++ p.s.data.toList := ⟨_, rfl⟩
      rw [ba_mk rfl, ← hK5] at a5
      rw [← hK4] at a4
      rw [← hK3] at a3
      rw [← hK2] at a2
      rw [← hK1] at a1
      rw [← hK1, ← hK2, ← hK3, ← hK4, ← hK5] at HO
      have HK0 := Lib.hid hK0
      generalize (⟨K0.toArray⟩ : ByteArray) = Y0 at *
      generalize (⟨K1.toArray⟩ : ByteArray) = Y1 at *
      generalize (⟨K2.toArray⟩ : ByteArray) = Y2 at *
      generalize (⟨K3.toArray⟩ : ByteArray) = Y3 at *
      generalize (⟨K4.toArray⟩ : ByteArray) = Y4 at *
      obtain ⟨Y5, hY5⟩ : ∃ Y : ByteArray, Y = ⟨K5.toArray⟩ := ⟨_, rfl⟩
      rw [← hY5] at a5
      have HY5 := Lib.hid hY5
      generalize (⟨(zs (pad n)).toArray⟩ : ByteArray) = Z at *
      generalize (⟨(be p.to.toNat).toArray⟩ : ByteArray) = AT at *
      generalize (⟨(be p.fr.toNat).toArray⟩ : ByteArray) = AF at *
      generalize (⟨(le p.s.size 2).toArray⟩ : ByteArray) = LE at *
      clear hK0 hK1 hK2 hK3 hK4 hK5 hY5 hz b1 b2 b3 S0 hle hds ADD hb hlen hp ck1 ck2 hpw hn hx hy
      have cv0 := HCV.out (W0.alloc (.cells #[.int .u8 (x : Int), .int .u8 (y : Int)] 5)).drew W0.heap.size (Tw.new W0 x y)
      go_wp2
      refine wp_region_held_drew (S := (fun w' => w'.cell? ⟨wr.heap.size, 0, none⟩ = some (.int .u64 p.to) ∧ w'.cell? ⟨wr.heap.size, 1, none⟩ = some (.int .u64 p.fr) ∧ w'.cell? ⟨wr.heap.size, 2, none⟩ = some (.string p.s) ∧ Oc w wr.heap.size p w')) (by kernel_rfl) ?_ (fun hHeld => ?_)
      · exact O0.out.drew.lim
      refine wpAnyH_take (i := 0) (oi := { dst := some 20, op := Op.move (Operand.tmp 3), type := 9, pos := "ref.go:38", after := #[], guard := none }) (v := ?v1) rfl (by kernel_rfl) (by kernel_rfl) (by kernel_rfl) (fun _ _ _ h => h) (Or.inl ⟨by rfl, ?y1⟩) hHeld ?r1
      case y1 => (intro w hSw; (try dsimp only at hSw); go_simp; try with_reducible rfl)
      try simp only [Act.put, List.setIfInBounds_toArray, List.set_cons_zero, List.set_cons_succ]
      refine wpAnyH_take (i := 1) (oi := { dst := some 21, op := Op.move (Operand.tmp 3), type := 9, pos := "ref.go:38", after := #[], guard := none }) (v := ?v2) rfl (by kernel_rfl) (by kernel_rfl) (by kernel_rfl) (fun _ _ _ h => h) (Or.inl ⟨by rfl, ?y2⟩) hHeld ?r2
      case y2 => (intro w hSw; (try dsimp only at hSw); go_simp; try with_reducible rfl)
      try simp only [Act.put, List.setIfInBounds_toArray, List.set_cons_zero, List.set_cons_succ]
      refine wpAnyH_take (i := 2) (oi := { dst := some 22, op := Op.call { callee := Callee.builtin Builtin.len, args := #[Operand.tmp 21], argTypes := #[9] }, type := 3, pos := "ref.go:38", after := #[{ on := 1, ground := Ground.data }], guard := none }) (v := ?v3) rfl (by kernel_rfl) (by kernel_rfl) (by kernel_rfl) (fun _ _ _ h => h) (Or.inl ⟨by rfl, ?y3⟩) hHeld ?r3
      case y3 => (intro w hSw; (try dsimp only at hSw); go_simp; try with_reducible rfl)
      try simp only [Act.put, List.setIfInBounds_toArray, List.set_cons_zero, List.set_cons_succ]
      refine wpAnyH_take (i := 6) (oi := { dst := some 26, op := Op.fieldAddr 30 (Operand.tmp 5) 0, type := 0, pos := "ref.go:38", after := #[], guard := none }) (v := ?v4) rfl (by kernel_rfl) (by kernel_rfl) (by kernel_rfl) (fun _ _ _ h => h) (Or.inl ⟨by rfl, ?y4⟩) hHeld ?r4
      case y4 => (intro w hSw; (try dsimp only at hSw); go_simp; try with_reducible rfl)
      try simp only [Act.put, List.setIfInBounds_toArray, List.set_cons_zero, List.set_cons_succ]
      refine wpAnyH_take (i := 7) (oi := { dst := some 27, op := Op.load 28 (Operand.tmp 26), type := 28, pos := "ref.go:38", after := #[{ on := 6, ground := Ground.data }], guard := none }) (v := ?v5) rfl (by kernel_rfl) (by kernel_rfl) (by kernel_rfl) (fun _ _ _ h => h) (Or.inl ⟨by rfl, ?y5⟩) hHeld ?r5
      case y5 => (intro w hSw; (try dsimp only at hSw); go_simp; try with_reducible rfl)
      try simp only [Act.put, List.setIfInBounds_toArray, List.set_cons_zero, List.set_cons_succ]
      refine wpAnyH_take (i := 10) (oi := { dst := some 30, op := Op.fieldAddr 30 (Operand.tmp 5) 1, type := 0, pos := "ref.go:38", after := #[], guard := none }) (v := ?v6) rfl (by kernel_rfl) (by kernel_rfl) (by kernel_rfl) (fun _ _ _ h => h) (Or.inl ⟨by rfl, ?y6⟩) hHeld ?r6
      case y6 => (intro w hSw; (try dsimp only at hSw); go_simp; try with_reducible rfl)
      try simp only [Act.put, List.setIfInBounds_toArray, List.set_cons_zero, List.set_cons_succ]
      refine wpAnyH_take (i := 11) (oi := { dst := some 31, op := Op.load 28 (Operand.tmp 30), type := 28, pos := "ref.go:38", after := #[{ on := 10, ground := Ground.data }], guard := none }) (v := ?v7) rfl (by kernel_rfl) (by kernel_rfl) (by kernel_rfl) (fun _ _ _ h => h) (Or.inl ⟨by rfl, ?y7⟩) hHeld ?r7
      case y7 => (intro w hSw; (try dsimp only at hSw); go_simp; try with_reducible rfl)
      try simp only [Act.put, List.setIfInBounds_toArray, List.set_cons_zero, List.set_cons_succ]
      refine wpAnyH_take (i := 14) (oi := { dst := some 34, op := Op.move (Operand.tmp 6), type := 3, pos := "ref.go:38", after := #[], guard := none }) (v := ?v8) rfl (by kernel_rfl) (by kernel_rfl) (by kernel_rfl) (fun _ _ _ h => h) (Or.inl ⟨by rfl, ?y8⟩) hHeld ?r8
      case y8 => (intro w hSw; (try dsimp only at hSw); go_simp; try with_reducible rfl)
      try simp only [Act.put, List.setIfInBounds_toArray, List.set_cons_zero, List.set_cons_succ]
      refine wpAnyH_take (i := 15) (oi := { dst := some 35, op := Op.binOp BinOp.rem 3 (Operand.tmp 34) (Operand.const (Value.int IntKind.i64 256)) 3, type := 3, pos := "ref.go:38", after := #[{ on := 14, ground := Ground.data }], guard := none }) (v := ?v9) rfl (by kernel_rfl) (by kernel_rfl) (by kernel_rfl) (fun _ _ _ h => h) (Or.inl ⟨by rfl, ?y9⟩) hHeld ?r9
      case y9 => (intro w hSw; (try dsimp only at hSw); go_simp; try with_reducible rfl)
      try simp only [Act.put, List.setIfInBounds_toArray, List.set_cons_zero, List.set_cons_succ]
      refine wpAnyH_take (i := 16) (oi := { dst := some 36, op := Op.convert 3 5 (Operand.tmp 35), type := 5, pos := "ref.go:38", after := #[{ on := 15, ground := Ground.data }], guard := none }) (v := ?v10) rfl (by kernel_rfl) (by kernel_rfl) (by kernel_rfl) (fun _ _ _ h => h) (Or.inl ⟨by rfl, ?y10⟩) hHeld ?r10
      case y10 => (intro w hSw; (try dsimp only at hSw); go_simp; try with_reducible rfl)
      try simp only [Act.put, List.setIfInBounds_toArray, List.set_cons_zero, List.set_cons_succ]
      refine wpAnyH_take (i := 17) (oi := { dst := some 37, op := Op.move (Operand.tmp 6), type := 3, pos := "ref.go:38", after := #[], guard := none }) (v := ?v11) rfl (by kernel_rfl) (by kernel_rfl) (by kernel_rfl) (fun _ _ _ h => h) (Or.inl ⟨by rfl, ?y11⟩) hHeld ?r11
      case y11 => (intro w hSw; (try dsimp only at hSw); go_simp; try with_reducible rfl)
      try simp only [Act.put, List.setIfInBounds_toArray, List.set_cons_zero, List.set_cons_succ]
      refine wpAnyH_take (i := 18) (oi := { dst := some 38, op := Op.binOp BinOp.quo 3 (Operand.tmp 37) (Operand.const (Value.int IntKind.i64 256)) 3, type := 3, pos := "ref.go:38", after := #[{ on := 17, ground := Ground.data }], guard := none }) (v := ?v12) rfl (by kernel_rfl) (by kernel_rfl) (by kernel_rfl) (fun _ _ _ h => h) (Or.inl ⟨by rfl, ?y12⟩) hHeld ?r12
      case y12 => (intro w hSw; (try dsimp only at hSw); go_simp; try with_reducible rfl)
      try simp only [Act.put, List.setIfInBounds_toArray, List.set_cons_zero, List.set_cons_succ]
      refine wpAnyH_take (i := 19) (oi := { dst := some 39, op := Op.convert 3 5 (Operand.tmp 38), type := 5, pos := "ref.go:38", after := #[{ on := 18, ground := Ground.data }], guard := none }) (v := ?v13) rfl (by kernel_rfl) (by kernel_rfl) (by kernel_rfl) (fun _ _ _ h => h) (Or.inl ⟨by rfl, ?y13⟩) hHeld ?r13
      case y13 => (intro w hSw; (try dsimp only at hSw); go_simp; try with_reducible rfl)
      try simp only [Act.put, List.setIfInBounds_toArray, List.set_cons_zero, List.set_cons_succ]
      refine wpAnyH_take (i := 23) (oi := { dst := some 43, op := Op.fieldAddr 30 (Operand.tmp 5) 2, type := 0, pos := "ref.go:38", after := #[], guard := none }) (v := ?v14) rfl (by kernel_rfl) (by kernel_rfl) (by kernel_rfl) (fun _ _ _ h => h) (Or.inl ⟨by rfl, ?y14⟩) hHeld ?r14
      case y14 => (intro w hSw; (try dsimp only at hSw); go_simp; try with_reducible rfl)
      try simp only [Act.put, List.setIfInBounds_toArray, List.set_cons_zero, List.set_cons_succ]
      refine wpAnyH_take (i := 24) (oi := { dst := some 44, op := Op.load 9 (Operand.tmp 43), type := 9, pos := "ref.go:38", after := #[{ on := 23, ground := Ground.data }], guard := none }) (v := ?v15) rfl (by kernel_rfl) (by kernel_rfl) (by kernel_rfl) (fun _ _ _ h => h) (Or.inl ⟨by rfl, ?y15⟩) hHeld ?r15
      case y15 => (intro w hSw; (try dsimp only at hSw); go_simp; try with_reducible rfl)
      try simp only [Act.put, List.setIfInBounds_toArray, List.set_cons_zero, List.set_cons_succ]
      refine wpAnyH_ready (rs := [3, 20]) (by kernel_rfl) (by simp) ?_
      refine AllReadyH.cons (o := { dst := some 23, op := Op.call { callee := Callee.value (Operand.func 32), args := #[Operand.tmp 22], argTypes := #[3] }, type := 3, pos := "ref.go:38", after := #[{ on := 2, ground := Ground.data }], guard := none }) rfl (fun K hK => ?_) ?_
      · clear hHeld
        go_simp
        refine (CP.out _).mono ?_
        rintro e w' ⟨rfl, rfl⟩
        try go_wp2_with fail
        refine hK.out _ _ ?_ (fun hHeld => ?_)
        · first | exact X2.out.lim | exact (X2.out.alloc _).lim | exact X1.out.lim | exact (X1.out.alloc _).lim | exact O0.out.drew.lim | exact (O0.out.alloc _).drew.lim
        clear hK K
        try simp only [Act.put, List.setIfInBounds_toArray, List.set_cons_zero, List.set_cons_succ]
        refine wpAnyH_ready (rs := [4, 20]) (by kernel_rfl) (by simp) ?_
        refine AllReadyH.cons (o := { dst := some 24, op := Op.call { callee := Callee.value (Operand.func 33), args := #[Operand.tmp 23], argTypes := #[3] }, type := 9, pos := "ref.go:38", after := #[{ on := 3, ground := Ground.data }, { on := 3, ground := Ground.chain }], guard := none }) rfl (fun K hK => ?_) ?_
        · clear hHeld
          go_simp
          refine (CZ.out _).mono ?_
          rintro e w' ⟨rfl, rfl⟩
          try go_wp2_with fail
          refine hK.out _ _ ?_ (fun hHeld => ?_)
          · first | exact X2.out.lim | exact (X2.out.alloc _).lim | exact X1.out.lim | exact (X1.out.alloc _).lim | exact O0.out.drew.lim | exact (O0.out.alloc _).drew.lim
          clear hK K
          try simp only [Act.put, List.setIfInBounds_toArray, List.set_cons_zero, List.set_cons_succ]
          refine wpAnyH_take (i := 5) (oi := { dst := some 25, op := Op.binOp BinOp.add 9 (Operand.tmp 20) (Operand.tmp 24) 9, type := 9, pos := "ref.go:38", after := #[{ on := 0, ground := Ground.data }, { on := 4, ground := Ground.data }], guard := none }) (v := ?v16) rfl (by kernel_rfl) (by kernel_rfl) (by kernel_rfl) (fun _ _ _ h => h) (Or.inl ⟨by rfl, ?y16⟩) hHeld ?r16
          case y16 => (intro w hSw; (try dsimp only at hSw); go_simp; try with_reducible rfl)
          try simp only [Act.put, List.setIfInBounds_toArray, List.set_cons_zero, List.set_cons_succ]
          refine wpAnyH_ready (rs := [8, 20]) (by kernel_rfl) (by simp) ?_
          refine AllReadyH.cons (o := { dst := some 28, op := Op.call { callee := Callee.value (Operand.func 39), args := #[Operand.tmp 27], argTypes := #[28] }, type := 9, pos := "ref.go:38", after := #[{ on := 7, ground := Ground.data }, { on := 4, ground := Ground.chain }], guard := none }) rfl (fun K hK => ?_) ?_
          · clear hHeld
            go_simp
            refine (CA1.out _).mono ?_
            rintro e w1 ⟨rfl, hb1⟩
            have X1 := Lib.hid (show Oc w wr.heap.size p w1 from Oc.keep (by first | exact O0.out.drew | exact (O0.out.alloc _).drew) hb1)
            have cvA1 := HCV.out (w1.alloc (.cells #[.int .u8 (x : Int), .int .u8 (y : Int)] 5)) w1.heap.size (Tw.new w1 x y)
            first | (have t1 := Lib.hid (Tw.below (Tw.new W0 x y).drew hb1); have cvB1 := HCV.out w1 W0.heap.size t1.out) | skip
            clear hb1
            try go_wp2_with fail
            refine hK.out _ _ ?_ (fun hHeld => ?_)
            · first | exact X2.out.lim | exact (X2.out.alloc _).lim | exact X1.out.lim | exact (X1.out.alloc _).lim | exact O0.out.drew.lim | exact (O0.out.alloc _).drew.lim
            clear hK K
            try simp only [Act.put, List.setIfInBounds_toArray, List.set_cons_zero, List.set_cons_succ]
            refine wpAnyH_take (i := 9) (oi := { dst := some 29, op := Op.binOp BinOp.add 9 (Operand.tmp 25) (Operand.tmp 28) 9, type := 9, pos := "ref.go:38", after := #[{ on := 5, ground := Ground.data }, { on := 8, ground := Ground.data }], guard := none }) (v := ?v17) rfl (by kernel_rfl) (by kernel_rfl) (by kernel_rfl) (fun _ _ _ h => h) (Or.inl ⟨by rfl, ?y17⟩) hHeld ?r17
            case y17 => (intro w hSw; (try dsimp only at hSw); go_simp; try with_reducible rfl)
            try simp only [Act.put, List.setIfInBounds_toArray, List.set_cons_zero, List.set_cons_succ]
            refine wpAnyH_ready (rs := [12, 20]) (by kernel_rfl) (by simp) ?_
            refine AllReadyH.cons (o := { dst := some 32, op := Op.call { callee := Callee.value (Operand.func 39), args := #[Operand.tmp 31], argTypes := #[28] }, type := 9, pos := "ref.go:38", after := #[{ on := 11, ground := Ground.data }, { on := 8, ground := Ground.chain }], guard := none }) rfl (fun K hK => ?_) ?_
            · clear hHeld
              go_simp
              refine (CA2.out _).mono ?_
              rintro e w2 ⟨rfl, hb2⟩
              have X2 := Lib.hid (show Oc w wr.heap.size p w2 from Oc.keep (by first | exact X1.out | exact X1.out.alloc _) hb2)
              have cvA2 := HCV.out (w2.alloc (.cells #[.int .u8 (x : Int), .int .u8 (y : Int)] 5)) w2.heap.size (Tw.new w2 x y)
              first | (have t2 := Lib.hid (Tw.below (Tw.new w1 x y) hb2); have cvB2 := HCV.out w2 w1.heap.size t2.out) | (have t2 := Lib.hid (Tw.below t1.out hb2); have cvB2 := HCV.out w2 W0.heap.size t2.out) | skip
              clear hb2
              try go_wp2_with fail
              refine hK.out _ _ ?_ (fun hHeld => ?_)
              · first | exact X2.out.lim | exact (X2.out.alloc _).lim | exact X1.out.lim | exact (X1.out.alloc _).lim | exact O0.out.drew.lim | exact (O0.out.alloc _).drew.lim
              clear hK K
              try simp only [Act.put, List.setIfInBounds_toArray, List.set_cons_zero, List.set_cons_succ]
              refine wpAnyH_take (i := 13) (oi := { dst := some 33, op := Op.binOp BinOp.add 9 (Operand.tmp 29) (Operand.tmp 32) 9, type := 9, pos := "ref.go:38", after := #[{ on := 9, ground := Ground.data }, { on := 12, ground := Ground.data }], guard := none }) (v := ?v18) rfl (by kernel_rfl) (by kernel_rfl) (by kernel_rfl) (fun _ _ _ h => h) (Or.inl ⟨by rfl, ?y18⟩) hHeld ?r18
              case y18 => (intro w hSw; (try dsimp only at hSw); go_simp; try with_reducible rfl)
              try simp only [Act.put, List.setIfInBounds_toArray, List.set_cons_zero, List.set_cons_succ]
              refine wpAnyH_ready (rs := [20]) (by kernel_rfl) (by simp) ?_
              refine AllReadyH.cons (o := { dst := some 40, op := Op.buildSlice 40 2 #[(0, Operand.tmp 36), (1, Operand.tmp 39)], type := 40, pos := "ref.go:38", after := #[{ on := 16, ground := Ground.data }, { on := 19, ground := Ground.data }], guard := none }) rfl (fun K hK => ?_) ?_
              · clear hHeld
                go_simp
                refine hK.out _ _ ?_ (fun hHeld => ?_)
                · first | exact X2.out.lim | exact (X2.out.alloc _).lim | exact X1.out.lim | exact (X1.out.alloc _).lim | exact O0.out.drew.lim | exact (O0.out.alloc _).drew.lim
                clear hK K
                try simp only [Act.put, List.setIfInBounds_toArray, List.set_cons_zero, List.set_cons_succ]
                refine wpAnyH_ready (rs := [21]) (by kernel_rfl) (by simp) ?_
                refine AllReadyH.cons (o := { dst := some 41, op := Op.convert 40 9 (Operand.tmp 40), type := 9, pos := "ref.go:38", after := #[{ on := 20, ground := Ground.data }], guard := none }) rfl (fun K hK => ?_) ?_
                · clear hHeld
                  go_simp
                  refine hK.out _ _ ?_ (fun hHeld => ?_)
                  · first | exact X2.out.lim | exact (X2.out.alloc _).lim | exact X1.out.lim | exact (X1.out.alloc _).lim | exact O0.out.drew.lim | exact (O0.out.alloc _).drew.lim
                  clear hK K
                  try simp only [Act.put, List.setIfInBounds_toArray, List.set_cons_zero, List.set_cons_succ]
                  refine wpAnyH_take (i := 22) (oi := { dst := some 42, op := Op.binOp BinOp.add 9 (Operand.tmp 33) (Operand.tmp 41) 9, type := 9, pos := "ref.go:38", after := #[{ on := 13, ground := Ground.data }, { on := 21, ground := Ground.data }], guard := none }) (v := ?v19) rfl (by kernel_rfl) (by kernel_rfl) (by kernel_rfl) (fun _ _ _ h => h) (Or.inl ⟨by rfl, ?y19⟩) hHeld ?r19
                  case y19 => (intro w hSw; (try dsimp only at hSw); go_simp; try with_reducible rfl)
                  try simp only [Act.put, List.setIfInBounds_toArray, List.set_cons_zero, List.set_cons_succ]
                  refine wpAnyH_take (i := 25) (oi := { dst := some 45, op := Op.binOp BinOp.add 9 (Operand.tmp 42) (Operand.tmp 44) 9, type := 9, pos := "ref.go:38", after := #[{ on := 22, ground := Ground.data }, { on := 24, ground := Ground.data }], guard := none }) (v := ?v20) rfl (by kernel_rfl) (by kernel_rfl) (by kernel_rfl) (fun _ _ _ h => h) (Or.inl ⟨by rfl, ?y20⟩) hHeld ?r20
                  case y20 => (intro w hSw; (try dsimp only at hSw); go_simp; try with_reducible rfl)
                  try simp only [Act.put, List.setIfInBounds_toArray, List.set_cons_zero, List.set_cons_succ]
                  refine wpAnyH_take (i := 26) (oi := { dst := some 3, op := Op.assign (Operand.tmp 45), type := 9, pos := "ref.go:38", after := #[{ on := 25, ground := Ground.data }, { on := 12, ground := Ground.chain }, { on := 0, ground := Ground.phase }, { on := 1, ground := Ground.phase }, { on := 2, ground := Ground.phase }, { on := 3, ground := Ground.phase }, { on := 4, ground := Ground.phase }, { on := 5, ground := Ground.phase }, { on := 6, ground := Ground.phase }, { on := 7, ground := Ground.phase }, { on := 8, ground := Ground.phase }, { on := 9, ground := Ground.phase }, { on := 10, ground := Ground.phase }, { on := 11, ground := Ground.phase }, { on := 12, ground := Ground.phase }, { on := 13, ground := Ground.phase }, { on := 14, ground := Ground.phase }, { on := 15, ground := Ground.phase }, { on := 16, ground := Ground.phase }, { on := 17, ground := Ground.phase }, { on := 18, ground := Ground.phase }, { on := 19, ground := Ground.phase }, { on := 20, ground := Ground.phase }, { on := 21, ground := Ground.phase }, { on := 22, ground := Ground.phase }, { on := 23, ground := Ground.phase }, { on := 24, ground := Ground.phase }, { on := 25, ground := Ground.phase }], guard := none }) (v := ?v21) rfl (by kernel_rfl) (by kernel_rfl) (by kernel_rfl) (fun _ _ _ h => h) (Or.inl ⟨by rfl, ?y21⟩) hHeld ?r21
                  case y21 => (intro w hSw; (try dsimp only at hSw); go_simp; try with_reducible rfl)
                  try simp only [Act.put, List.setIfInBounds_toArray, List.set_cons_zero, List.set_cons_succ]
                  refine wpAnyH_done (by kernel_rfl) ?_ _
                  go_wp2
                  go_roundw
                  · exact ⟨k + 1, HLT.out, by go_num, by rw [HO.out, HY5.out], by first | exact X2.out.bel | exact (X2.out.alloc _).bel⟩
                  · have := HLT.out; simp [intOf]; omega
                exact AllReadyH.nil
              exact AllReadyH.nil
            refine AllReadyH.cons (o := { dst := some 40, op := Op.buildSlice 40 2 #[(0, Operand.tmp 36), (1, Operand.tmp 39)], type := 40, pos := "ref.go:38", after := #[{ on := 16, ground := Ground.data }, { on := 19, ground := Ground.data }], guard := none }) rfl (fun K hK => ?_) ?_
            · clear hHeld
              go_simp
              refine hK.out _ _ ?_ (fun hHeld => ?_)
              · first | exact X2.out.lim | exact (X2.out.alloc _).lim | exact X1.out.lim | exact (X1.out.alloc _).lim | exact O0.out.drew.lim | exact (O0.out.alloc _).drew.lim
              clear hK K
              try simp only [Act.put, List.setIfInBounds_toArray, List.set_cons_zero, List.set_cons_succ]
              refine wpAnyH_ready (rs := [12, 21]) (by kernel_rfl) (by simp) ?_
              refine AllReadyH.cons (o := { dst := some 32, op := Op.call { callee := Callee.value (Operand.func 39), args := #[Operand.tmp 31], argTypes := #[28] }, type := 9, pos := "ref.go:38", after := #[{ on := 11, ground := Ground.data }, { on := 8, ground := Ground.chain }], guard := none }) rfl (fun K hK => ?_) ?_
              · clear hHeld
                go_simp
                refine (CA2.out _).mono ?_
                rintro e w2 ⟨rfl, hb2⟩
                have X2 := Lib.hid (show Oc w wr.heap.size p w2 from Oc.keep (by first | exact X1.out | exact X1.out.alloc _) hb2)
                have cvA2 := HCV.out (w2.alloc (.cells #[.int .u8 (x : Int), .int .u8 (y : Int)] 5)) w2.heap.size (Tw.new w2 x y)
                first | (have t2 := Lib.hid (Tw.below (Tw.new w1 x y) hb2); have cvB2 := HCV.out w2 w1.heap.size t2.out) | (have t2 := Lib.hid (Tw.below t1.out hb2); have cvB2 := HCV.out w2 W0.heap.size t2.out) | skip
                clear hb2
                try go_wp2_with fail
                refine hK.out _ _ ?_ (fun hHeld => ?_)
                · first | exact X2.out.lim | exact (X2.out.alloc _).lim | exact X1.out.lim | exact (X1.out.alloc _).lim | exact O0.out.drew.lim | exact (O0.out.alloc _).drew.lim
                clear hK K
                try simp only [Act.put, List.setIfInBounds_toArray, List.set_cons_zero, List.set_cons_succ]
                refine wpAnyH_take (i := 13) (oi := { dst := some 33, op := Op.binOp BinOp.add 9 (Operand.tmp 29) (Operand.tmp 32) 9, type := 9, pos := "ref.go:38", after := #[{ on := 9, ground := Ground.data }, { on := 12, ground := Ground.data }], guard := none }) (v := ?v22) rfl (by kernel_rfl) (by kernel_rfl) (by kernel_rfl) (fun _ _ _ h => h) (Or.inl ⟨by rfl, ?y22⟩) hHeld ?r22
                case y22 => (intro w hSw; (try dsimp only at hSw); go_simp; try with_reducible rfl)
                try simp only [Act.put, List.setIfInBounds_toArray, List.set_cons_zero, List.set_cons_succ]
                refine wpAnyH_ready (rs := [21]) (by kernel_rfl) (by simp) ?_
                refine AllReadyH.cons (o := { dst := some 41, op := Op.convert 40 9 (Operand.tmp 40), type := 9, pos := "ref.go:38", after := #[{ on := 20, ground := Ground.data }], guard := none }) rfl (fun K hK => ?_) ?_
                · clear hHeld
                  go_simp
                  refine hK.out _ _ ?_ (fun hHeld => ?_)
                  · first | exact X2.out.lim | exact (X2.out.alloc _).lim | exact X1.out.lim | exact (X1.out.alloc _).lim | exact O0.out.drew.lim | exact (O0.out.alloc _).drew.lim
                  clear hK K
                  try simp only [Act.put, List.setIfInBounds_toArray, List.set_cons_zero, List.set_cons_succ]
                  refine wpAnyH_take (i := 22) (oi := { dst := some 42, op := Op.binOp BinOp.add 9 (Operand.tmp 33) (Operand.tmp 41) 9, type := 9, pos := "ref.go:38", after := #[{ on := 13, ground := Ground.data }, { on := 21, ground := Ground.data }], guard := none }) (v := ?v23) rfl (by kernel_rfl) (by kernel_rfl) (by kernel_rfl) (fun _ _ _ h => h) (Or.inl ⟨by rfl, ?y23⟩) hHeld ?r23
                  case y23 => (intro w hSw; (try dsimp only at hSw); go_simp; try with_reducible rfl)
                  try simp only [Act.put, List.setIfInBounds_toArray, List.set_cons_zero, List.set_cons_succ]
                  refine wpAnyH_take (i := 25) (oi := { dst := some 45, op := Op.binOp BinOp.add 9 (Operand.tmp 42) (Operand.tmp 44) 9, type := 9, pos := "ref.go:38", after := #[{ on := 22, ground := Ground.data }, { on := 24, ground := Ground.data }], guard := none }) (v := ?v24) rfl (by kernel_rfl) (by kernel_rfl) (by kernel_rfl) (fun _ _ _ h => h) (Or.inl ⟨by rfl, ?y24⟩) hHeld ?r24
                  case y24 => (intro w hSw; (try dsimp only at hSw); go_simp; try with_reducible rfl)
                  try simp only [Act.put, List.setIfInBounds_toArray, List.set_cons_zero, List.set_cons_succ]
                  refine wpAnyH_take (i := 26) (oi := { dst := some 3, op := Op.assign (Operand.tmp 45), type := 9, pos := "ref.go:38", after := #[{ on := 25, ground := Ground.data }, { on := 12, ground := Ground.chain }, { on := 0, ground := Ground.phase }, { on := 1, ground := Ground.phase }, { on := 2, ground := Ground.phase }, { on := 3, ground := Ground.phase }, { on := 4, ground := Ground.phase }, { on := 5, ground := Ground.phase }, { on := 6, ground := Ground.phase }, { on := 7, ground := Ground.phase }, { on := 8, ground := Ground.phase }, { on := 9, ground := Ground.phase }, { on := 10, ground := Ground.phase }, { on := 11, ground := Ground.phase }, { on := 12, ground := Ground.phase }, { on := 13, ground := Ground.phase }, { on := 14, ground := Ground.phase }, { on := 15, ground := Ground.phase }, { on := 16, ground := Ground.phase }, { on := 17, ground := Ground.phase }, { on := 18, ground := Ground.phase }, { on := 19, ground := Ground.phase }, { on := 20, ground := Ground.phase }, { on := 21, ground := Ground.phase }, { on := 22, ground := Ground.phase }, { on := 23, ground := Ground.phase }, { on := 24, ground := Ground.phase }, { on := 25, ground := Ground.phase }], guard := none }) (v := ?v25) rfl (by kernel_rfl) (by kernel_rfl) (by kernel_rfl) (fun _ _ _ h => h) (Or.inl ⟨by rfl, ?y25⟩) hHeld ?r25
                  case y25 => (intro w hSw; (try dsimp only at hSw); go_simp; try with_reducible rfl)
                  try simp only [Act.put, List.setIfInBounds_toArray, List.set_cons_zero, List.set_cons_succ]
                  refine wpAnyH_done (by kernel_rfl) ?_ _
                  go_wp2
                  go_roundw
                  · exact ⟨k + 1, HLT.out, by go_num, by rw [HO.out, HY5.out], by first | exact X2.out.bel | exact (X2.out.alloc _).bel⟩
                  · have := HLT.out; simp [intOf]; omega
                exact AllReadyH.nil
              refine AllReadyH.cons (o := { dst := some 41, op := Op.convert 40 9 (Operand.tmp 40), type := 9, pos := "ref.go:38", after := #[{ on := 20, ground := Ground.data }], guard := none }) rfl (fun K hK => ?_) ?_
              · clear hHeld
                go_simp
                refine hK.out _ _ ?_ (fun hHeld => ?_)
                · first | exact X2.out.lim | exact (X2.out.alloc _).lim | exact X1.out.lim | exact (X1.out.alloc _).lim | exact O0.out.drew.lim | exact (O0.out.alloc _).drew.lim
                clear hK K
                try simp only [Act.put, List.setIfInBounds_toArray, List.set_cons_zero, List.set_cons_succ]
                refine wpAnyH_ready (rs := [12]) (by kernel_rfl) (by simp) ?_
                refine AllReadyH.cons (o := { dst := some 32, op := Op.call { callee := Callee.value (Operand.func 39), args := #[Operand.tmp 31], argTypes := #[28] }, type := 9, pos := "ref.go:38", after := #[{ on := 11, ground := Ground.data }, { on := 8, ground := Ground.chain }], guard := none }) rfl (fun K hK => ?_) ?_
                · clear hHeld
                  go_simp
                  refine (CA2.out _).mono ?_
                  rintro e w2 ⟨rfl, hb2⟩
                  have X2 := Lib.hid (show Oc w wr.heap.size p w2 from Oc.keep (by first | exact X1.out | exact X1.out.alloc _) hb2)
                  have cvA2 := HCV.out (w2.alloc (.cells #[.int .u8 (x : Int), .int .u8 (y : Int)] 5)) w2.heap.size (Tw.new w2 x y)
                  first | (have t2 := Lib.hid (Tw.below (Tw.new w1 x y) hb2); have cvB2 := HCV.out w2 w1.heap.size t2.out) | (have t2 := Lib.hid (Tw.below t1.out hb2); have cvB2 := HCV.out w2 W0.heap.size t2.out) | skip
                  clear hb2
                  try go_wp2_with fail
                  refine hK.out _ _ ?_ (fun hHeld => ?_)
                  · first | exact X2.out.lim | exact (X2.out.alloc _).lim | exact X1.out.lim | exact (X1.out.alloc _).lim | exact O0.out.drew.lim | exact (O0.out.alloc _).drew.lim
                  clear hK K
                  try simp only [Act.put, List.setIfInBounds_toArray, List.set_cons_zero, List.set_cons_succ]
                  refine wpAnyH_take (i := 13) (oi := { dst := some 33, op := Op.binOp BinOp.add 9 (Operand.tmp 29) (Operand.tmp 32) 9, type := 9, pos := "ref.go:38", after := #[{ on := 9, ground := Ground.data }, { on := 12, ground := Ground.data }], guard := none }) (v := ?v26) rfl (by kernel_rfl) (by kernel_rfl) (by kernel_rfl) (fun _ _ _ h => h) (Or.inl ⟨by rfl, ?y26⟩) hHeld ?r26
                  case y26 => (intro w hSw; (try dsimp only at hSw); go_simp; try with_reducible rfl)
                  try simp only [Act.put, List.setIfInBounds_toArray, List.set_cons_zero, List.set_cons_succ]
                  refine wpAnyH_take (i := 22) (oi := { dst := some 42, op := Op.binOp BinOp.add 9 (Operand.tmp 33) (Operand.tmp 41) 9, type := 9, pos := "ref.go:38", after := #[{ on := 13, ground := Ground.data }, { on := 21, ground := Ground.data }], guard := none }) (v := ?v27) rfl (by kernel_rfl) (by kernel_rfl) (by kernel_rfl) (fun _ _ _ h => h) (Or.inl ⟨by rfl, ?y27⟩) hHeld ?r27
                  case y27 => (intro w hSw; (try dsimp only at hSw); go_simp; try with_reducible rfl)
                  try simp only [Act.put, List.setIfInBounds_toArray, List.set_cons_zero, List.set_cons_succ]
                  refine wpAnyH_take (i := 25) (oi := { dst := some 45, op := Op.binOp BinOp.add 9 (Operand.tmp 42) (Operand.tmp 44) 9, type := 9, pos := "ref.go:38", after := #[{ on := 22, ground := Ground.data }, { on := 24, ground := Ground.data }], guard := none }) (v := ?v28) rfl (by kernel_rfl) (by kernel_rfl) (by kernel_rfl) (fun _ _ _ h => h) (Or.inl ⟨by rfl, ?y28⟩) hHeld ?r28
                  case y28 => (intro w hSw; (try dsimp only at hSw); go_simp; try with_reducible rfl)
                  try simp only [Act.put, List.setIfInBounds_toArray, List.set_cons_zero, List.set_cons_succ]
                  refine wpAnyH_take (i := 26) (oi := { dst := some 3, op := Op.assign (Operand.tmp 45), type := 9, pos := "ref.go:38", after := #[{ on := 25, ground := Ground.data }, { on := 12, ground := Ground.chain }, { on := 0, ground := Ground.phase }, { on := 1, ground := Ground.phase }, { on := 2, ground := Ground.phase }, { on := 3, ground := Ground.phase }, { on := 4, ground := Ground.phase }, { on := 5, ground := Ground.phase }, { on := 6, ground := Ground.phase }, { on := 7, ground := Ground.phase }, { on := 8, ground := Ground.phase }, { on := 9, ground := Ground.phase }, { on := 10, ground := Ground.phase }, { on := 11, ground := Ground.phase }, { on := 12, ground := Ground.phase }, { on := 13, ground := Ground.phase }, { on := 14, ground := Ground.phase }, { on := 15, ground := Ground.phase }, { on := 16, ground := Ground.phase }, { on := 17, ground := Ground.phase }, { on := 18, ground := Ground.phase }, { on := 19, ground := Ground.phase }, { on := 20, ground := Ground.phase }, { on := 21, ground := Ground.phase }, { on := 22, ground := Ground.phase }, { on := 23, ground := Ground.phase }, { on := 24, ground := Ground.phase }, { on := 25, ground := Ground.phase }], guard := none }) (v := ?v29) rfl (by kernel_rfl) (by kernel_rfl) (by kernel_rfl) (fun _ _ _ h => h) (Or.inl ⟨by rfl, ?y29⟩) hHeld ?r29
                  case y29 => (intro w hSw; (try dsimp only at hSw); go_simp; try with_reducible rfl)
                  try simp only [Act.put, List.setIfInBounds_toArray, List.set_cons_zero, List.set_cons_succ]
                  refine wpAnyH_done (by kernel_rfl) ?_ _
                  go_wp2
                  go_roundw
                  · exact ⟨k + 1, HLT.out, by go_num, by rw [HO.out, HY5.out], by first | exact X2.out.bel | exact (X2.out.alloc _).bel⟩
                  · have := HLT.out; simp [intOf]; omega
                exact AllReadyH.nil
              exact AllReadyH.nil
            exact AllReadyH.nil
          refine AllReadyH.cons (o := { dst := some 40, op := Op.buildSlice 40 2 #[(0, Operand.tmp 36), (1, Operand.tmp 39)], type := 40, pos := "ref.go:38", after := #[{ on := 16, ground := Ground.data }, { on := 19, ground := Ground.data }], guard := none }) rfl (fun K hK => ?_) ?_
          · clear hHeld
            go_simp
            refine hK.out _ _ ?_ (fun hHeld => ?_)
            · first | exact X2.out.lim | exact (X2.out.alloc _).lim | exact X1.out.lim | exact (X1.out.alloc _).lim | exact O0.out.drew.lim | exact (O0.out.alloc _).drew.lim
            clear hK K
            try simp only [Act.put, List.setIfInBounds_toArray, List.set_cons_zero, List.set_cons_succ]
            refine wpAnyH_ready (rs := [8, 21]) (by kernel_rfl) (by simp) ?_
            refine AllReadyH.cons (o := { dst := some 28, op := Op.call { callee := Callee.value (Operand.func 39), args := #[Operand.tmp 27], argTypes := #[28] }, type := 9, pos := "ref.go:38", after := #[{ on := 7, ground := Ground.data }, { on := 4, ground := Ground.chain }], guard := none }) rfl (fun K hK => ?_) ?_
            · clear hHeld
              go_simp
              refine (CA1.out _).mono ?_
              rintro e w1 ⟨rfl, hb1⟩
              have X1 := Lib.hid (show Oc w wr.heap.size p w1 from Oc.keep (by first | exact O0.out.drew | exact (O0.out.alloc _).drew) hb1)
              have cvA1 := HCV.out (w1.alloc (.cells #[.int .u8 (x : Int), .int .u8 (y : Int)] 5)) w1.heap.size (Tw.new w1 x y)
              first | (have t1 := Lib.hid (Tw.below (Tw.new W0 x y).drew hb1); have cvB1 := HCV.out w1 W0.heap.size t1.out) | skip
              clear hb1
              try go_wp2_with fail
              refine hK.out _ _ ?_ (fun hHeld => ?_)
              · first | exact X2.out.lim | exact (X2.out.alloc _).lim | exact X1.out.lim | exact (X1.out.alloc _).lim | exact O0.out.drew.lim | exact (O0.out.alloc _).drew.lim
              clear hK K
              try simp only [Act.put, List.setIfInBounds_toArray, List.set_cons_zero, List.set_cons_succ]
              refine wpAnyH_take (i := 9) (oi := { dst := some 29, op := Op.binOp BinOp.add 9 (Operand.tmp 25) (Operand.tmp 28) 9, type := 9, pos := "ref.go:38", after := #[{ on := 5, ground := Ground.data }, { on := 8, ground := Ground.data }], guard := none }) (v := ?v30) rfl (by kernel_rfl) (by kernel_rfl) (by kernel_rfl) (fun _ _ _ h => h) (Or.inl ⟨by rfl, ?y30⟩) hHeld ?r30
              case y30 => (intro w hSw; (try dsimp only at hSw); go_simp; try with_reducible rfl)
              try simp only [Act.put, List.setIfInBounds_toArray, List.set_cons_zero, List.set_cons_succ]
              refine wpAnyH_ready (rs := [12, 21]) (by kernel_rfl) (by simp) ?_
              refine AllReadyH.cons (o := { dst := some 32, op := Op.call { callee := Callee.value (Operand.func 39), args := #[Operand.tmp 31], argTypes := #[28] }, type := 9, pos := "ref.go:38", after := #[{ on := 11, ground := Ground.data }, { on := 8, ground := Ground.chain }], guard := none }) rfl (fun K hK => ?_) ?_
              · clear hHeld
                go_simp
                refine (CA2.out _).mono ?_
                rintro e w2 ⟨rfl, hb2⟩
                have X2 := Lib.hid (show Oc w wr.heap.size p w2 from Oc.keep (by first | exact X1.out | exact X1.out.alloc _) hb2)
                have cvA2 := HCV.out (w2.alloc (.cells #[.int .u8 (x : Int), .int .u8 (y : Int)] 5)) w2.heap.size (Tw.new w2 x y)
                first | (have t2 := Lib.hid (Tw.below (Tw.new w1 x y) hb2); have cvB2 := HCV.out w2 w1.heap.size t2.out) | (have t2 := Lib.hid (Tw.below t1.out hb2); have cvB2 := HCV.out w2 W0.heap.size t2.out) | skip
                clear hb2
                try go_wp2_with fail
                refine hK.out _ _ ?_ (fun hHeld => ?_)
                · first | exact X2.out.lim | exact (X2.out.alloc _).lim | exact X1.out.lim | exact (X1.out.alloc _).lim | exact O0.out.drew.lim | exact (O0.out.alloc _).drew.lim
                clear hK K
                try simp only [Act.put, List.setIfInBounds_toArray, List.set_cons_zero, List.set_cons_succ]
                refine wpAnyH_take (i := 13) (oi := { dst := some 33, op := Op.binOp BinOp.add 9 (Operand.tmp 29) (Operand.tmp 32) 9, type := 9, pos := "ref.go:38", after := #[{ on := 9, ground := Ground.data }, { on := 12, ground := Ground.data }], guard := none }) (v := ?v31) rfl (by kernel_rfl) (by kernel_rfl) (by kernel_rfl) (fun _ _ _ h => h) (Or.inl ⟨by rfl, ?y31⟩) hHeld ?r31
                case y31 => (intro w hSw; (try dsimp only at hSw); go_simp; try with_reducible rfl)
                try simp only [Act.put, List.setIfInBounds_toArray, List.set_cons_zero, List.set_cons_succ]
                refine wpAnyH_ready (rs := [21]) (by kernel_rfl) (by simp) ?_
                refine AllReadyH.cons (o := { dst := some 41, op := Op.convert 40 9 (Operand.tmp 40), type := 9, pos := "ref.go:38", after := #[{ on := 20, ground := Ground.data }], guard := none }) rfl (fun K hK => ?_) ?_
                · clear hHeld
                  go_simp
                  refine hK.out _ _ ?_ (fun hHeld => ?_)
                  · first | exact X2.out.lim | exact (X2.out.alloc _).lim | exact X1.out.lim | exact (X1.out.alloc _).lim | exact O0.out.drew.lim | exact (O0.out.alloc _).drew.lim
                  clear hK K
                  try simp only [Act.put, List.setIfInBounds_toArray, List.set_cons_zero, List.set_cons_succ]
                  refine wpAnyH_take (i := 22) (oi := { dst := some 42, op := Op.binOp BinOp.add 9 (Operand.tmp 33) (Operand.tmp 41) 9, type := 9, pos := "ref.go:38", after := #[{ on := 13, ground := Ground.data }, { on := 21, ground := Ground.data }], guard := none }) (v := ?v32) rfl (by kernel_rfl) (by kernel_rfl) (by kernel_rfl) (fun _ _ _ h => h) (Or.inl ⟨by rfl, ?y32⟩) hHeld ?r32
                  case y32 => (intro w hSw; (try dsimp only at hSw); go_simp; try with_reducible rfl)
                  try simp only [Act.put, List.setIfInBounds_toArray, List.set_cons_zero, List.set_cons_succ]
                  refine wpAnyH_take (i := 25) (oi := { dst := some 45, op := Op.binOp BinOp.add 9 (Operand.tmp 42) (Operand.tmp 44) 9, type := 9, pos := "ref.go:38", after := #[{ on := 22, ground := Ground.data }, { on := 24, ground := Ground.data }], guard := none }) (v := ?v33) rfl (by kernel_rfl) (by kernel_rfl) (by kernel_rfl) (fun _ _ _ h => h) (Or.inl ⟨by rfl, ?y33⟩) hHeld ?r33
                  case y33 => (intro w hSw; (try dsimp only at hSw); go_simp; try with_reducible rfl)
                  try simp only [Act.put, List.setIfInBounds_toArray, List.set_cons_zero, List.set_cons_succ]
                  refine wpAnyH_take (i := 26) (oi := { dst := some 3, op := Op.assign (Operand.tmp 45), type := 9, pos := "ref.go:38", after := #[{ on := 25, ground := Ground.data }, { on := 12, ground := Ground.chain }, { on := 0, ground := Ground.phase }, { on := 1, ground := Ground.phase }, { on := 2, ground := Ground.phase }, { on := 3, ground := Ground.phase }, { on := 4, ground := Ground.phase }, { on := 5, ground := Ground.phase }, { on := 6, ground := Ground.phase }, { on := 7, ground := Ground.phase }, { on := 8, ground := Ground.phase }, { on := 9, ground := Ground.phase }, { on := 10, ground := Ground.phase }, { on := 11, ground := Ground.phase }, { on := 12, ground := Ground.phase }, { on := 13, ground := Ground.phase }, { on := 14, ground := Ground.phase }, { on := 15, ground := Ground.phase }, { on := 16, ground := Ground.phase }, { on := 17, ground := Ground.phase }, { on := 18, ground := Ground.phase }, { on := 19, ground := Ground.phase }, { on := 20, ground := Ground.phase }, { on := 21, ground := Ground.phase }, { on := 22, ground := Ground.phase }, { on := 23, ground := Ground.phase }, { on := 24, ground := Ground.phase }, { on := 25, ground := Ground.phase }], guard := none }) (v := ?v34) rfl (by kernel_rfl) (by kernel_rfl) (by kernel_rfl) (fun _ _ _ h => h) (Or.inl ⟨by rfl, ?y34⟩) hHeld ?r34
                  case y34 => (intro w hSw; (try dsimp only at hSw); go_simp; try with_reducible rfl)
                  try simp only [Act.put, List.setIfInBounds_toArray, List.set_cons_zero, List.set_cons_succ]
                  refine wpAnyH_done (by kernel_rfl) ?_ _
                  go_wp2
                  go_roundw
                  · exact ⟨k + 1, HLT.out, by go_num, by rw [HO.out, HY5.out], by first | exact X2.out.bel | exact (X2.out.alloc _).bel⟩
                  · have := HLT.out; simp [intOf]; omega
                exact AllReadyH.nil
              refine AllReadyH.cons (o := { dst := some 41, op := Op.convert 40 9 (Operand.tmp 40), type := 9, pos := "ref.go:38", after := #[{ on := 20, ground := Ground.data }], guard := none }) rfl (fun K hK => ?_) ?_
              · clear hHeld
                go_simp
                refine hK.out _ _ ?_ (fun hHeld => ?_)
                · first | exact X2.out.lim | exact (X2.out.alloc _).lim | exact X1.out.lim | exact (X1.out.alloc _).lim | exact O0.out.drew.lim | exact (O0.out.alloc _).drew.lim
                clear hK K
                try simp only [Act.put, List.setIfInBounds_toArray, List.set_cons_zero, List.set_cons_succ]
                refine wpAnyH_ready (rs := [12]) (by kernel_rfl) (by simp) ?_
                refine AllReadyH.cons (o := { dst := some 32, op := Op.call { callee := Callee.value (Operand.func 39), args := #[Operand.tmp 31], argTypes := #[28] }, type := 9, pos := "ref.go:38", after := #[{ on := 11, ground := Ground.data }, { on := 8, ground := Ground.chain }], guard := none }) rfl (fun K hK => ?_) ?_
                · clear hHeld
                  go_simp
                  refine (CA2.out _).mono ?_
                  rintro e w2 ⟨rfl, hb2⟩
                  have X2 := Lib.hid (show Oc w wr.heap.size p w2 from Oc.keep (by first | exact X1.out | exact X1.out.alloc _) hb2)
                  have cvA2 := HCV.out (w2.alloc (.cells #[.int .u8 (x : Int), .int .u8 (y : Int)] 5)) w2.heap.size (Tw.new w2 x y)
                  first | (have t2 := Lib.hid (Tw.below (Tw.new w1 x y) hb2); have cvB2 := HCV.out w2 w1.heap.size t2.out) | (have t2 := Lib.hid (Tw.below t1.out hb2); have cvB2 := HCV.out w2 W0.heap.size t2.out) | skip
                  clear hb2
                  try go_wp2_with fail
                  refine hK.out _ _ ?_ (fun hHeld => ?_)
                  · first | exact X2.out.lim | exact (X2.out.alloc _).lim | exact X1.out.lim | exact (X1.out.alloc _).lim | exact O0.out.drew.lim | exact (O0.out.alloc _).drew.lim
                  clear hK K
                  try simp only [Act.put, List.setIfInBounds_toArray, List.set_cons_zero, List.set_cons_succ]
                  refine wpAnyH_take (i := 13) (oi := { dst := some 33, op := Op.binOp BinOp.add 9 (Operand.tmp 29) (Operand.tmp 32) 9, type := 9, pos := "ref.go:38", after := #[{ on := 9, ground := Ground.data }, { on := 12, ground := Ground.data }], guard := none }) (v := ?v35) rfl (by kernel_rfl) (by kernel_rfl) (by kernel_rfl) (fun _ _ _ h => h) (Or.inl ⟨by rfl, ?y35⟩) hHeld ?r35
                  case y35 => (intro w hSw; (try dsimp only at hSw); go_simp; try with_reducible rfl)
                  try simp only [Act.put, List.setIfInBounds_toArray, List.set_cons_zero, List.set_cons_succ]
                  refine wpAnyH_take (i := 22) (oi := { dst := some 42, op := Op.binOp BinOp.add 9 (Operand.tmp 33) (Operand.tmp 41) 9, type := 9, pos := "ref.go:38", after := #[{ on := 13, ground := Ground.data }, { on := 21, ground := Ground.data }], guard := none }) (v := ?v36) rfl (by kernel_rfl) (by kernel_rfl) (by kernel_rfl) (fun _ _ _ h => h) (Or.inl ⟨by rfl, ?y36⟩) hHeld ?r36
                  case y36 => (intro w hSw; (try dsimp only at hSw); go_simp; try with_reducible rfl)
                  try simp only [Act.put, List.setIfInBounds_toArray, List.set_cons_zero, List.set_cons_succ]
                  refine wpAnyH_take (i := 25) (oi := { dst := some 45, op := Op.binOp BinOp.add 9 (Operand.tmp 42) (Operand.tmp 44) 9, type := 9, pos := "ref.go:38", after := #[{ on := 22, ground := Ground.data }, { on := 24, ground := Ground.data }], guard := none }) (v := ?v37) rfl (by kernel_rfl) (by kernel_rfl) (by kernel_rfl) (fun _ _ _ h => h) (Or.inl ⟨by rfl, ?y37⟩) hHeld ?r37
                  case y37 => (intro w hSw; (try dsimp only at hSw); go_simp; try with_reducible rfl)
                  try simp only [Act.put, List.setIfInBounds_toArray, List.set_cons_zero, List.set_cons_succ]
                  refine wpAnyH_take (i := 26) (oi := { dst := some 3, op := Op.assign (Operand.tmp 45), type := 9, pos := "ref.go:38", after := #[{ on := 25, ground := Ground.data }, { on := 12, ground := Ground.chain }, { on := 0, ground := Ground.phase }, { on := 1, ground := Ground.phase }, { on := 2, ground := Ground.phase }, { on := 3, ground := Ground.phase }, { on := 4, ground := Ground.phase }, { on := 5, ground := Ground.phase }, { on := 6, ground := Ground.phase }, { on := 7, ground := Ground.phase }, { on := 8, ground := Ground.phase }, { on := 9, ground := Ground.phase }, { on := 10, ground := Ground.phase }, { on := 11, ground := Ground.phase }, { on := 12, ground := Ground.phase }, { on := 13, ground := Ground.phase }, { on := 14, ground := Ground.phase }, { on := 15, ground := Ground.phase }, { on := 16, ground := Ground.phase }, { on := 17, ground := Ground.phase }, { on := 18, ground := Ground.phase }, { on := 19, ground := Ground.phase }, { on := 20, ground := Ground.phase }, { on := 21, ground := Ground.phase }, { on := 22, ground := Ground.phase }, { on := 23, ground := Ground.phase }, { on := 24, ground := Ground.phase }, { on := 25, ground := Ground.phase }], guard := none }) (v := ?v38) rfl (by kernel_rfl) (by kernel_rfl) (by kernel_rfl) (fun _ _ _ h => h) (Or.inl ⟨by rfl, ?y38⟩) hHeld ?r38
                  case y38 => (intro w hSw; (try dsimp only at hSw); go_simp; try with_reducible rfl)
                  try simp only [Act.put, List.setIfInBounds_toArray, List.set_cons_zero, List.set_cons_succ]
                  refine wpAnyH_done (by kernel_rfl) ?_ _
                  go_wp2
                  go_roundw
                  · exact ⟨k + 1, HLT.out, by go_num, by rw [HO.out, HY5.out], by first | exact X2.out.bel | exact (X2.out.alloc _).bel⟩
                  · have := HLT.out; simp [intOf]; omega
                exact AllReadyH.nil
              exact AllReadyH.nil
            refine AllReadyH.cons (o := { dst := some 41, op := Op.convert 40 9 (Operand.tmp 40), type := 9, pos := "ref.go:38", after := #[{ on := 20, ground := Ground.data }], guard := none }) rfl (fun K hK => ?_) ?_
            · clear hHeld
              go_simp
              refine hK.out _ _ ?_ (fun hHeld => ?_)
              · first | exact X2.out.lim | exact (X2.out.alloc _).lim | exact X1.out.lim | exact (X1.out.alloc _).lim | exact O0.out.drew.lim | exact (O0.out.alloc _).drew.lim
              clear hK K
              try simp only [Act.put, List.setIfInBounds_toArray, List.set_cons_zero, List.set_cons_succ]
              refine wpAnyH_ready (rs := [8]) (by kernel_rfl) (by simp) ?_
              refine AllReadyH.cons (o := { dst := some 28, op := Op.call { callee := Callee.value (Operand.func 39), args := #[Operand.tmp 27], argTypes := #[28] }, type := 9, pos := "ref.go:38", after := #[{ on := 7, ground := Ground.data }, { on := 4, ground := Ground.chain }], guard := none }) rfl (fun K hK => ?_) ?_
              · clear hHeld
                go_simp
                refine (CA1.out _).mono ?_
                rintro e w1 ⟨rfl, hb1⟩
                have X1 := Lib.hid (show Oc w wr.heap.size p w1 from Oc.keep (by first | exact O0.out.drew | exact (O0.out.alloc _).drew) hb1)
                have cvA1 := HCV.out (w1.alloc (.cells #[.int .u8 (x : Int), .int .u8 (y : Int)] 5)) w1.heap.size (Tw.new w1 x y)
                first | (have t1 := Lib.hid (Tw.below (Tw.new W0 x y).drew hb1); have cvB1 := HCV.out w1 W0.heap.size t1.out) | skip
                clear hb1
                try go_wp2_with fail
                refine hK.out _ _ ?_ (fun hHeld => ?_)
                · first | exact X2.out.lim | exact (X2.out.alloc _).lim | exact X1.out.lim | exact (X1.out.alloc _).lim | exact O0.out.drew.lim | exact (O0.out.alloc _).drew.lim
                clear hK K
                try simp only [Act.put, List.setIfInBounds_toArray, List.set_cons_zero, List.set_cons_succ]
                refine wpAnyH_take (i := 9) (oi := { dst := some 29, op := Op.binOp BinOp.add 9 (Operand.tmp 25) (Operand.tmp 28) 9, type := 9, pos := "ref.go:38", after := #[{ on := 5, ground := Ground.data }, { on := 8, ground := Ground.data }], guard := none }) (v := ?v39) rfl (by kernel_rfl) (by kernel_rfl) (by kernel_rfl) (fun _ _ _ h => h) (Or.inl ⟨by rfl, ?y39⟩) hHeld ?r39
                case y39 => (intro w hSw; (try dsimp only at hSw); go_simp; try with_reducible rfl)
                try simp only [Act.put, List.setIfInBounds_toArray, List.set_cons_zero, List.set_cons_succ]
                refine wpAnyH_ready (rs := [12]) (by kernel_rfl) (by simp) ?_
                refine AllReadyH.cons (o := { dst := some 32, op := Op.call { callee := Callee.value (Operand.func 39), args := #[Operand.tmp 31], argTypes := #[28] }, type := 9, pos := "ref.go:38", after := #[{ on := 11, ground := Ground.data }, { on := 8, ground := Ground.chain }], guard := none }) rfl (fun K hK => ?_) ?_
                · clear hHeld
                  go_simp
                  refine (CA2.out _).mono ?_
                  rintro e w2 ⟨rfl, hb2⟩
                  have X2 := Lib.hid (show Oc w wr.heap.size p w2 from Oc.keep (by first | exact X1.out | exact X1.out.alloc _) hb2)
                  have cvA2 := HCV.out (w2.alloc (.cells #[.int .u8 (x : Int), .int .u8 (y : Int)] 5)) w2.heap.size (Tw.new w2 x y)
                  first | (have t2 := Lib.hid (Tw.below (Tw.new w1 x y) hb2); have cvB2 := HCV.out w2 w1.heap.size t2.out) | (have t2 := Lib.hid (Tw.below t1.out hb2); have cvB2 := HCV.out w2 W0.heap.size t2.out) | skip
                  clear hb2
                  try go_wp2_with fail
                  refine hK.out _ _ ?_ (fun hHeld => ?_)
                  · first | exact X2.out.lim | exact (X2.out.alloc _).lim | exact X1.out.lim | exact (X1.out.alloc _).lim | exact O0.out.drew.lim | exact (O0.out.alloc _).drew.lim
                  clear hK K
                  try simp only [Act.put, List.setIfInBounds_toArray, List.set_cons_zero, List.set_cons_succ]
                  refine wpAnyH_take (i := 13) (oi := { dst := some 33, op := Op.binOp BinOp.add 9 (Operand.tmp 29) (Operand.tmp 32) 9, type := 9, pos := "ref.go:38", after := #[{ on := 9, ground := Ground.data }, { on := 12, ground := Ground.data }], guard := none }) (v := ?v40) rfl (by kernel_rfl) (by kernel_rfl) (by kernel_rfl) (fun _ _ _ h => h) (Or.inl ⟨by rfl, ?y40⟩) hHeld ?r40
                  case y40 => (intro w hSw; (try dsimp only at hSw); go_simp; try with_reducible rfl)
                  try simp only [Act.put, List.setIfInBounds_toArray, List.set_cons_zero, List.set_cons_succ]
                  refine wpAnyH_take (i := 22) (oi := { dst := some 42, op := Op.binOp BinOp.add 9 (Operand.tmp 33) (Operand.tmp 41) 9, type := 9, pos := "ref.go:38", after := #[{ on := 13, ground := Ground.data }, { on := 21, ground := Ground.data }], guard := none }) (v := ?v41) rfl (by kernel_rfl) (by kernel_rfl) (by kernel_rfl) (fun _ _ _ h => h) (Or.inl ⟨by rfl, ?y41⟩) hHeld ?r41
                  case y41 => (intro w hSw; (try dsimp only at hSw); go_simp; try with_reducible rfl)
                  try simp only [Act.put, List.setIfInBounds_toArray, List.set_cons_zero, List.set_cons_succ]
                  refine wpAnyH_take (i := 25) (oi := { dst := some 45, op := Op.binOp BinOp.add 9 (Operand.tmp 42) (Operand.tmp 44) 9, type := 9, pos := "ref.go:38", after := #[{ on := 22, ground := Ground.data }, { on := 24, ground := Ground.data }], guard := none }) (v := ?v42) rfl (by kernel_rfl) (by kernel_rfl) (by kernel_rfl) (fun _ _ _ h => h) (Or.inl ⟨by rfl, ?y42⟩) hHeld ?r42
                  case y42 => (intro w hSw; (try dsimp only at hSw); go_simp; try with_reducible rfl)
                  try simp only [Act.put, List.setIfInBounds_toArray, List.set_cons_zero, List.set_cons_succ]
                  refine wpAnyH_take (i := 26) (oi := { dst := some 3, op := Op.assign (Operand.tmp 45), type := 9, pos := "ref.go:38", after := #[{ on := 25, ground := Ground.data }, { on := 12, ground := Ground.chain }, { on := 0, ground := Ground.phase }, { on := 1, ground := Ground.phase }, { on := 2, ground := Ground.phase }, { on := 3, ground := Ground.phase }, { on := 4, ground := Ground.phase }, { on := 5, ground := Ground.phase }, { on := 6, ground := Ground.phase }, { on := 7, ground := Ground.phase }, { on := 8, ground := Ground.phase }, { on := 9, ground := Ground.phase }, { on := 10, ground := Ground.phase }, { on := 11, ground := Ground.phase }, { on := 12, ground := Ground.phase }, { on := 13, ground := Ground.phase }, { on := 14, ground := Ground.phase }, { on := 15, ground := Ground.phase }, { on := 16, ground := Ground.phase }, { on := 17, ground := Ground.phase }, { on := 18, ground := Ground.phase }, { on := 19, ground := Ground.phase }, { on := 20, ground := Ground.phase }, { on := 21, ground := Ground.phase }, { on := 22, ground := Ground.phase }, { on := 23, ground := Ground.phase }, { on := 24, ground := Ground.phase }, { on := 25, ground := Ground.phase }], guard := none }) (v := ?v43) rfl (by kernel_rfl) (by kernel_rfl) (by kernel_rfl) (fun _ _ _ h => h) (Or.inl ⟨by rfl, ?y43⟩) hHeld ?r43
                  case y43 => (intro w hSw; (try dsimp only at hSw); go_simp; try with_reducible rfl)
                  try simp only [Act.put, List.setIfInBounds_toArray, List.set_cons_zero, List.set_cons_succ]
                  refine wpAnyH_done (by kernel_rfl) ?_ _
                  go_wp2
                  go_roundw
                  · exact ⟨k + 1, HLT.out, by go_num, by rw [HO.out, HY5.out], by first | exact X2.out.bel | exact (X2.out.alloc _).bel⟩
                  · have := HLT.out; simp [intOf]; omega
                exact AllReadyH.nil
              exact AllReadyH.nil
            exact AllReadyH.nil
          exact AllReadyH.nil
        refine AllReadyH.cons (o := { dst := some 40, op := Op.buildSlice 40 2 #[(0, Operand.tmp 36), (1, Operand.tmp 39)], type := 40, pos := "ref.go:38", after := #[{ on := 16, ground := Ground.data }, { on := 19, ground := Ground.data }], guard := none }) rfl (fun K hK => ?_) ?_
        · clear hHeld
          go_simp
          refine hK.out _ _ ?_ (fun hHeld => ?_)
          · first | exact X2.out.lim | exact (X2.out.alloc _).lim | exact X1.out.lim | exact (X1.out.alloc _).lim | exact O0.out.drew.lim | exact (O0.out.alloc _).drew.lim
          clear hK K
          try simp only [Act.put, List.setIfInBounds_toArray, List.set_cons_zero, List.set_cons_succ]
          refine wpAnyH_ready (rs := [4, 21]) (by kernel_rfl) (by simp) ?_
          refine AllReadyH.cons (o := { dst := some 24, op := Op.call { callee := Callee.value (Operand.func 33), args := #[Operand.tmp 23], argTypes := #[3] }, type := 9, pos := "ref.go:38", after := #[{ on := 3, ground := Ground.data }, { on := 3, ground := Ground.chain }], guard := none }) rfl (fun K hK => ?_) ?_
          · clear hHeld
            go_simp
            refine (CZ.out _).mono ?_
            rintro e w' ⟨rfl, rfl⟩
            try go_wp2_with fail
            refine hK.out _ _ ?_ (fun hHeld => ?_)
            · first | exact X2.out.lim | exact (X2.out.alloc _).lim | exact X1.out.lim | exact (X1.out.alloc _).lim | exact O0.out.drew.lim | exact (O0.out.alloc _).drew.lim
            clear hK K
            try simp only [Act.put, List.setIfInBounds_toArray, List.set_cons_zero, List.set_cons_succ]
            refine wpAnyH_take (i := 5) (oi := { dst := some 25, op := Op.binOp BinOp.add 9 (Operand.tmp 20) (Operand.tmp 24) 9, type := 9, pos := "ref.go:38", after := #[{ on := 0, ground := Ground.data }, { on := 4, ground := Ground.data }], guard := none }) (v := ?v44) rfl (by kernel_rfl) (by kernel_rfl) (by kernel_rfl) (fun _ _ _ h => h) (Or.inl ⟨by rfl, ?y44⟩) hHeld ?r44
            case y44 => (intro w hSw; (try dsimp only at hSw); go_simp; try with_reducible rfl)
            try simp only [Act.put, List.setIfInBounds_toArray, List.set_cons_zero, List.set_cons_succ]
            refine wpAnyH_ready (rs := [8, 21]) (by kernel_rfl) (by simp) ?_
            refine AllReadyH.cons (o := { dst := some 28, op := Op.call { callee := Callee.value (Operand.func 39), args := #[Operand.tmp 27], argTypes := #[28] }, type := 9, pos := "ref.go:38", after := #[{ on := 7, ground := Ground.data }, { on := 4, ground := Ground.chain }], guard := none }) rfl (fun K hK => ?_) ?_
            · clear hHeld
              go_simp
              refine (CA1.out _).mono ?_
              rintro e w1 ⟨rfl, hb1⟩
              have X1 := Lib.hid (show Oc w wr.heap.size p w1 from Oc.keep (by first | exact O0.out.drew | exact (O0.out.alloc _).drew) hb1)
              have cvA1 := HCV.out (w1.alloc (.cells #[.int .u8 (x : Int), .int .u8 (y : Int)] 5)) w1.heap.size (Tw.new w1 x y)
              first | (have t1 := Lib.hid (Tw.below (Tw.new W0 x y).drew hb1); have cvB1 := HCV.out w1 W0.heap.size t1.out) | skip
              clear hb1
              try go_wp2_with fail
              refine hK.out _ _ ?_ (fun hHeld => ?_)
              · first | exact X2.out.lim | exact (X2.out.alloc _).lim | exact X1.out.lim | exact (X1.out.alloc _).lim | exact O0.out.drew.lim | exact (O0.out.alloc _).drew.lim
              clear hK K
              try simp only [Act.put, List.setIfInBounds_toArray, List.set_cons_zero, List.set_cons_succ]
              refine wpAnyH_take (i := 9) (oi := { dst := some 29, op := Op.binOp BinOp.add 9 (Operand.tmp 25) (Operand.tmp 28) 9, type := 9, pos := "ref.go:38", after := #[{ on := 5, ground := Ground.data }, { on := 8, ground := Ground.data }], guard := none }) (v := ?v45) rfl (by kernel_rfl) (by kernel_rfl) (by kernel_rfl) (fun _ _ _ h => h) (Or.inl ⟨by rfl, ?y45⟩) hHeld ?r45
              case y45 => (intro w hSw; (try dsimp only at hSw); go_simp; try with_reducible rfl)
              try simp only [Act.put, List.setIfInBounds_toArray, List.set_cons_zero, List.set_cons_succ]
              refine wpAnyH_ready (rs := [12, 21]) (by kernel_rfl) (by simp) ?_
              refine AllReadyH.cons (o := { dst := some 32, op := Op.call { callee := Callee.value (Operand.func 39), args := #[Operand.tmp 31], argTypes := #[28] }, type := 9, pos := "ref.go:38", after := #[{ on := 11, ground := Ground.data }, { on := 8, ground := Ground.chain }], guard := none }) rfl (fun K hK => ?_) ?_
              · clear hHeld
                go_simp
                refine (CA2.out _).mono ?_
                rintro e w2 ⟨rfl, hb2⟩
                have X2 := Lib.hid (show Oc w wr.heap.size p w2 from Oc.keep (by first | exact X1.out | exact X1.out.alloc _) hb2)
                have cvA2 := HCV.out (w2.alloc (.cells #[.int .u8 (x : Int), .int .u8 (y : Int)] 5)) w2.heap.size (Tw.new w2 x y)
                first | (have t2 := Lib.hid (Tw.below (Tw.new w1 x y) hb2); have cvB2 := HCV.out w2 w1.heap.size t2.out) | (have t2 := Lib.hid (Tw.below t1.out hb2); have cvB2 := HCV.out w2 W0.heap.size t2.out) | skip
                clear hb2
                try go_wp2_with fail
                refine hK.out _ _ ?_ (fun hHeld => ?_)
                · first | exact X2.out.lim | exact (X2.out.alloc _).lim | exact X1.out.lim | exact (X1.out.alloc _).lim | exact O0.out.drew.lim | exact (O0.out.alloc _).drew.lim
                clear hK K
                try simp only [Act.put, List.setIfInBounds_toArray, List.set_cons_zero, List.set_cons_succ]
                refine wpAnyH_take (i := 13) (oi := { dst := some 33, op := Op.binOp BinOp.add 9 (Operand.tmp 29) (Operand.tmp 32) 9, type := 9, pos := "ref.go:38", after := #[{ on := 9, ground := Ground.data }, { on := 12, ground := Ground.data }], guard := none }) (v := ?v46) rfl (by kernel_rfl) (by kernel_rfl) (by kernel_rfl) (fun _ _ _ h => h) (Or.inl ⟨by rfl, ?y46⟩) hHeld ?r46
                case y46 => (intro w hSw; (try dsimp only at hSw); go_simp; try with_reducible rfl)
                try simp only [Act.put, List.setIfInBounds_toArray, List.set_cons_zero, List.set_cons_succ]
                refine wpAnyH_ready (rs := [21]) (by kernel_rfl) (by simp) ?_
                refine AllReadyH.cons (o := { dst := some 41, op := Op.convert 40 9 (Operand.tmp 40), type := 9, pos := "ref.go:38", after := #[{ on := 20, ground := Ground.data }], guard := none }) rfl (fun K hK => ?_) ?_
                · clear hHeld
                  go_simp
                  refine hK.out _ _ ?_ (fun hHeld => ?_)
                  · first | exact X2.out.lim | exact (X2.out.alloc _).lim | exact X1.out.lim | exact (X1.out.alloc _).lim | exact O0.out.drew.lim | exact (O0.out.alloc _).drew.lim
                  clear hK K
                  try simp only [Act.put, List.setIfInBounds_toArray, List.set_cons_zero, List.set_cons_succ]
                  refine wpAnyH_take (i := 22) (oi := { dst := some 42, op := Op.binOp BinOp.add 9 (Operand.tmp 33) (Operand.tmp 41) 9, type := 9, pos := "ref.go:38", after := #[{ on := 13, ground := Ground.data }, { on := 21, ground := Ground.data }], guard := none }) (v := ?v47) rfl (by kernel_rfl) (by kernel_rfl) (by kernel_rfl) (fun _ _ _ h => h) (Or.inl ⟨by rfl, ?y47⟩) hHeld ?r47
                  case y47 => (intro w hSw; (try dsimp only at hSw); go_simp; try with_reducible rfl)
                  try simp only [Act.put, List.setIfInBounds_toArray, List.set_cons_zero, List.set_cons_succ]
                  refine wpAnyH_take (i := 25) (oi := { dst := some 45, op := Op.binOp BinOp.add 9 (Operand.tmp 42) (Operand.tmp 44) 9, type := 9, pos := "ref.go:38", after := #[{ on := 22, ground := Ground.data }, { on := 24, ground := Ground.data }], guard := none }) (v := ?v48) rfl (by kernel_rfl) (by kernel_rfl) (by kernel_rfl) (fun _ _ _ h => h) (Or.inl ⟨by rfl, ?y48⟩) hHeld ?r48
                  case y48 => (intro w hSw; (try dsimp only at hSw); go_simp; try with_reducible rfl)
                  try simp only [Act.put, List.setIfInBounds_toArray, List.set_cons_zero, List.set_cons_succ]
                  refine wpAnyH_take (i := 26) (oi := { dst := some 3, op := Op.assign (Operand.tmp 45), type := 9, pos := "ref.go:38", after := #[{ on := 25, ground := Ground.data }, { on := 12, ground := Ground.chain }, { on := 0, ground := Ground.phase }, { on := 1, ground := Ground.phase }, { on := 2, ground := Ground.phase }, { on := 3, ground := Ground.phase }, { on := 4, ground := Ground.phase }, { on := 5, ground := Ground.phase }, { on := 6, ground := Ground.phase }, { on := 7, ground := Ground.phase }, { on := 8, ground := Ground.phase }, { on := 9, ground := Ground.phase }, { on := 10, ground := Ground.phase }, { on := 11, ground := Ground.phase }, { on := 12, ground := Ground.phase }, { on := 13, ground := Ground.phase }, { on := 14, ground := Ground.phase }, { on := 15, ground := Ground.phase }, { on := 16, ground := Ground.phase }, { on := 17, ground := Ground.phase }, { on := 18, ground := Ground.phase }, { on := 19, ground := Ground.phase }, { on := 20, ground := Ground.phase }, { on := 21, ground := Ground.phase }, { on := 22, ground := Ground.phase }, { on := 23, ground := Ground.phase }, { on := 24, ground := Ground.phase }, { on := 25, ground := Ground.phase }], guard := none }) (v := ?v49) rfl (by kernel_rfl) (by kernel_rfl) (by kernel_rfl) (fun _ _ _ h => h) (Or.inl ⟨by rfl, ?y49⟩) hHeld ?r49
                  case y49 => (intro w hSw; (try dsimp only at hSw); go_simp; try with_reducible rfl)
                  try simp only [Act.put, List.setIfInBounds_toArray, List.set_cons_zero, List.set_cons_succ]
                  refine wpAnyH_done (by kernel_rfl) ?_ _
                  go_wp2
                  go_roundw
                  · exact ⟨k + 1, HLT.out, by go_num, by rw [HO.out, HY5.out], by first | exact X2.out.bel | exact (X2.out.alloc _).bel⟩
                  · have := HLT.out; simp [intOf]; omega
                exact AllReadyH.nil
              refine AllReadyH.cons (o := { dst := some 41, op := Op.convert 40 9 (Operand.tmp 40), type := 9, pos := "ref.go:38", after := #[{ on := 20, ground := Ground.data }], guard := none }) rfl (fun K hK => ?_) ?_
              · clear hHeld
                go_simp
                refine hK.out _ _ ?_ (fun hHeld => ?_)
                · first | exact X2.out.lim | exact (X2.out.alloc _).lim | exact X1.out.lim | exact (X1.out.alloc _).lim | exact O0.out.drew.lim | exact (O0.out.alloc _).drew.lim
                clear hK K
                try simp only [Act.put, List.setIfInBounds_toArray, List.set_cons_zero, List.set_cons_succ]
                refine wpAnyH_ready (rs := [12]) (by kernel_rfl) (by simp) ?_
                refine AllReadyH.cons (o := { dst := some 32, op := Op.call { callee := Callee.value (Operand.func 39), args := #[Operand.tmp 31], argTypes := #[28] }, type := 9, pos := "ref.go:38", after := #[{ on := 11, ground := Ground.data }, { on := 8, ground := Ground.chain }], guard := none }) rfl (fun K hK => ?_) ?_
                · clear hHeld
                  go_simp
                  refine (CA2.out _).mono ?_
                  rintro e w2 ⟨rfl, hb2⟩
                  have X2 := Lib.hid (show Oc w wr.heap.size p w2 from Oc.keep (by first | exact X1.out | exact X1.out.alloc _) hb2)
                  have cvA2 := HCV.out (w2.alloc (.cells #[.int .u8 (x : Int), .int .u8 (y : Int)] 5)) w2.heap.size (Tw.new w2 x y)
                  first | (have t2 := Lib.hid (Tw.below (Tw.new w1 x y) hb2); have cvB2 := HCV.out w2 w1.heap.size t2.out) | (have t2 := Lib.hid (Tw.below t1.out hb2); have cvB2 := HCV.out w2 W0.heap.size t2.out) | skip
                  clear hb2
                  try go_wp2_with fail
                  refine hK.out _ _ ?_ (fun hHeld => ?_)
                  · first | exact X2.out.lim | exact (X2.out.alloc _).lim | exact X1.out.lim | exact (X1.out.alloc _).lim | exact O0.out.drew.lim | exact (O0.out.alloc _).drew.lim
                  clear hK K
                  try simp only [Act.put, List.setIfInBounds_toArray, List.set_cons_zero, List.set_cons_succ]
                  refine wpAnyH_take (i := 13) (oi := { dst := some 33, op := Op.binOp BinOp.add 9 (Operand.tmp 29) (Operand.tmp 32) 9, type := 9, pos := "ref.go:38", after := #[{ on := 9, ground := Ground.data }, { on := 12, ground := Ground.data }], guard := none }) (v := ?v50) rfl (by kernel_rfl) (by kernel_rfl) (by kernel_rfl) (fun _ _ _ h => h) (Or.inl ⟨by rfl, ?y50⟩) hHeld ?r50
                  case y50 => (intro w hSw; (try dsimp only at hSw); go_simp; try with_reducible rfl)
                  try simp only [Act.put, List.setIfInBounds_toArray, List.set_cons_zero, List.set_cons_succ]
                  refine wpAnyH_take (i := 22) (oi := { dst := some 42, op := Op.binOp BinOp.add 9 (Operand.tmp 33) (Operand.tmp 41) 9, type := 9, pos := "ref.go:38", after := #[{ on := 13, ground := Ground.data }, { on := 21, ground := Ground.data }], guard := none }) (v := ?v51) rfl (by kernel_rfl) (by kernel_rfl) (by kernel_rfl) (fun _ _ _ h => h) (Or.inl ⟨by rfl, ?y51⟩) hHeld ?r51
                  case y51 => (intro w hSw; (try dsimp only at hSw); go_simp; try with_reducible rfl)
                  try simp only [Act.put, List.setIfInBounds_toArray, List.set_cons_zero, List.set_cons_succ]
                  refine wpAnyH_take (i := 25) (oi := { dst := some 45, op := Op.binOp BinOp.add 9 (Operand.tmp 42) (Operand.tmp 44) 9, type := 9, pos := "ref.go:38", after := #[{ on := 22, ground := Ground.data }, { on := 24, ground := Ground.data }], guard := none }) (v := ?v52) rfl (by kernel_rfl) (by kernel_rfl) (by kernel_rfl) (fun _ _ _ h => h) (Or.inl ⟨by rfl, ?y52⟩) hHeld ?r52
                  case y52 => (intro w hSw; (try dsimp only at hSw); go_simp; try with_reducible rfl)
                  try simp only [Act.put, List.setIfInBounds_toArray, List.set_cons_zero, List.set_cons_succ]
                  refine wpAnyH_take (i := 26) (oi := { dst := some 3, op := Op.assign (Operand.tmp 45), type := 9, pos := "ref.go:38", after := #[{ on := 25, ground := Ground.data }, { on := 12, ground := Ground.chain }, { on := 0, ground := Ground.phase }, { on := 1, ground := Ground.phase }, { on := 2, ground := Ground.phase }, { on := 3, ground := Ground.phase }, { on := 4, ground := Ground.phase }, { on := 5, ground := Ground.phase }, { on := 6, ground := Ground.phase }, { on := 7, ground := Ground.phase }, { on := 8, ground := Ground.phase }, { on := 9, ground := Ground.phase }, { on := 10, ground := Ground.phase }, { on := 11, ground := Ground.phase }, { on := 12, ground := Ground.phase }, { on := 13, ground := Ground.phase }, { on := 14, ground := Ground.phase }, { on := 15, ground := Ground.phase }, { on := 16, ground := Ground.phase }, { on := 17, ground := Ground.phase }, { on := 18, ground := Ground.phase }, { on := 19, ground := Ground.phase }, { on := 20, ground := Ground.phase }, { on := 21, ground := Ground.phase }, { on := 22, ground := Ground.phase }, { on := 23, ground := Ground.phase }, { on := 24, ground := Ground.phase }, { on := 25, ground := Ground.phase }], guard := none }) (v := ?v53) rfl (by kernel_rfl) (by kernel_rfl) (by kernel_rfl) (fun _ _ _ h => h) (Or.inl ⟨by rfl, ?y53⟩) hHeld ?r53
                  case y53 => (intro w hSw; (try dsimp only at hSw); go_simp; try with_reducible rfl)
                  try simp only [Act.put, List.setIfInBounds_toArray, List.set_cons_zero, List.set_cons_succ]
                  refine wpAnyH_done (by kernel_rfl) ?_ _
                  go_wp2
                  go_roundw
                  · exact ⟨k + 1, HLT.out, by go_num, by rw [HO.out, HY5.out], by first | exact X2.out.bel | exact (X2.out.alloc _).bel⟩
                  · have := HLT.out; simp [intOf]; omega
                exact AllReadyH.nil
              exact AllReadyH.nil
            refine AllReadyH.cons (o := { dst := some 41, op := Op.convert 40 9 (Operand.tmp 40), type := 9, pos := "ref.go:38", after := #[{ on := 20, ground := Ground.data }], guard := none }) rfl (fun K hK => ?_) ?_
            · clear hHeld
              go_simp
              refine hK.out _ _ ?_ (fun hHeld => ?_)
              · first | exact X2.out.lim | exact (X2.out.alloc _).lim | exact X1.out.lim | exact (X1.out.alloc _).lim | exact O0.out.drew.lim | exact (O0.out.alloc _).drew.lim
              clear hK K
              try simp only [Act.put, List.setIfInBounds_toArray, List.set_cons_zero, List.set_cons_succ]
              refine wpAnyH_ready (rs := [8]) (by kernel_rfl) (by simp) ?_
              refine AllReadyH.cons (o := { dst := some 28, op := Op.call { callee := Callee.value (Operand.func 39), args := #[Operand.tmp 27], argTypes := #[28] }, type := 9, pos := "ref.go:38", after := #[{ on := 7, ground := Ground.data }, { on := 4, ground := Ground.chain }], guard := none }) rfl (fun K hK => ?_) ?_
              · clear hHeld
                go_simp
                refine (CA1.out _).mono ?_
                rintro e w1 ⟨rfl, hb1⟩
                have X1 := Lib.hid (show Oc w wr.heap.size p w1 from Oc.keep (by first | exact O0.out.drew | exact (O0.out.alloc _).drew) hb1)
                have cvA1 := HCV.out (w1.alloc (.cells #[.int .u8 (x : Int), .int .u8 (y : Int)] 5)) w1.heap.size (Tw.new w1 x y)
                first | (have t1 := Lib.hid (Tw.below (Tw.new W0 x y).drew hb1); have cvB1 := HCV.out w1 W0.heap.size t1.out) | skip
                clear hb1
                try go_wp2_with fail
                refine hK.out _ _ ?_ (fun hHeld => ?_)
                · first | exact X2.out.lim | exact (X2.out.alloc _).lim | exact X1.out.lim | exact (X1.out.alloc _).lim | exact O0.out.drew.lim | exact (O0.out.alloc _).drew.lim
                clear hK K
                try simp only [Act.put, List.setIfInBounds_toArray, List.set_cons_zero, List.set_cons_succ]
                refine wpAnyH_take (i := 9) (oi := { dst := some 29, op := Op.binOp BinOp.add 9 (Operand.tmp 25) (Operand.tmp 28) 9, type := 9, pos := "ref.go:38", after := #[{ on := 5, ground := Ground.data }, { on := 8, ground := Ground.data }], guard := none }) (v := ?v54) rfl (by kernel_rfl) (by kernel_rfl) (by kernel_rfl) (fun _ _ _ h => h) (Or.inl ⟨by rfl, ?y54⟩) hHeld ?r54
                case y54 => (intro w hSw; (try dsimp only at hSw); go_simp; try with_reducible rfl)
                try simp only [Act.put, List.setIfInBounds_toArray, List.set_cons_zero, List.set_cons_succ]
                refine wpAnyH_ready (rs := [12]) (by kernel_rfl) (by simp) ?_
                refine AllReadyH.cons (o := { dst := some 32, op := Op.call { callee := Callee.value (Operand.func 39), args := #[Operand.tmp 31], argTypes := #[28] }, type := 9, pos := "ref.go:38", after := #[{ on := 11, ground := Ground.data }, { on := 8, ground := Ground.chain }], guard := none }) rfl (fun K hK => ?_) ?_
                · clear hHeld
                  go_simp
                  refine (CA2.out _).mono ?_
                  rintro e w2 ⟨rfl, hb2⟩
                  have X2 := Lib.hid (show Oc w wr.heap.size p w2 from Oc.keep (by first | exact X1.out | exact X1.out.alloc _) hb2)
                  have cvA2 := HCV.out (w2.alloc (.cells #[.int .u8 (x : Int), .int .u8 (y : Int)] 5)) w2.heap.size (Tw.new w2 x y)
                  first | (have t2 := Lib.hid (Tw.below (Tw.new w1 x y) hb2); have cvB2 := HCV.out w2 w1.heap.size t2.out) | (have t2 := Lib.hid (Tw.below t1.out hb2); have cvB2 := HCV.out w2 W0.heap.size t2.out) | skip
                  clear hb2
                  try go_wp2_with fail
                  refine hK.out _ _ ?_ (fun hHeld => ?_)
                  · first | exact X2.out.lim | exact (X2.out.alloc _).lim | exact X1.out.lim | exact (X1.out.alloc _).lim | exact O0.out.drew.lim | exact (O0.out.alloc _).drew.lim
                  clear hK K
                  try simp only [Act.put, List.setIfInBounds_toArray, List.set_cons_zero, List.set_cons_succ]
                  refine wpAnyH_take (i := 13) (oi := { dst := some 33, op := Op.binOp BinOp.add 9 (Operand.tmp 29) (Operand.tmp 32) 9, type := 9, pos := "ref.go:38", after := #[{ on := 9, ground := Ground.data }, { on := 12, ground := Ground.data }], guard := none }) (v := ?v55) rfl (by kernel_rfl) (by kernel_rfl) (by kernel_rfl) (fun _ _ _ h => h) (Or.inl ⟨by rfl, ?y55⟩) hHeld ?r55
                  case y55 => (intro w hSw; (try dsimp only at hSw); go_simp; try with_reducible rfl)
                  try simp only [Act.put, List.setIfInBounds_toArray, List.set_cons_zero, List.set_cons_succ]
                  refine wpAnyH_take (i := 22) (oi := { dst := some 42, op := Op.binOp BinOp.add 9 (Operand.tmp 33) (Operand.tmp 41) 9, type := 9, pos := "ref.go:38", after := #[{ on := 13, ground := Ground.data }, { on := 21, ground := Ground.data }], guard := none }) (v := ?v56) rfl (by kernel_rfl) (by kernel_rfl) (by kernel_rfl) (fun _ _ _ h => h) (Or.inl ⟨by rfl, ?y56⟩) hHeld ?r56
                  case y56 => (intro w hSw; (try dsimp only at hSw); go_simp; try with_reducible rfl)
                  try simp only [Act.put, List.setIfInBounds_toArray, List.set_cons_zero, List.set_cons_succ]
                  refine wpAnyH_take (i := 25) (oi := { dst := some 45, op := Op.binOp BinOp.add 9 (Operand.tmp 42) (Operand.tmp 44) 9, type := 9, pos := "ref.go:38", after := #[{ on := 22, ground := Ground.data }, { on := 24, ground := Ground.data }], guard := none }) (v := ?v57) rfl (by kernel_rfl) (by kernel_rfl) (by kernel_rfl) (fun _ _ _ h => h) (Or.inl ⟨by rfl, ?y57⟩) hHeld ?r57
                  case y57 => (intro w hSw; (try dsimp only at hSw); go_simp; try with_reducible rfl)
                  try simp only [Act.put, List.setIfInBounds_toArray, List.set_cons_zero, List.set_cons_succ]
                  refine wpAnyH_take (i := 26) (oi := { dst := some 3, op := Op.assign (Operand.tmp 45), type := 9, pos := "ref.go:38", after := #[{ on := 25, ground := Ground.data }, { on := 12, ground := Ground.chain }, { on := 0, ground := Ground.phase }, { on := 1, ground := Ground.phase }, { on := 2, ground := Ground.phase }, { on := 3, ground := Ground.phase }, { on := 4, ground := Ground.phase }, { on := 5, ground := Ground.phase }, { on := 6, ground := Ground.phase }, { on := 7, ground := Ground.phase }, { on := 8, ground := Ground.phase }, { on := 9, ground := Ground.phase }, { on := 10, ground := Ground.phase }, { on := 11, ground := Ground.phase }, { on := 12, ground := Ground.phase }, { on := 13, ground := Ground.phase }, { on := 14, ground := Ground.phase }, { on := 15, ground := Ground.phase }, { on := 16, ground := Ground.phase }, { on := 17, ground := Ground.phase }, { on := 18, ground := Ground.phase }, { on := 19, ground := Ground.phase }, { on := 20, ground := Ground.phase }, { on := 21, ground := Ground.phase }, { on := 22, ground := Ground.phase }, { on := 23, ground := Ground.phase }, { on := 24, ground := Ground.phase }, { on := 25, ground := Ground.phase }], guard := none }) (v := ?v58) rfl (by kernel_rfl) (by kernel_rfl) (by kernel_rfl) (fun _ _ _ h => h) (Or.inl ⟨by rfl, ?y58⟩) hHeld ?r58
                  case y58 => (intro w hSw; (try dsimp only at hSw); go_simp; try with_reducible rfl)
                  try simp only [Act.put, List.setIfInBounds_toArray, List.set_cons_zero, List.set_cons_succ]
                  refine wpAnyH_done (by kernel_rfl) ?_ _
                  go_wp2
                  go_roundw
                  · exact ⟨k + 1, HLT.out, by go_num, by rw [HO.out, HY5.out], by first | exact X2.out.bel | exact (X2.out.alloc _).bel⟩
                  · have := HLT.out; simp [intOf]; omega
                exact AllReadyH.nil
              exact AllReadyH.nil
            exact AllReadyH.nil
          refine AllReadyH.cons (o := { dst := some 41, op := Op.convert 40 9 (Operand.tmp 40), type := 9, pos := "ref.go:38", after := #[{ on := 20, ground := Ground.data }], guard := none }) rfl (fun K hK => ?_) ?_
          · clear hHeld
            go_simp
            refine hK.out _ _ ?_ (fun hHeld => ?_)
            · first | exact X2.out.lim | exact (X2.out.alloc _).lim | exact X1.out.lim | exact (X1.out.alloc _).lim | exact O0.out.drew.lim | exact (O0.out.alloc _).drew.lim
            clear hK K
            try simp only [Act.put, List.setIfInBounds_toArray, List.set_cons_zero, List.set_cons_succ]
            refine wpAnyH_ready (rs := [4]) (by kernel_rfl) (by simp) ?_
            refine AllReadyH.cons (o := { dst := some 24, op := Op.call { callee := Callee.value (Operand.func 33), args := #[Operand.tmp 23], argTypes := #[3] }, type := 9, pos := "ref.go:38", after := #[{ on := 3, ground := Ground.data }, { on := 3, ground := Ground.chain }], guard := none }) rfl (fun K hK => ?_) ?_
            · clear hHeld
              go_simp
              refine (CZ.out _).mono ?_
              rintro e w' ⟨rfl, rfl⟩
              try go_wp2_with fail
              refine hK.out _ _ ?_ (fun hHeld => ?_)
              · first | exact X2.out.lim | exact (X2.out.alloc _).lim | exact X1.out.lim | exact (X1.out.alloc _).lim | exact O0.out.drew.lim | exact (O0.out.alloc _).drew.lim
              clear hK K
              try simp only [Act.put, List.setIfInBounds_toArray, List.set_cons_zero, List.set_cons_succ]
              refine wpAnyH_take (i := 5) (oi := { dst := some 25, op := Op.binOp BinOp.add 9 (Operand.tmp 20) (Operand.tmp 24) 9, type := 9, pos := "ref.go:38", after := #[{ on := 0, ground := Ground.data }, { on := 4, ground := Ground.data }], guard := none }) (v := ?v59) rfl (by kernel_rfl) (by kernel_rfl) (by kernel_rfl) (fun _ _ _ h => h) (Or.inl ⟨by rfl, ?y59⟩) hHeld ?r59
              case y59 => (intro w hSw; (try dsimp only at hSw); go_simp; try with_reducible rfl)
              try simp only [Act.put, List.setIfInBounds_toArray, List.set_cons_zero, List.set_cons_succ]
              refine wpAnyH_ready (rs := [8]) (by kernel_rfl) (by simp) ?_
              refine AllReadyH.cons (o := { dst := some 28, op := Op.call { callee := Callee.value (Operand.func 39), args := #[Operand.tmp 27], argTypes := #[28] }, type := 9, pos := "ref.go:38", after := #[{ on := 7, ground := Ground.data }, { on := 4, ground := Ground.chain }], guard := none }) rfl (fun K hK => ?_) ?_
              · clear hHeld
                go_simp
                refine (CA1.out _).mono ?_
                rintro e w1 ⟨rfl, hb1⟩
                have X1 := Lib.hid (show Oc w wr.heap.size p w1 from Oc.keep (by first | exact O0.out.drew | exact (O0.out.alloc _).drew) hb1)
                have cvA1 := HCV.out (w1.alloc (.cells #[.int .u8 (x : Int), .int .u8 (y : Int)] 5)) w1.heap.size (Tw.new w1 x y)
                first | (have t1 := Lib.hid (Tw.below (Tw.new W0 x y).drew hb1); have cvB1 := HCV.out w1 W0.heap.size t1.out) | skip
                clear hb1
                try go_wp2_with fail
                refine hK.out _ _ ?_ (fun hHeld => ?_)
                · first | exact X2.out.lim | exact (X2.out.alloc _).lim | exact X1.out.lim | exact (X1.out.alloc _).lim | exact O0.out.drew.lim | exact (O0.out.alloc _).drew.lim
                clear hK K
                try simp only [Act.put, List.setIfInBounds_toArray, List.set_cons_zero, List.set_cons_succ]
                refine wpAnyH_take (i := 9) (oi := { dst := some 29, op := Op.binOp BinOp.add 9 (Operand.tmp 25) (Operand.tmp 28) 9, type := 9, pos := "ref.go:38", after := #[{ on := 5, ground := Ground.data }, { on := 8, ground := Ground.data }], guard := none }) (v := ?v60) rfl (by kernel_rfl) (by kernel_rfl) (by kernel_rfl) (fun _ _ _ h => h) (Or.inl ⟨by rfl, ?y60⟩) hHeld ?r60
                case y60 => (intro w hSw; (try dsimp only at hSw); go_simp; try with_reducible rfl)
                try simp only [Act.put, List.setIfInBounds_toArray, List.set_cons_zero, List.set_cons_succ]
                refine wpAnyH_ready (rs := [12]) (by kernel_rfl) (by simp) ?_
                refine AllReadyH.cons (o := { dst := some 32, op := Op.call { callee := Callee.value (Operand.func 39), args := #[Operand.tmp 31], argTypes := #[28] }, type := 9, pos := "ref.go:38", after := #[{ on := 11, ground := Ground.data }, { on := 8, ground := Ground.chain }], guard := none }) rfl (fun K hK => ?_) ?_
                · clear hHeld
                  go_simp
                  refine (CA2.out _).mono ?_
                  rintro e w2 ⟨rfl, hb2⟩
                  have X2 := Lib.hid (show Oc w wr.heap.size p w2 from Oc.keep (by first | exact X1.out | exact X1.out.alloc _) hb2)
                  have cvA2 := HCV.out (w2.alloc (.cells #[.int .u8 (x : Int), .int .u8 (y : Int)] 5)) w2.heap.size (Tw.new w2 x y)
                  first | (have t2 := Lib.hid (Tw.below (Tw.new w1 x y) hb2); have cvB2 := HCV.out w2 w1.heap.size t2.out) | (have t2 := Lib.hid (Tw.below t1.out hb2); have cvB2 := HCV.out w2 W0.heap.size t2.out) | skip
                  clear hb2
                  try go_wp2_with fail
                  refine hK.out _ _ ?_ (fun hHeld => ?_)
                  · first | exact X2.out.lim | exact (X2.out.alloc _).lim | exact X1.out.lim | exact (X1.out.alloc _).lim | exact O0.out.drew.lim | exact (O0.out.alloc _).drew.lim
                  clear hK K
                  try simp only [Act.put, List.setIfInBounds_toArray, List.set_cons_zero, List.set_cons_succ]
                  refine wpAnyH_take (i := 13) (oi := { dst := some 33, op := Op.binOp BinOp.add 9 (Operand.tmp 29) (Operand.tmp 32) 9, type := 9, pos := "ref.go:38", after := #[{ on := 9, ground := Ground.data }, { on := 12, ground := Ground.data }], guard := none }) (v := ?v61) rfl (by kernel_rfl) (by kernel_rfl) (by kernel_rfl) (fun _ _ _ h => h) (Or.inl ⟨by rfl, ?y61⟩) hHeld ?r61
                  case y61 => (intro w hSw; (try dsimp only at hSw); go_simp; try with_reducible rfl)
                  try simp only [Act.put, List.setIfInBounds_toArray, List.set_cons_zero, List.set_cons_succ]
                  refine wpAnyH_take (i := 22) (oi := { dst := some 42, op := Op.binOp BinOp.add 9 (Operand.tmp 33) (Operand.tmp 41) 9, type := 9, pos := "ref.go:38", after := #[{ on := 13, ground := Ground.data }, { on := 21, ground := Ground.data }], guard := none }) (v := ?v62) rfl (by kernel_rfl) (by kernel_rfl) (by kernel_rfl) (fun _ _ _ h => h) (Or.inl ⟨by rfl, ?y62⟩) hHeld ?r62
                  case y62 => (intro w hSw; (try dsimp only at hSw); go_simp; try with_reducible rfl)
                  try simp only [Act.put, List.setIfInBounds_toArray, List.set_cons_zero, List.set_cons_succ]
                  refine wpAnyH_take (i := 25) (oi := { dst := some 45, op := Op.binOp BinOp.add 9 (Operand.tmp 42) (Operand.tmp 44) 9, type := 9, pos := "ref.go:38", after := #[{ on := 22, ground := Ground.data }, { on := 24, ground := Ground.data }], guard := none }) (v := ?v63) rfl (by kernel_rfl) (by kernel_rfl) (by kernel_rfl) (fun _ _ _ h => h) (Or.inl ⟨by rfl, ?y63⟩) hHeld ?r63
                  case y63 => (intro w hSw; (try dsimp only at hSw); go_simp; try with_reducible rfl)
                  try simp only [Act.put, List.setIfInBounds_toArray, List.set_cons_zero, List.set_cons_succ]
                  refine wpAnyH_take (i := 26) (oi := { dst := some 3, op := Op.assign (Operand.tmp 45), type := 9, pos := "ref.go:38", after := #[{ on := 25, ground := Ground.data }, { on := 12, ground := Ground.chain }, { on := 0, ground := Ground.phase }, { on := 1, ground := Ground.phase }, { on := 2, ground := Ground.phase }, { on := 3, ground := Ground.phase }, { on := 4, ground := Ground.phase }, { on := 5, ground := Ground.phase }, { on := 6, ground := Ground.phase }, { on := 7, ground := Ground.phase }, { on := 8, ground := Ground.phase }, { on := 9, ground := Ground.phase }, { on := 10, ground := Ground.phase }, { on := 11, ground := Ground.phase }, { on := 12, ground := Ground.phase }, { on := 13, ground := Ground.phase }, { on := 14, ground := Ground.phase }, { on := 15, ground := Ground.phase }, { on := 16, ground := Ground.phase }, { on := 17, ground := Ground.phase }, { on := 18, ground := Ground.phase }, { on := 19, ground := Ground.phase }, { on := 20, ground := Ground.phase }, { on := 21, ground := Ground.phase }, { on := 22, ground := Ground.phase }, { on := 23, ground := Ground.phase }, { on := 24, ground := Ground.phase }, { on := 25, ground := Ground.phase }], guard := none }) (v := ?v64) rfl (by kernel_rfl) (by kernel_rfl) (by kernel_rfl) (fun _ _ _ h => h) (Or.inl ⟨by rfl, ?y64⟩) hHeld ?r64
                  case y64 => (intro w hSw; (try dsimp only at hSw); go_simp; try with_reducible rfl)
                  try simp only [Act.put, List.setIfInBounds_toArray, List.set_cons_zero, List.set_cons_succ]
                  refine wpAnyH_done (by kernel_rfl) ?_ _
                  go_wp2
                  go_roundw
                  · exact ⟨k + 1, HLT.out, by go_num, by rw [HO.out, HY5.out], by first | exact X2.out.bel | exact (X2.out.alloc _).bel⟩
                  · have := HLT.out; simp [intOf]; omega
                exact AllReadyH.nil
              exact AllReadyH.nil
            exact AllReadyH.nil
          exact AllReadyH.nil
        exact AllReadyH.nil
      refine AllReadyH.cons (o := { dst := some 40, op := Op.buildSlice 40 2 #[(0, Operand.tmp 36), (1, Operand.tmp 39)], type := 40, pos := "ref.go:38", after := #[{ on := 16, ground := Ground.data }, { on := 19, ground := Ground.data }], guard := none }) rfl (fun K hK => ?_) ?_
      · clear hHeld
        go_simp
        refine hK.out _ _ ?_ (fun hHeld => ?_)
        · first | exact X2.out.lim | exact (X2.out.alloc _).lim | exact X1.out.lim | exact (X1.out.alloc _).lim | exact O0.out.drew.lim | exact (O0.out.alloc _).drew.lim
        clear hK K
        try simp only [Act.put, List.setIfInBounds_toArray, List.set_cons_zero, List.set_cons_succ]
        refine wpAnyH_ready (rs := [3, 21]) (by kernel_rfl) (by simp) ?_
        refine AllReadyH.cons (o := { dst := some 23, op := Op.call { callee := Callee.value (Operand.func 32), args := #[Operand.tmp 22], argTypes := #[3] }, type := 3, pos := "ref.go:38", after := #[{ on := 2, ground := Ground.data }], guard := none }) rfl (fun K hK => ?_) ?_
        · clear hHeld
          go_simp
          refine (CP.out _).mono ?_
          rintro e w' ⟨rfl, rfl⟩
          try go_wp2_with fail
          refine hK.out _ _ ?_ (fun hHeld => ?_)
          · first | exact X2.out.lim | exact (X2.out.alloc _).lim | exact X1.out.lim | exact (X1.out.alloc _).lim | exact O0.out.drew.lim | exact (O0.out.alloc _).drew.lim
          clear hK K
          try simp only [Act.put, List.setIfInBounds_toArray, List.set_cons_zero, List.set_cons_succ]
          refine wpAnyH_ready (rs := [4, 21]) (by kernel_rfl) (by simp) ?_
          refine AllReadyH.cons (o := { dst := some 24, op := Op.call { callee := Callee.value (Operand.func 33), args := #[Operand.tmp 23], argTypes := #[3] }, type := 9, pos := "ref.go:38", after := #[{ on := 3, ground := Ground.data }, { on := 3, ground := Ground.chain }], guard := none }) rfl (fun K hK => ?_) ?_
          · clear hHeld
            go_simp
            refine (CZ.out _).mono ?_
            rintro e w' ⟨rfl, rfl⟩
            try go_wp2_with fail
            refine hK.out _ _ ?_ (fun hHeld => ?_)
            · first | exact X2.out.lim | exact (X2.out.alloc _).lim | exact X1.out.lim | exact (X1.out.alloc _).lim | exact O0.out.drew.lim | exact (O0.out.alloc _).drew.lim
            clear hK K
            try simp only [Act.put, List.setIfInBounds_toArray, List.set_cons_zero, List.set_cons_succ]
            refine wpAnyH_take (i := 5) (oi := { dst := some 25, op := Op.binOp BinOp.add 9 (Operand.tmp 20) (Operand.tmp 24) 9, type := 9, pos := "ref.go:38", after := #[{ on := 0, ground := Ground.data }, { on := 4, ground := Ground.data }], guard := none }) (v := ?v65) rfl (by kernel_rfl) (by kernel_rfl) (by kernel_rfl) (fun _ _ _ h => h) (Or.inl ⟨by rfl, ?y65⟩) hHeld ?r65
            case y65 => (intro w hSw; (try dsimp only at hSw); go_simp; try with_reducible rfl)
            try simp only [Act.put, List.setIfInBounds_toArray, List.set_cons_zero, List.set_cons_succ]
            refine wpAnyH_ready (rs := [8, 21]) (by kernel_rfl) (by simp) ?_
            refine AllReadyH.cons (o := { dst := some 28, op := Op.call { callee := Callee.value (Operand.func 39), args := #[Operand.tmp 27], argTypes := #[28] }, type := 9, pos := "ref.go:38", after := #[{ on := 7, ground := Ground.data }, { on := 4, ground := Ground.chain }], guard := none }) rfl (fun K hK => ?_) ?_
            · clear hHeld
              go_simp
              refine (CA1.out _).mono ?_
              rintro e w1 ⟨rfl, hb1⟩
              have X1 := Lib.hid (show Oc w wr.heap.size p w1 from Oc.keep (by first | exact O0.out.drew | exact (O0.out.alloc _).drew) hb1)
              have cvA1 := HCV.out (w1.alloc (.cells #[.int .u8 (x : Int), .int .u8 (y : Int)] 5)) w1.heap.size (Tw.new w1 x y)
              first | (have t1 := Lib.hid (Tw.below (Tw.new W0 x y).drew hb1); have cvB1 := HCV.out w1 W0.heap.size t1.out) | skip
              clear hb1
              try go_wp2_with fail
              refine hK.out _ _ ?_ (fun hHeld => ?_)
              · first | exact X2.out.lim | exact (X2.out.alloc _).lim | exact X1.out.lim | exact (X1.out.alloc _).lim | exact O0.out.drew.lim | exact (O0.out.alloc _).drew.lim
              clear hK K
              try simp only [Act.put, List.setIfInBounds_toArray, List.set_cons_zero, List.set_cons_succ]
              refine wpAnyH_take (i := 9) (oi := { dst := some 29, op := Op.binOp BinOp.add 9 (Operand.tmp 25) (Operand.tmp 28) 9, type := 9, pos := "ref.go:38", after := #[{ on := 5, ground := Ground.data }, { on := 8, ground := Ground.data }], guard := none }) (v := ?v66) rfl (by kernel_rfl) (by kernel_rfl) (by kernel_rfl) (fun _ _ _ h => h) (Or.inl ⟨by rfl, ?y66⟩) hHeld ?r66
              case y66 => (intro w hSw; (try dsimp only at hSw); go_simp; try with_reducible rfl)
              try simp only [Act.put, List.setIfInBounds_toArray, List.set_cons_zero, List.set_cons_succ]
              refine wpAnyH_ready (rs := [12, 21]) (by kernel_rfl) (by simp) ?_
              refine AllReadyH.cons (o := { dst := some 32, op := Op.call { callee := Callee.value (Operand.func 39), args := #[Operand.tmp 31], argTypes := #[28] }, type := 9, pos := "ref.go:38", after := #[{ on := 11, ground := Ground.data }, { on := 8, ground := Ground.chain }], guard := none }) rfl (fun K hK => ?_) ?_
              · clear hHeld
                go_simp
                refine (CA2.out _).mono ?_
                rintro e w2 ⟨rfl, hb2⟩
                have X2 := Lib.hid (show Oc w wr.heap.size p w2 from Oc.keep (by first | exact X1.out | exact X1.out.alloc _) hb2)
                have cvA2 := HCV.out (w2.alloc (.cells #[.int .u8 (x : Int), .int .u8 (y : Int)] 5)) w2.heap.size (Tw.new w2 x y)
                first | (have t2 := Lib.hid (Tw.below (Tw.new w1 x y) hb2); have cvB2 := HCV.out w2 w1.heap.size t2.out) | (have t2 := Lib.hid (Tw.below t1.out hb2); have cvB2 := HCV.out w2 W0.heap.size t2.out) | skip
                clear hb2
                try go_wp2_with fail
                refine hK.out _ _ ?_ (fun hHeld => ?_)
                · first | exact X2.out.lim | exact (X2.out.alloc _).lim | exact X1.out.lim | exact (X1.out.alloc _).lim | exact O0.out.drew.lim | exact (O0.out.alloc _).drew.lim
                clear hK K
                try simp only [Act.put, List.setIfInBounds_toArray, List.set_cons_zero, List.set_cons_succ]
                refine wpAnyH_take (i := 13) (oi := { dst := some 33, op := Op.binOp BinOp.add 9 (Operand.tmp 29) (Operand.tmp 32) 9, type := 9, pos := "ref.go:38", after := #[{ on := 9, ground := Ground.data }, { on := 12, ground := Ground.data }], guard := none }) (v := ?v67) rfl (by kernel_rfl) (by kernel_rfl) (by kernel_rfl) (fun _ _ _ h => h) (Or.inl ⟨by rfl, ?y67⟩) hHeld ?r67
                case y67 => (intro w hSw; (try dsimp only at hSw); go_simp; try with_reducible rfl)
                try simp only [Act.put, List.setIfInBounds_toArray, List.set_cons_zero, List.set_cons_succ]
                refine wpAnyH_ready (rs := [21]) (by kernel_rfl) (by simp) ?_
                refine AllReadyH.cons (o := { dst := some 41, op := Op.convert 40 9 (Operand.tmp 40), type := 9, pos := "ref.go:38", after := #[{ on := 20, ground := Ground.data }], guard := none }) rfl (fun K hK => ?_) ?_
                · clear hHeld
                  go_simp
                  refine hK.out _ _ ?_ (fun hHeld => ?_)
                  · first | exact X2.out.lim | exact (X2.out.alloc _).lim | exact X1.out.lim | exact (X1.out.alloc _).lim | exact O0.out.drew.lim | exact (O0.out.alloc _).drew.lim
                  clear hK K
                  try simp only [Act.put, List.setIfInBounds_toArray, List.set_cons_zero, List.set_cons_succ]
                  refine wpAnyH_take (i := 22) (oi := { dst := some 42, op := Op.binOp BinOp.add 9 (Operand.tmp 33) (Operand.tmp 41) 9, type := 9, pos := "ref.go:38", after := #[{ on := 13, ground := Ground.data }, { on := 21, ground := Ground.data }], guard := none }) (v := ?v68) rfl (by kernel_rfl) (by kernel_rfl) (by kernel_rfl) (fun _ _ _ h => h) (Or.inl ⟨by rfl, ?y68⟩) hHeld ?r68
                  case y68 => (intro w hSw; (try dsimp only at hSw); go_simp; try with_reducible rfl)
                  try simp only [Act.put, List.setIfInBounds_toArray, List.set_cons_zero, List.set_cons_succ]
                  refine wpAnyH_take (i := 25) (oi := { dst := some 45, op := Op.binOp BinOp.add 9 (Operand.tmp 42) (Operand.tmp 44) 9, type := 9, pos := "ref.go:38", after := #[{ on := 22, ground := Ground.data }, { on := 24, ground := Ground.data }], guard := none }) (v := ?v69) rfl (by kernel_rfl) (by kernel_rfl) (by kernel_rfl) (fun _ _ _ h => h) (Or.inl ⟨by rfl, ?y69⟩) hHeld ?r69
                  case y69 => (intro w hSw; (try dsimp only at hSw); go_simp; try with_reducible rfl)
                  try simp only [Act.put, List.setIfInBounds_toArray, List.set_cons_zero, List.set_cons_succ]
                  refine wpAnyH_take (i := 26) (oi := { dst := some 3, op := Op.assign (Operand.tmp 45), type := 9, pos := "ref.go:38", after := #[{ on := 25, ground := Ground.data }, { on := 12, ground := Ground.chain }, { on := 0, ground := Ground.phase }, { on := 1, ground := Ground.phase }, { on := 2, ground := Ground.phase }, { on := 3, ground := Ground.phase }, { on := 4, ground := Ground.phase }, { on := 5, ground := Ground.phase }, { on := 6, ground := Ground.phase }, { on := 7, ground := Ground.phase }, { on := 8, ground := Ground.phase }, { on := 9, ground := Ground.phase }, { on := 10, ground := Ground.phase }, { on := 11, ground := Ground.phase }, { on := 12, ground := Ground.phase }, { on := 13, ground := Ground.phase }, { on := 14, ground := Ground.phase }, { on := 15, ground := Ground.phase }, { on := 16, ground := Ground.phase }, { on := 17, ground := Ground.phase }, { on := 18, ground := Ground.phase }, { on := 19, ground := Ground.phase }, { on := 20, ground := Ground.phase }, { on := 21, ground := Ground.phase }, { on := 22, ground := Ground.phase }, { on := 23, ground := Ground.phase }, { on := 24, ground := Ground.phase }, { on := 25, ground := Ground.phase }], guard := none }) (v := ?v70) rfl (by kernel_rfl) (by kernel_rfl) (by kernel_rfl) (fun _ _ _ h => h) (Or.inl ⟨by rfl, ?y70⟩) hHeld ?r70
                  case y70 => (intro w hSw; (try dsimp only at hSw); go_simp; try with_reducible rfl)
                  try simp only [Act.put, List.setIfInBounds_toArray, List.set_cons_zero, List.set_cons_succ]
                  refine wpAnyH_done (by kernel_rfl) ?_ _
                  go_wp2
                  go_roundw
                  · exact ⟨k + 1, HLT.out, by go_num, by rw [HO.out, HY5.out], by first | exact X2.out.bel | exact (X2.out.alloc _).bel⟩
                  · have := HLT.out; simp [intOf]; omega
                exact AllReadyH.nil
              refine AllReadyH.cons (o := { dst := some 41, op := Op.convert 40 9 (Operand.tmp 40), type := 9, pos := "ref.go:38", after := #[{ on := 20, ground := Ground.data }], guard := none }) rfl (fun K hK => ?_) ?_
              · clear hHeld
                go_simp
                refine hK.out _ _ ?_ (fun hHeld => ?_)
                · first | exact X2.out.lim | exact (X2.out.alloc _).lim | exact X1.out.lim | exact (X1.out.alloc _).lim | exact O0.out.drew.lim | exact (O0.out.alloc _).drew.lim
                clear hK K
                try simp only [Act.put, List.setIfInBounds_toArray, List.set_cons_zero, List.set_cons_succ]
                refine wpAnyH_ready (rs := [12]) (by kernel_rfl) (by simp) ?_
                refine AllReadyH.cons (o := { dst := some 32, op := Op.call { callee := Callee.value (Operand.func 39), args := #[Operand.tmp 31], argTypes := #[28] }, type := 9, pos := "ref.go:38", after := #[{ on := 11, ground := Ground.data }, { on := 8, ground := Ground.chain }], guard := none }) rfl (fun K hK => ?_) ?_
                · clear hHeld
                  go_simp
                  refine (CA2.out _).mono ?_
                  rintro e w2 ⟨rfl, hb2⟩
                  have X2 := Lib.hid (show Oc w wr.heap.size p w2 from Oc.keep (by first | exact X1.out | exact X1.out.alloc _) hb2)
                  have cvA2 := HCV.out (w2.alloc (.cells #[.int .u8 (x : Int), .int .u8 (y : Int)] 5)) w2.heap.size (Tw.new w2 x y)
                  first | (have t2 := Lib.hid (Tw.below (Tw.new w1 x y) hb2); have cvB2 := HCV.out w2 w1.heap.size t2.out) | (have t2 := Lib.hid (Tw.below t1.out hb2); have cvB2 := HCV.out w2 W0.heap.size t2.out) | skip
                  clear hb2
                  try go_wp2_with fail
                  refine hK.out _ _ ?_ (fun hHeld => ?_)
                  · first | exact X2.out.lim | exact (X2.out.alloc _).lim | exact X1.out.lim | exact (X1.out.alloc _).lim | exact O0.out.drew.lim | exact (O0.out.alloc _).drew.lim
                  clear hK K
                  try simp only [Act.put, List.setIfInBounds_toArray, List.set_cons_zero, List.set_cons_succ]
                  refine wpAnyH_take (i := 13) (oi := { dst := some 33, op := Op.binOp BinOp.add 9 (Operand.tmp 29) (Operand.tmp 32) 9, type := 9, pos := "ref.go:38", after := #[{ on := 9, ground := Ground.data }, { on := 12, ground := Ground.data }], guard := none }) (v := ?v71) rfl (by kernel_rfl) (by kernel_rfl) (by kernel_rfl) (fun _ _ _ h => h) (Or.inl ⟨by rfl, ?y71⟩) hHeld ?r71
                  case y71 => (intro w hSw; (try dsimp only at hSw); go_simp; try with_reducible rfl)
                  try simp only [Act.put, List.setIfInBounds_toArray, List.set_cons_zero, List.set_cons_succ]
                  refine wpAnyH_take (i := 22) (oi := { dst := some 42, op := Op.binOp BinOp.add 9 (Operand.tmp 33) (Operand.tmp 41) 9, type := 9, pos := "ref.go:38", after := #[{ on := 13, ground := Ground.data }, { on := 21, ground := Ground.data }], guard := none }) (v := ?v72) rfl (by kernel_rfl) (by kernel_rfl) (by kernel_rfl) (fun _ _ _ h => h) (Or.inl ⟨by rfl, ?y72⟩) hHeld ?r72
                  case y72 => (intro w hSw; (try dsimp only at hSw); go_simp; try with_reducible rfl)
                  try simp only [Act.put, List.setIfInBounds_toArray, List.set_cons_zero, List.set_cons_succ]
                  refine wpAnyH_take (i := 25) (oi := { dst := some 45, op := Op.binOp BinOp.add 9 (Operand.tmp 42) (Operand.tmp 44) 9, type := 9, pos := "ref.go:38", after := #[{ on := 22, ground := Ground.data }, { on := 24, ground := Ground.data }], guard := none }) (v := ?v73) rfl (by kernel_rfl) (by kernel_rfl) (by kernel_rfl) (fun _ _ _ h => h) (Or.inl ⟨by rfl, ?y73⟩) hHeld ?r73
                  case y73 => (intro w hSw; (try dsimp only at hSw); go_simp; try with_reducible rfl)
                  try simp only [Act.put, List.setIfInBounds_toArray, List.set_cons_zero, List.set_cons_succ]
                  refine wpAnyH_take (i := 26) (oi := { dst := some 3, op := Op.assign (Operand.tmp 45), type := 9, pos := "ref.go:38", after := #[{ on := 25, ground := Ground.data }, { on := 12, ground := Ground.chain }, { on := 0, ground := Ground.phase }, { on := 1, ground := Ground.phase }, { on := 2, ground := Ground.phase }, { on := 3, ground := Ground.phase }, { on := 4, ground := Ground.phase }, { on := 5, ground := Ground.phase }, { on := 6, ground := Ground.phase }, { on := 7, ground := Ground.phase }, { on := 8, ground := Ground.phase }, { on := 9, ground := Ground.phase }, { on := 10, ground := Ground.phase }, { on := 11, ground := Ground.phase }, { on := 12, ground := Ground.phase }, { on := 13, ground := Ground.phase }, { on := 14, ground := Ground.phase }, { on := 15, ground := Ground.phase }, { on := 16, ground := Ground.phase }, { on := 17, ground := Ground.phase }, { on := 18, ground := Ground.phase }, { on := 19, ground := Ground.phase }, { on := 20, ground := Ground.phase }, { on := 21, ground := Ground.phase }, { on := 22, ground := Ground.phase }, { on := 23, ground := Ground.phase }, { on := 24, ground := Ground.phase }, { on := 25, ground := Ground.phase }], guard := none }) (v := ?v74) rfl (by kernel_rfl) (by kernel_rfl) (by kernel_rfl) (fun _ _ _ h => h) (Or.inl ⟨by rfl, ?y74⟩) hHeld ?r74
                  case y74 => (intro w hSw; (try dsimp only at hSw); go_simp; try with_reducible rfl)
                  try simp only [Act.put, List.setIfInBounds_toArray, List.set_cons_zero, List.set_cons_succ]
                  refine wpAnyH_done (by kernel_rfl) ?_ _
                  go_wp2
                  go_roundw
                  · exact ⟨k + 1, HLT.out, by go_num, by rw [HO.out, HY5.out], by first | exact X2.out.bel | exact (X2.out.alloc _).bel⟩
                  · have := HLT.out; simp [intOf]; omega
                exact AllReadyH.nil
              exact AllReadyH.nil
            refine AllReadyH.cons (o := { dst := some 41, op := Op.convert 40 9 (Operand.tmp 40), type := 9, pos := "ref.go:38", after := #[{ on := 20, ground := Ground.data }], guard := none }) rfl (fun K hK => ?_) ?_
            · clear hHeld
              go_simp
              refine hK.out _ _ ?_ (fun hHeld => ?_)
              · first | exact X2.out.lim | exact (X2.out.alloc _).lim | exact X1.out.lim | exact (X1.out.alloc _).lim | exact O0.out.drew.lim | exact (O0.out.alloc _).drew.lim
              clear hK K
              try simp only [Act.put, List.setIfInBounds_toArray, List.set_cons_zero, List.set_cons_succ]
              refine wpAnyH_ready (rs := [8]) (by kernel_rfl) (by simp) ?_
              refine AllReadyH.cons (o := { dst := some 28, op := Op.call { callee := Callee.value (Operand.func 39), args := #[Operand.tmp 27], argTypes := #[28] }, type := 9, pos := "ref.go:38", after := #[{ on := 7, ground := Ground.data }, { on := 4, ground := Ground.chain }], guard := none }) rfl (fun K hK => ?_) ?_
              · clear hHeld
                go_simp
                refine (CA1.out _).mono ?_
                rintro e w1 ⟨rfl, hb1⟩
                have X1 := Lib.hid (show Oc w wr.heap.size p w1 from Oc.keep (by first | exact O0.out.drew | exact (O0.out.alloc _).drew) hb1)
                have cvA1 := HCV.out (w1.alloc (.cells #[.int .u8 (x : Int), .int .u8 (y : Int)] 5)) w1.heap.size (Tw.new w1 x y)
                first | (have t1 := Lib.hid (Tw.below (Tw.new W0 x y).drew hb1); have cvB1 := HCV.out w1 W0.heap.size t1.out) | skip
                clear hb1
                try go_wp2_with fail
                refine hK.out _ _ ?_ (fun hHeld => ?_)
                · first | exact X2.out.lim | exact (X2.out.alloc _).lim | exact X1.out.lim | exact (X1.out.alloc _).lim | exact O0.out.drew.lim | exact (O0.out.alloc _).drew.lim
                clear hK K
                try simp only [Act.put, List.setIfInBounds_toArray, List.set_cons_zero, List.set_cons_succ]
                refine wpAnyH_take (i := 9) (oi := { dst := some 29, op := Op.binOp BinOp.add 9 (Operand.tmp 25) (Operand.tmp 28) 9, type := 9, pos := "ref.go:38", after := #[{ on := 5, ground := Ground.data }, { on := 8, ground := Ground.data }], guard := none }) (v := ?v75) rfl (by kernel_rfl) (by kernel_rfl) (by kernel_rfl) (fun _ _ _ h => h) (Or.inl ⟨by rfl, ?y75⟩) hHeld ?r75
                case y75 => (intro w hSw; (try dsimp only at hSw); go_simp; try with_reducible rfl)
                try simp only [Act.put, List.setIfInBounds_toArray, List.set_cons_zero, List.set_cons_succ]
                refine wpAnyH_ready (rs := [12]) (by kernel_rfl) (by simp) ?_
                refine AllReadyH.cons (o := { dst := some 32, op := Op.call { callee := Callee.value (Operand.func 39), args := #[Operand.tmp 31], argTypes := #[28] }, type := 9, pos := "ref.go:38", after := #[{ on := 11, ground := Ground.data }, { on := 8, ground := Ground.chain }], guard := none }) rfl (fun K hK => ?_) ?_
                · clear hHeld
                  go_simp
                  refine (CA2.out _).mono ?_
                  rintro e w2 ⟨rfl, hb2⟩
                  have X2 := Lib.hid (show Oc w wr.heap.size p w2 from Oc.keep (by first | exact X1.out | exact X1.out.alloc _) hb2)
                  have cvA2 := HCV.out (w2.alloc (.cells #[.int .u8 (x : Int), .int .u8 (y : Int)] 5)) w2.heap.size (Tw.new w2 x y)
                  first | (have t2 := Lib.hid (Tw.below (Tw.new w1 x y) hb2); have cvB2 := HCV.out w2 w1.heap.size t2.out) | (have t2 := Lib.hid (Tw.below t1.out hb2); have cvB2 := HCV.out w2 W0.heap.size t2.out) | skip
                  clear hb2
                  try go_wp2_with fail
                  refine hK.out _ _ ?_ (fun hHeld => ?_)
                  · first | exact X2.out.lim | exact (X2.out.alloc _).lim | exact X1.out.lim | exact (X1.out.alloc _).lim | exact O0.out.drew.lim | exact (O0.out.alloc _).drew.lim
                  clear hK K
                  try simp only [Act.put, List.setIfInBounds_toArray, List.set_cons_zero, List.set_cons_succ]
                  refine wpAnyH_take (i := 13) (oi := { dst := some 33, op := Op.binOp BinOp.add 9 (Operand.tmp 29) (Operand.tmp 32) 9, type := 9, pos := "ref.go:38", after := #[{ on := 9, ground := Ground.data }, { on := 12, ground := Ground.data }], guard := none }) (v := ?v76) rfl (by kernel_rfl) (by kernel_rfl) (by kernel_rfl) (fun _ _ _ h => h) (Or.inl ⟨by rfl, ?y76⟩) hHeld ?r76
                  case y76 => (intro w hSw; (try dsimp only at hSw); go_simp; try with_reducible rfl)
                  try simp only [Act.put, List.setIfInBounds_toArray, List.set_cons_zero, List.set_cons_succ]
                  refine wpAnyH_take (i := 22) (oi := { dst := some 42, op := Op.binOp BinOp.add 9 (Operand.tmp 33) (Operand.tmp 41) 9, type := 9, pos := "ref.go:38", after := #[{ on := 13, ground := Ground.data }, { on := 21, ground := Ground.data }], guard := none }) (v := ?v77) rfl (by kernel_rfl) (by kernel_rfl) (by kernel_rfl) (fun _ _ _ h => h) (Or.inl ⟨by rfl, ?y77⟩) hHeld ?r77
                  case y77 => (intro w hSw; (try dsimp only at hSw); go_simp; try with_reducible rfl)
                  try simp only [Act.put, List.setIfInBounds_toArray, List.set_cons_zero, List.set_cons_succ]
                  refine wpAnyH_take (i := 25) (oi := { dst := some 45, op := Op.binOp BinOp.add 9 (Operand.tmp 42) (Operand.tmp 44) 9, type := 9, pos := "ref.go:38", after := #[{ on := 22, ground := Ground.data }, { on := 24, ground := Ground.data }], guard := none }) (v := ?v78) rfl (by kernel_rfl) (by kernel_rfl) (by kernel_rfl) (fun _ _ _ h => h) (Or.inl ⟨by rfl, ?y78⟩) hHeld ?r78
                  case y78 => (intro w hSw; (try dsimp only at hSw); go_simp; try with_reducible rfl)
                  try simp only [Act.put, List.setIfInBounds_toArray, List.set_cons_zero, List.set_cons_succ]
                  refine wpAnyH_take (i := 26) (oi := { dst := some 3, op := Op.assign (Operand.tmp 45), type := 9, pos := "ref.go:38", after := #[{ on := 25, ground := Ground.data }, { on := 12, ground := Ground.chain }, { on := 0, ground := Ground.phase }, { on := 1, ground := Ground.phase }, { on := 2, ground := Ground.phase }, { on := 3, ground := Ground.phase }, { on := 4, ground := Ground.phase }, { on := 5, ground := Ground.phase }, { on := 6, ground := Ground.phase }, { on := 7, ground := Ground.phase }, { on := 8, ground := Ground.phase }, { on := 9, ground := Ground.phase }, { on := 10, ground := Ground.phase }, { on := 11, ground := Ground.phase }, { on := 12, ground := Ground.phase }, { on := 13, ground := Ground.phase }, { on := 14, ground := Ground.phase }, { on := 15, ground := Ground.phase }, { on := 16, ground := Ground.phase }, { on := 17, ground := Ground.phase }, { on := 18, ground := Ground.phase }, { on := 19, ground := Ground.phase }, { on := 20, ground := Ground.phase }, { on := 21, ground := Ground.phase }, { on := 22, ground := Ground.phase }, { on := 23, ground := Ground.phase }, { on := 24, ground := Ground.phase }, { on := 25, ground := Ground.phase }], guard := none }) (v := ?v79) rfl (by kernel_rfl) (by kernel_rfl) (by kernel_rfl) (fun _ _ _ h => h) (Or.inl ⟨by rfl, ?y79⟩) hHeld ?r79
                  case y79 => (intro w hSw; (try dsimp only at hSw); go_simp; try with_reducible rfl)
                  try simp only [Act.put, List.setIfInBounds_toArray, List.set_cons_zero, List.set_cons_succ]
                  refine wpAnyH_done (by kernel_rfl) ?_ _
                  go_wp2
                  go_roundw
                  · exact ⟨k + 1, HLT.out, by go_num, by rw [HO.out, HY5.out], by first | exact X2.out.bel | exact (X2.out.alloc _).bel⟩
                  · have := HLT.out; simp [intOf]; omega
                exact AllReadyH.nil
              exact AllReadyH.nil
            exact AllReadyH.nil
          refine AllReadyH.cons (o := { dst := some 41, op := Op.convert 40 9 (Operand.tmp 40), type := 9, pos := "ref.go:38", after := #[{ on := 20, ground := Ground.data }], guard := none }) rfl (fun K hK => ?_) ?_
          · clear hHeld
            go_simp
            refine hK.out _ _ ?_ (fun hHeld => ?_)
            · first | exact X2.out.lim | exact (X2.out.alloc _).lim | exact X1.out.lim | exact (X1.out.alloc _).lim | exact O0.out.drew.lim | exact (O0.out.alloc _).drew.lim
            clear hK K
            try simp only [Act.put, List.setIfInBounds_toArray, List.set_cons_zero, List.set_cons_succ]
            refine wpAnyH_ready (rs := [4]) (by kernel_rfl) (by simp) ?_
            refine AllReadyH.cons (o := { dst := some 24, op := Op.call { callee := Callee.value (Operand.func 33), args := #[Operand.tmp 23], argTypes := #[3] }, type := 9, pos := "ref.go:38", after := #[{ on := 3, ground := Ground.data }, { on := 3, ground := Ground.chain }], guard := none }) rfl (fun K hK => ?_) ?_
            · clear hHeld
              go_simp
              refine (CZ.out _).mono ?_
              rintro e w' ⟨rfl, rfl⟩
              try go_wp2_with fail
              refine hK.out _ _ ?_ (fun hHeld => ?_)
              · first | exact X2.out.lim | exact (X2.out.alloc _).lim | exact X1.out.lim | exact (X1.out.alloc _).lim | exact O0.out.drew.lim | exact (O0.out.alloc _).drew.lim
              clear hK K
              try simp only [Act.put, List.setIfInBounds_toArray, List.set_cons_zero, List.set_cons_succ]
              refine wpAnyH_take (i := 5) (oi := { dst := some 25, op := Op.binOp BinOp.add 9 (Operand.tmp 20) (Operand.tmp 24) 9, type := 9, pos := "ref.go:38", after := #[{ on := 0, ground := Ground.data }, { on := 4, ground := Ground.data }], guard := none }) (v := ?v80) rfl (by kernel_rfl) (by kernel_rfl) (by kernel_rfl) (fun _ _ _ h => h) (Or.inl ⟨by rfl, ?y80⟩) hHeld ?r80
              case y80 => (intro w hSw; (try dsimp only at hSw); go_simp; try with_reducible rfl)
              try simp only [Act.put, List.setIfInBounds_toArray, List.set_cons_zero, List.set_cons_succ]
              refine wpAnyH_ready (rs := [8]) (by kernel_rfl) (by simp) ?_
              refine AllReadyH.cons (o := { dst := some 28, op := Op.call { callee := Callee.value (Operand.func 39), args := #[Operand.tmp 27], argTypes := #[28] }, type := 9, pos := "ref.go:38", after := #[{ on := 7, ground := Ground.data }, { on := 4, ground := Ground.chain }], guard := none }) rfl (fun K hK => ?_) ?_
              · clear hHeld
                go_simp
                refine (CA1.out _).mono ?_
                rintro e w1 ⟨rfl, hb1⟩
                have X1 := Lib.hid (show Oc w wr.heap.size p w1 from Oc.keep (by first | exact O0.out.drew | exact (O0.out.alloc _).drew) hb1)
                have cvA1 := HCV.out (w1.alloc (.cells #[.int .u8 (x : Int), .int .u8 (y : Int)] 5)) w1.heap.size (Tw.new w1 x y)
                first | (have t1 := Lib.hid (Tw.below (Tw.new W0 x y).drew hb1); have cvB1 := HCV.out w1 W0.heap.size t1.out) | skip
                clear hb1
                try go_wp2_with fail
                refine hK.out _ _ ?_ (fun hHeld => ?_)
                · first | exact X2.out.lim | exact (X2.out.alloc _).lim | exact X1.out.lim | exact (X1.out.alloc _).lim | exact O0.out.drew.lim | exact (O0.out.alloc _).drew.lim
                clear hK K
                try simp only [Act.put, List.setIfInBounds_toArray, List.set_cons_zero, List.set_cons_succ]
                refine wpAnyH_take (i := 9) (oi := { dst := some 29, op := Op.binOp BinOp.add 9 (Operand.tmp 25) (Operand.tmp 28) 9, type := 9, pos := "ref.go:38", after := #[{ on := 5, ground := Ground.data }, { on := 8, ground := Ground.data }], guard := none }) (v := ?v81) rfl (by kernel_rfl) (by kernel_rfl) (by kernel_rfl) (fun _ _ _ h => h) (Or.inl ⟨by rfl, ?y81⟩) hHeld ?r81
                case y81 => (intro w hSw; (try dsimp only at hSw); go_simp; try with_reducible rfl)
                try simp only [Act.put, List.setIfInBounds_toArray, List.set_cons_zero, List.set_cons_succ]
                refine wpAnyH_ready (rs := [12]) (by kernel_rfl) (by simp) ?_
                refine AllReadyH.cons (o := { dst := some 32, op := Op.call { callee := Callee.value (Operand.func 39), args := #[Operand.tmp 31], argTypes := #[28] }, type := 9, pos := "ref.go:38", after := #[{ on := 11, ground := Ground.data }, { on := 8, ground := Ground.chain }], guard := none }) rfl (fun K hK => ?_) ?_
                · clear hHeld
                  go_simp
                  refine (CA2.out _).mono ?_
                  rintro e w2 ⟨rfl, hb2⟩
                  have X2 := Lib.hid (show Oc w wr.heap.size p w2 from Oc.keep (by first | exact X1.out | exact X1.out.alloc _) hb2)
                  have cvA2 := HCV.out (w2.alloc (.cells #[.int .u8 (x : Int), .int .u8 (y : Int)] 5)) w2.heap.size (Tw.new w2 x y)
                  first | (have t2 := Lib.hid (Tw.below (Tw.new w1 x y) hb2); have cvB2 := HCV.out w2 w1.heap.size t2.out) | (have t2 := Lib.hid (Tw.below t1.out hb2); have cvB2 := HCV.out w2 W0.heap.size t2.out) | skip
                  clear hb2
                  try go_wp2_with fail
                  refine hK.out _ _ ?_ (fun hHeld => ?_)
                  · first | exact X2.out.lim | exact (X2.out.alloc _).lim | exact X1.out.lim | exact (X1.out.alloc _).lim | exact O0.out.drew.lim | exact (O0.out.alloc _).drew.lim
                  clear hK K
                  try simp only [Act.put, List.setIfInBounds_toArray, List.set_cons_zero, List.set_cons_succ]
                  refine wpAnyH_take (i := 13) (oi := { dst := some 33, op := Op.binOp BinOp.add 9 (Operand.tmp 29) (Operand.tmp 32) 9, type := 9, pos := "ref.go:38", after := #[{ on := 9, ground := Ground.data }, { on := 12, ground := Ground.data }], guard := none }) (v := ?v82) rfl (by kernel_rfl) (by kernel_rfl) (by kernel_rfl) (fun _ _ _ h => h) (Or.inl ⟨by rfl, ?y82⟩) hHeld ?r82
                  case y82 => (intro w hSw; (try dsimp only at hSw); go_simp; try with_reducible rfl)
                  try simp only [Act.put, List.setIfInBounds_toArray, List.set_cons_zero, List.set_cons_succ]
                  refine wpAnyH_take (i := 22) (oi := { dst := some 42, op := Op.binOp BinOp.add 9 (Operand.tmp 33) (Operand.tmp 41) 9, type := 9, pos := "ref.go:38", after := #[{ on := 13, ground := Ground.data }, { on := 21, ground := Ground.data }], guard := none }) (v := ?v83) rfl (by kernel_rfl) (by kernel_rfl) (by kernel_rfl) (fun _ _ _ h => h) (Or.inl ⟨by rfl, ?y83⟩) hHeld ?r83
                  case y83 => (intro w hSw; (try dsimp only at hSw); go_simp; try with_reducible rfl)
                  try simp only [Act.put, List.setIfInBounds_toArray, List.set_cons_zero, List.set_cons_succ]
                  refine wpAnyH_take (i := 25) (oi := { dst := some 45, op := Op.binOp BinOp.add 9 (Operand.tmp 42) (Operand.tmp 44) 9, type := 9, pos := "ref.go:38", after := #[{ on := 22, ground := Ground.data }, { on := 24, ground := Ground.data }], guard := none }) (v := ?v84) rfl (by kernel_rfl) (by kernel_rfl) (by kernel_rfl) (fun _ _ _ h => h) (Or.inl ⟨by rfl, ?y84⟩) hHeld ?r84
                  case y84 => (intro w hSw; (try dsimp only at hSw); go_simp; try with_reducible rfl)
                  try simp only [Act.put, List.setIfInBounds_toArray, List.set_cons_zero, List.set_cons_succ]
                  refine wpAnyH_take (i := 26) (oi := { dst := some 3, op := Op.assign (Operand.tmp 45), type := 9, pos := "ref.go:38", after := #[{ on := 25, ground := Ground.data }, { on := 12, ground := Ground.chain }, { on := 0, ground := Ground.phase }, { on := 1, ground := Ground.phase }, { on := 2, ground := Ground.phase }, { on := 3, ground := Ground.phase }, { on := 4, ground := Ground.phase }, { on := 5, ground := Ground.phase }, { on := 6, ground := Ground.phase }, { on := 7, ground := Ground.phase }, { on := 8, ground := Ground.phase }, { on := 9, ground := Ground.phase }, { on := 10, ground := Ground.phase }, { on := 11, ground := Ground.phase }, { on := 12, ground := Ground.phase }, { on := 13, ground := Ground.phase }, { on := 14, ground := Ground.phase }, { on := 15, ground := Ground.phase }, { on := 16, ground := Ground.phase }, { on := 17, ground := Ground.phase }, { on := 18, ground := Ground.phase }, { on := 19, ground := Ground.phase }, { on := 20, ground := Ground.phase }, { on := 21, ground := Ground.phase }, { on := 22, ground := Ground.phase }, { on := 23, ground := Ground.phase }, { on := 24, ground := Ground.phase }, { on := 25, ground := Ground.phase }], guard := none }) (v := ?v85) rfl (by kernel_rfl) (by kernel_rfl) (by kernel_rfl) (fun _ _ _ h => h) (Or.inl ⟨by rfl, ?y85⟩) hHeld ?r85
                  case y85 => (intro w hSw; (try dsimp only at hSw); go_simp; try with_reducible rfl)
                  try simp only [Act.put, List.setIfInBounds_toArray, List.set_cons_zero, List.set_cons_succ]
                  refine wpAnyH_done (by kernel_rfl) ?_ _
                  go_wp2
                  go_roundw
                  · exact ⟨k + 1, HLT.out, by go_num, by rw [HO.out, HY5.out], by first | exact X2.out.bel | exact (X2.out.alloc _).bel⟩
                  · have := HLT.out; simp [intOf]; omega
                exact AllReadyH.nil
              exact AllReadyH.nil
            exact AllReadyH.nil
          exact AllReadyH.nil
        refine AllReadyH.cons (o := { dst := some 41, op := Op.convert 40 9 (Operand.tmp 40), type := 9, pos := "ref.go:38", after := #[{ on := 20, ground := Ground.data }], guard := none }) rfl (fun K hK => ?_) ?_
        · clear hHeld
          go_simp
          refine hK.out _ _ ?_ (fun hHeld => ?_)
          · first | exact X2.out.lim | exact (X2.out.alloc _).lim | exact X1.out.lim | exact (X1.out.alloc _).lim | exact O0.out.drew.lim | exact (O0.out.alloc _).drew.lim
          clear hK K
          try simp only [Act.put, List.setIfInBounds_toArray, List.set_cons_zero, List.set_cons_succ]
          refine wpAnyH_ready (rs := [3]) (by kernel_rfl) (by simp) ?_
          refine AllReadyH.cons (o := { dst := some 23, op := Op.call { callee := Callee.value (Operand.func 32), args := #[Operand.tmp 22], argTypes := #[3] }, type := 3, pos := "ref.go:38", after := #[{ on := 2, ground := Ground.data }], guard := none }) rfl (fun K hK => ?_) ?_
          · clear hHeld
            go_simp
            refine (CP.out _).mono ?_
            rintro e w' ⟨rfl, rfl⟩
            try go_wp2_with fail
            refine hK.out _ _ ?_ (fun hHeld => ?_)
            · first | exact X2.out.lim | exact (X2.out.alloc _).lim | exact X1.out.lim | exact (X1.out.alloc _).lim | exact O0.out.drew.lim | exact (O0.out.alloc _).drew.lim
            clear hK K
            try simp only [Act.put, List.setIfInBounds_toArray, List.set_cons_zero, List.set_cons_succ]
            refine wpAnyH_ready (rs := [4]) (by kernel_rfl) (by simp) ?_
            refine AllReadyH.cons (o := { dst := some 24, op := Op.call { callee := Callee.value (Operand.func 33), args := #[Operand.tmp 23], argTypes := #[3] }, type := 9, pos := "ref.go:38", after := #[{ on := 3, ground := Ground.data }, { on := 3, ground := Ground.chain }], guard := none }) rfl (fun K hK => ?_) ?_
            · clear hHeld
              go_simp
              refine (CZ.out _).mono ?_
              rintro e w' ⟨rfl, rfl⟩
              try go_wp2_with fail
              refine hK.out _ _ ?_ (fun hHeld => ?_)
              · first | exact X2.out.lim | exact (X2.out.alloc _).lim | exact X1.out.lim | exact (X1.out.alloc _).lim | exact O0.out.drew.lim | exact (O0.out.alloc _).drew.lim
              clear hK K
              try simp only [Act.put, List.setIfInBounds_toArray, List.set_cons_zero, List.set_cons_succ]
              refine wpAnyH_take (i := 5) (oi := { dst := some 25, op := Op.binOp BinOp.add 9 (Operand.tmp 20) (Operand.tmp 24) 9, type := 9, pos := "ref.go:38", after := #[{ on := 0, ground := Ground.data }, { on := 4, ground := Ground.data }], guard := none }) (v := ?v86) rfl (by kernel_rfl) (by kernel_rfl) (by kernel_rfl) (fun _ _ _ h => h) (Or.inl ⟨by rfl, ?y86⟩) hHeld ?r86
              case y86 => (intro w hSw; (try dsimp only at hSw); go_simp; try with_reducible rfl)
              try simp only [Act.put, List.setIfInBounds_toArray, List.set_cons_zero, List.set_cons_succ]
              refine wpAnyH_ready (rs := [8]) (by kernel_rfl) (by simp) ?_
              refine AllReadyH.cons (o := { dst := some 28, op := Op.call { callee := Callee.value (Operand.func 39), args := #[Operand.tmp 27], argTypes := #[28] }, type := 9, pos := "ref.go:38", after := #[{ on := 7, ground := Ground.data }, { on := 4, ground := Ground.chain }], guard := none }) rfl (fun K hK => ?_) ?_
              · clear hHeld
                go_simp
                refine (CA1.out _).mono ?_
                rintro e w1 ⟨rfl, hb1⟩
                have X1 := Lib.hid (show Oc w wr.heap.size p w1 from Oc.keep (by first | exact O0.out.drew | exact (O0.out.alloc _).drew) hb1)
                have cvA1 := HCV.out (w1.alloc (.cells #[.int .u8 (x : Int), .int .u8 (y : Int)] 5)) w1.heap.size (Tw.new w1 x y)
                first | (have t1 := Lib.hid (Tw.below (Tw.new W0 x y).drew hb1); have cvB1 := HCV.out w1 W0.heap.size t1.out) | skip
                clear hb1
                try go_wp2_with fail
                refine hK.out _ _ ?_ (fun hHeld => ?_)
                · first | exact X2.out.lim | exact (X2.out.alloc _).lim | exact X1.out.lim | exact (X1.out.alloc _).lim | exact O0.out.drew.lim | exact (O0.out.alloc _).drew.lim
                clear hK K
                try simp only [Act.put, List.setIfInBounds_toArray, List.set_cons_zero, List.set_cons_succ]
                refine wpAnyH_take (i := 9) (oi := { dst := some 29, op := Op.binOp BinOp.add 9 (Operand.tmp 25) (Operand.tmp 28) 9, type := 9, pos := "ref.go:38", after := #[{ on := 5, ground := Ground.data }, { on := 8, ground := Ground.data }], guard := none }) (v := ?v87) rfl (by kernel_rfl) (by kernel_rfl) (by kernel_rfl) (fun _ _ _ h => h) (Or.inl ⟨by rfl, ?y87⟩) hHeld ?r87
                case y87 => (intro w hSw; (try dsimp only at hSw); go_simp; try with_reducible rfl)
                try simp only [Act.put, List.setIfInBounds_toArray, List.set_cons_zero, List.set_cons_succ]
                refine wpAnyH_ready (rs := [12]) (by kernel_rfl) (by simp) ?_
                refine AllReadyH.cons (o := { dst := some 32, op := Op.call { callee := Callee.value (Operand.func 39), args := #[Operand.tmp 31], argTypes := #[28] }, type := 9, pos := "ref.go:38", after := #[{ on := 11, ground := Ground.data }, { on := 8, ground := Ground.chain }], guard := none }) rfl (fun K hK => ?_) ?_
                · clear hHeld
                  go_simp
                  refine (CA2.out _).mono ?_
                  rintro e w2 ⟨rfl, hb2⟩
                  have X2 := Lib.hid (show Oc w wr.heap.size p w2 from Oc.keep (by first | exact X1.out | exact X1.out.alloc _) hb2)
                  have cvA2 := HCV.out (w2.alloc (.cells #[.int .u8 (x : Int), .int .u8 (y : Int)] 5)) w2.heap.size (Tw.new w2 x y)
                  first | (have t2 := Lib.hid (Tw.below (Tw.new w1 x y) hb2); have cvB2 := HCV.out w2 w1.heap.size t2.out) | (have t2 := Lib.hid (Tw.below t1.out hb2); have cvB2 := HCV.out w2 W0.heap.size t2.out) | skip
                  clear hb2
                  try go_wp2_with fail
                  refine hK.out _ _ ?_ (fun hHeld => ?_)
                  · first | exact X2.out.lim | exact (X2.out.alloc _).lim | exact X1.out.lim | exact (X1.out.alloc _).lim | exact O0.out.drew.lim | exact (O0.out.alloc _).drew.lim
                  clear hK K
                  try simp only [Act.put, List.setIfInBounds_toArray, List.set_cons_zero, List.set_cons_succ]
                  refine wpAnyH_take (i := 13) (oi := { dst := some 33, op := Op.binOp BinOp.add 9 (Operand.tmp 29) (Operand.tmp 32) 9, type := 9, pos := "ref.go:38", after := #[{ on := 9, ground := Ground.data }, { on := 12, ground := Ground.data }], guard := none }) (v := ?v88) rfl (by kernel_rfl) (by kernel_rfl) (by kernel_rfl) (fun _ _ _ h => h) (Or.inl ⟨by rfl, ?y88⟩) hHeld ?r88
                  case y88 => (intro w hSw; (try dsimp only at hSw); go_simp; try with_reducible rfl)
                  try simp only [Act.put, List.setIfInBounds_toArray, List.set_cons_zero, List.set_cons_succ]
                  refine wpAnyH_take (i := 22) (oi := { dst := some 42, op := Op.binOp BinOp.add 9 (Operand.tmp 33) (Operand.tmp 41) 9, type := 9, pos := "ref.go:38", after := #[{ on := 13, ground := Ground.data }, { on := 21, ground := Ground.data }], guard := none }) (v := ?v89) rfl (by kernel_rfl) (by kernel_rfl) (by kernel_rfl) (fun _ _ _ h => h) (Or.inl ⟨by rfl, ?y89⟩) hHeld ?r89
                  case y89 => (intro w hSw; (try dsimp only at hSw); go_simp; try with_reducible rfl)
                  try simp only [Act.put, List.setIfInBounds_toArray, List.set_cons_zero, List.set_cons_succ]
                  refine wpAnyH_take (i := 25) (oi := { dst := some 45, op := Op.binOp BinOp.add 9 (Operand.tmp 42) (Operand.tmp 44) 9, type := 9, pos := "ref.go:38", after := #[{ on := 22, ground := Ground.data }, { on := 24, ground := Ground.data }], guard := none }) (v := ?v90) rfl (by kernel_rfl) (by kernel_rfl) (by kernel_rfl) (fun _ _ _ h => h) (Or.inl ⟨by rfl, ?y90⟩) hHeld ?r90
                  case y90 => (intro w hSw; (try dsimp only at hSw); go_simp; try with_reducible rfl)
                  try simp only [Act.put, List.setIfInBounds_toArray, List.set_cons_zero, List.set_cons_succ]
                  refine wpAnyH_take (i := 26) (oi := { dst := some 3, op := Op.assign (Operand.tmp 45), type := 9, pos := "ref.go:38", after := #[{ on := 25, ground := Ground.data }, { on := 12, ground := Ground.chain }, { on := 0, ground := Ground.phase }, { on := 1, ground := Ground.phase }, { on := 2, ground := Ground.phase }, { on := 3, ground := Ground.phase }, { on := 4, ground := Ground.phase }, { on := 5, ground := Ground.phase }, { on := 6, ground := Ground.phase }, { on := 7, ground := Ground.phase }, { on := 8, ground := Ground.phase }, { on := 9, ground := Ground.phase }, { on := 10, ground := Ground.phase }, { on := 11, ground := Ground.phase }, { on := 12, ground := Ground.phase }, { on := 13, ground := Ground.phase }, { on := 14, ground := Ground.phase }, { on := 15, ground := Ground.phase }, { on := 16, ground := Ground.phase }, { on := 17, ground := Ground.phase }, { on := 18, ground := Ground.phase }, { on := 19, ground := Ground.phase }, { on := 20, ground := Ground.phase }, { on := 21, ground := Ground.phase }, { on := 22, ground := Ground.phase }, { on := 23, ground := Ground.phase }, { on := 24, ground := Ground.phase }, { on := 25, ground := Ground.phase }], guard := none }) (v := ?v91) rfl (by kernel_rfl) (by kernel_rfl) (by kernel_rfl) (fun _ _ _ h => h) (Or.inl ⟨by rfl, ?y91⟩) hHeld ?r91
                  case y91 => (intro w hSw; (try dsimp only at hSw); go_simp; try with_reducible rfl)
                  try simp only [Act.put, List.setIfInBounds_toArray, List.set_cons_zero, List.set_cons_succ]
                  refine wpAnyH_done (by kernel_rfl) ?_ _
                  go_wp2
                  go_roundw
                  · exact ⟨k + 1, HLT.out, by go_num, by rw [HO.out, HY5.out], by first | exact X2.out.bel | exact (X2.out.alloc _).bel⟩
                  · have := HLT.out; simp [intOf]; omega
                exact AllReadyH.nil
              exact AllReadyH.nil
            exact AllReadyH.nil
          exact AllReadyH.nil
        exact AllReadyH.nil
      exact AllReadyH.nil
    · obtain rfl : k = l.length := by omega
      have HF : Hid (oc (l.take l.length) = oc l) := by rw [List.take_length]; exact rfl
      have HB := Lib.hid hb
      clear hb
      go_wp2
      go_returns
      exact ⟨by rw [← HF.out]; rfl, HB.out⟩

set_option maxRecDepth 100000 in
set_option maxHeartbeats 4000000 in
theorem r16Encode_any (l : List Pk) (sa : Option Addr) (c : Nat) (w : World) (h : At w sa l) (hz : sz l) :
    Calls Try.prog 13 #[.slice sa l.length c] w fun e w' => EncPost l w e w' := by
  have HA := Lib.hid h
  have HZ := Lib.hid hz
  have HL := Lib.hid fun k => ln_take_le hz k
  have hl : l.length ≤ 3000 := hz.1
  clear hz
  by_cases h0 : l.length = 0
  · have HE := Lib.hid (encE_none h0)
    have h0' : ((l.length : Int) == 0) = true := by simp; exact List.length_eq_zero_iff.1 h0
    clear h
    go_enter Try.func13, Try.ntmps13
    go_wp2
    go_returns
    exact encPost_err HE.out (by decide) rfl (Below.refl _ _)
  have H0 := Lib.hid h0
  have h0' : ((l.length : Int) == 0) = false := by rw [beq_eq_false_iff_ne]; omega
  clear h h0
  go_enter Try.func13, Try.ntmps13
  go_wp2
  go_loopw [4] (fun i wr => ∃ k : Nat, k ≤ l.length ∧ i = .int .i64 k ∧ (∀ j (hj : j < l.length), j < k → chk l[j] = 0) ∧ Below w.heap.size w wr) (fun i _ => l.length - (intOf i).toNat)
  case atStart => exact ⟨0, Nat.zero_le _, rfl, fun j _ hj => absurd hj (Nat.not_lt_zero j), Below.refl _ _⟩
  case round =>
    rename_i wr
    obtain ⟨k, hk, rfl, hj, hb⟩ := hrel
    have HJ := Lib.hid hj
    have HB := Lib.hid hb
    clear hj
    by_cases hlt : k < l.length
    · obtain ⟨b, off, rfl, hbl, c0, c1, c2⟩ := HA.out.below hb k hlt
      have HLT := Lib.hid hlt
      obtain ⟨hps, hpw⟩ := HZ.out.2 l[k] (List.getElem_mem hlt)
      have HX : Hid (¬ chk l[k] = 0 → chkL l = chk l[k]) := fun hn => chkL_at hlt HJ.out hn
      have HG : Hid (chk l[k] = 0 → ∀ j (hj : j < l.length), j < k + 1 → chk l[j] = 0) := fun h0 j hj hjk => by
        by_cases e : j = k
        · subst e; exact h0
        · exact HJ.out j hj (by omega)
      have CC := Lib.hid fun w => r16Check_any l[k] w hpw
      generalize l[k] = p at *
      generalize chk p = r at *
      clear hpw hb hbl
      by_cases hr : r = 0
      · subst hr
        have HR := Lib.hid (HG.out rfl)
        clear HX HG
        go_wp2_with (go_at_call 11; refine (CC.out _).mono ?_; rintro e w2 ⟨rfl, h⟩; have HB2 := Lib.hid (HB.out.trans (h.mono HB.out.size)); clear h)
        go_roundw
        case rel => exact ⟨k + 1, HLT.out, by go_num, HR.out, HB2.out⟩
        case measure => have := HLT.out; simp [intOf]; omega
      · have hr' : (r != 0) = true := by rw [bne_iff_ne]; exact hr
        have HR := Lib.hid (HX.out hr)
        have HE := Lib.hid ((encE_bad H0.out (by rw [HR.out]; exact hr)).trans HR.out)
        have H1 := Lib.hid hr
        clear HX HG hr HR
        go_wp2_with (go_at_call 11; refine (CC.out _).mono ?_; rintro e w2 ⟨rfl, h⟩; have HB2 := Lib.hid (HB.out.trans (h.mono HB.out.size)); clear h)
        go_returns
        exact encPost_err HE.out H1.out rfl HB2.out
    · obtain rfl : k = l.length := by omega
      have HR : Hid (chkL l = 0) := chkL_all fun j hj => HJ.out j hj hj
      have hn := HL.out l.length
      have CJ := Lib.hid (r16Octets_any l sa c wr (HA.out.below hb) HZ.out HR.out)
      have hsz : ((⟨(oc l).toArray⟩ : ByteArray).size : Int) = (ln 0 l : Nat) := by
        rw [← oc_len]; exact congrArg Int.ofNat List.size_toArray
      have HS0 : Hid (encE l = 0 → encS l = ⟨(oc l).toArray⟩) := fun h => if_pos h
      rw [List.take_length] at hn
      generalize (⟨(oc l).toArray⟩ : ByteArray) = Y at *
      by_cases h2 : 2048 < ln 0 l
      · have HE := Lib.hid (encE_long H0.out HR.out h2)
        have h2' : (2048 : Int) < (Y.size : Int) := by omega
        clear hb h2 hsz
        go_wp2_with (go_at_call 25; refine CJ.out.mono ?_; rintro e w2 ⟨rfl, h⟩; have HB2 := Lib.hid (HB.out.trans (h.mono HB.out.size)); clear h)
        go_returns
        exact encPost_err HE.out (by decide) rfl HB2.out
      · have HE := Lib.hid (encE_good H0.out HR.out h2)
        have HS := Lib.hid (HS0.out HE.out)
        have h2' : ¬ (2048 : Int) < (Y.size : Int) := by omega
        clear hb h2 hsz
        go_wp2_with (go_at_call 25; refine CJ.out.mono ?_; rintro e w2 ⟨rfl, h⟩; have HB2 := Lib.hid (HB.out.trans (h.mono HB.out.size)); clear h)
        go_returns
        exact ⟨by rw [HS.out, HE.out]; rfl, HB2.out⟩
end Go.Proofs.Ytlkipjpjkiffjaa
