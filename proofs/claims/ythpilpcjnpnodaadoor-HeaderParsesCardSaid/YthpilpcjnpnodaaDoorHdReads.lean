/-
  THE LAW HeaderReads of layer 10: equal frames, the length of the octets, a new Reader.
  THE LAW HeaderReads of layer 10: its walk.
  THE LAW HeaderReads of layer 10: its walk where the frame is good.
  THE LAW HeaderReads of layer 10: every case together.
-/
import Derived.Test.YthpilpcjnpnodaaDoorHdLaws2
import Derived.Test.YthpilpcjnpnodaaDoorHdRd
import Derived.Test.YthpilpcjnpnodaaDoorHdRdMath
import Derived.ChangeKeysEq
import Derived.Deep.RegionHeld3
namespace Go.Proofs.YthpilpcjnpnodaaDoor
open Go.RowKit Go.Hd Go.Wr Go.Ad

theorem oct_len_is {f : Fr} (h : chk f = 0) : ((oct f).length : Int) = len f := by
  have hk := (okf_of h).kd
  have e1 : (o1 f).length = 10 := by unfold o1; simp [le_len, be_len]
  have e2 : ((o2 f).length : Int) = if fro f.kd then 6 else 0 := by unfold o2; split <;> simp [be_len]
  have e3 : ((o3 f).length : Int) = if nb f.kd then 8 else 0 := by unfold o3; split <;> simp [be_len, le_len]
  have e4 : ((o4 f).length : Int) = if pl f.kd then 1 else 0 := by unfold o4; split <;> simp [le_len]
  have e5 : ((o5 f).length : Int) = if f.kd = 18 then (if f.ky = 0 then 2 else 7) else 0 := by
    unfold o5; split
    · split <;> simp [le_len]
    · simp
  unfold oct len
  rw [if_neg (not_not_intro hk)]
  simp only [List.length_append, Int.natCast_add]
  rw [e1, e2, e3, e4, e5]
  rfl

/-- The state of a new Reader. -/
theorem rs_new (w : World) (s : ByteArray) : Rs (w.alloc (.cells #[.int .i64 0, .string s] 77)) w.heap.size (0, s.data.toList) := by
  have h : bz s.data.toList = s := by unfold bz; simp
  unfold Rs Rd
  rw [h]
  exact Blk.new w _ _ _ rfl

theorem fr_ht : Tryd.prog.underlying 25 = some (.struct (Tryd.prog.fieldsOf 25)) := by kernel_rfl
theorem fr_hp : Tryd.prog.stoodInHeld 25 = false := by kernel_rfl
theorem fr_hm : Tryd.prog.eqGuardType Tryd.prog.depth 25 = false := by kernel_rfl
/-- A field of integers, bools or strings, and what lies in it. -/
def okFb (P : Program) (xs : Array Value) (f : Field) : Bool :=
  f.name != "_" && P.plainKey f.type && (match P.underlying f.type, xs[f.offset]? with
    | some (.int _), some (.int _ _) => true
    | some .bool, some (.bool _) => true
    | some .string, some (.string _) => true
    | _, _ => false)
theorem eqFields_same {P : Program} (d : Nat) (xs : Array Value) (w : World) : ∀ fs : List Field, fs.all (okFb P xs) = true → (Op.eqFields (d + 1) xs xs fs).run P w = .ok true w
  | [], _ => by simp [Op.eqFields]
  | f :: fs, h => by
    rw [List.all_cons, Bool.and_eq_true] at h
    obtain ⟨h1, h2⟩ := h
    have ih := eqFields_same d xs w fs h2
    unfold okFb at h1
    simp only [Bool.and_eq_true, bne_iff_ne] at h1
    obtain ⟨⟨hn, hp⟩, hm⟩ := h1
    have key : ∃ v, xs[f.offset]? = some v ∧ (Op.equalIn (d + 1) f.type v v).run P w = .ok true w := by
      split at hm
      · rename_i k k' n hu hx; exact ⟨_, hx, by rw [run_equalIn_int w d _ _ _ _ _ hu]; simp⟩
      · rename_i b hu hx; exact ⟨_, hx, by rw [run_equalIn_bool w d _ _ _ hu]; simp⟩
      · rename_i s hu hx; exact ⟨_, hx, by rw [run_equalIn_string w d _ _ _ hu]; simp⟩
      · cases hm
    obtain ⟨v, hx, he⟩ := key
    simp only [Op.eqFields, if_pos hn, Sem.run_bind, run_part_plain w hp hx, Result.andThen_ok, he]
    simpa using ih
theorem fr_okF (x : Fr) : ((Tryd.prog.fieldsOf 25).toList.all (okFb Tryd.prog (Fr_.C x))) = true := by kernel_rfl
theorem fr_eq (x : Fr) (w : World) : (Op.equalIn 10000 25 (.agg (Fr_.C x)) (.agg (Fr_.C x))).run Tryd.prog w = .ok true w := by
  rw [show (10000 : Nat) = 9998 + 1 + 1 from rfl, run_equalIn_agg w _ _ _ _ fr_ht fr_hp]
  exact eqFields_same _ _ w _ (fr_okF x)
theorem fr_neq (x : Fr) (w : World) : (binOp .neq 25 (Fr_.v x) (Fr_.v x)).run Tryd.prog w = .ok (.bool false) w := by
  rw [Fr_.v_agg, run_neq_struct, fr_eq]; rfl
theorem fr_eql (x : Fr) (w : World) : (binOp .eql 25 (Fr_.v x) (Fr_.v x)).run Tryd.prog w = .ok (.bool true) w := by
  rw [Fr_.v_agg, run_eql_struct, fr_eq]; rfl
theorem fr_guard (op : BinOp) (a b : Operand) (x y : Fr) (w : World) : (eqGuard op 25 a b (Fr_.v x) (Fr_.v y)).run Tryd.prog w = .ok () w := by
  rw [Fr_.v_agg, Fr_.v_agg, run_eqGuard_agg w op _ a b _ _ fr_hm]
end Go.Proofs.YthpilpcjnpnodaaDoor

namespace Go.Proofs.YthpilpcjnpnodaaDoor
open Go.RowKit Go.Hd Go.Wr Go.Ad
theorem fr_guard_lit (op : BinOp) (a b : Operand) (x : Fr) (w : World) : (eqGuard op 25 a b (Fr_.v x) (.agg #[.int .i64 0, .bool false, .bool false, .bool false, .bool false, .bool false, .bool false, .int .i64 0, .int .i64 0, .int .u64 0, .int .u64 0, .int .u64 0, .int .i64 0, .int .i64 0, .int .i64 0, .int .i64 0, .int .i64 0, .string ⟨#[]⟩])).run Tryd.prog w = .ok () w := fr_guard op a b x Fr_.zf w
theorem fr_eql_lit (w : World) : (binOp .eql 25 (Fr_.v Fr_.zf) (.agg #[.int .i64 0, .bool false, .bool false, .bool false, .bool false, .bool false, .bool false, .int .i64 0, .int .i64 0, .int .u64 0, .int .u64 0, .int .u64 0, .int .i64 0, .int .i64 0, .int .i64 0, .int .i64 0, .int .i64 0, .string ⟨#[]⟩])).run Tryd.prog w = .ok (.bool true) w := fr_eql Fr_.zf w
attribute [local go_sem ↓ high] Fr_.loadF Fr_.storeF Fr_.v_cells Fr_.v_match fr_guard fr_neq fr_eql fr_guard_lit fr_eql_lit
attribute [local go_sem] Fr_.C0 Fr_.C1 Fr_.C2 Fr_.C3 Fr_.C4 Fr_.C5 Fr_.C6 Fr_.C7 Fr_.C8 Fr_.C9 Fr_.C10 Fr_.C11 Fr_.C12 Fr_.C13 Fr_.C14 Fr_.C15 Fr_.C16 Fr_.C17 Fr_.loadF_new Fr_.storeF_zero

/-- What Read does with these octets. -/
structure RdC (l : List UInt8) (y : Fr) (τ : Sg) : Prop where
  rd : ∀ w b, HdTab w → Rs w b (0, l) → b ≠ 0 → Calls Tryd.prog 27 #[.pointer (some ⟨b, 0, none⟩)] w fun e w' => e = .returned (Fr_.v y) ∧ Rs w' b τ ∧ But b w w'
  bad : τ.1 ≠ 0 → y = Fr_.zf
  good : τ.1 = 0 → chk y = 0 ∧ oct y ++ τ.2 = l
  fru : FrU y
theorem rdC (l : List UInt8) : RdC l (rdP (0, l)).1 (rdP (0, l)).2 := by
  refine ⟨fun w b ht h hb => progRead_any (0, l) w b ht h hb, fun h => ?_, fun h => rd_written l h, ?_⟩
  · unfold rdP at h ⊢
    simp only at h ⊢
    split
    · rename_i h0; rw [if_pos h0] at h; exact absurd h0 h
    · rfl
  · unfold rdP
    simp only
    split
    · exact fru_rd _
    · exact (show FrU Fr_.zf from ⟨by constructor <;> decide, by constructor <;> decide, by constructor <;> decide⟩)

set_option maxRecDepth 100000 in
set_option maxHeartbeats 4000000 in
theorem reads_no (f : Fr) (hw : FrWf f) (t : ByteArray) (W : World) (hl : LaidFacts W) (hs : ¬ (200 : Int) < (t.size : Int)) (hc : ¬ chk f = 0) (y : Fr) (τ : Sg) (D : RdC t.data.toList y τ) (hz : ¬ τ.1 = 0) :
    Calls Tryd.prog 7 #[Fr_.v f, .string t] W fun e w' => e = .returned (.bool true) ∧ Below W.heap.size W w' := by
  have HT : Hid (∀ w, Below W.heap.size W w → HdTab w) := fun w hb => HdTab.below hl hb (Nat.le_refl _)
  have HK : Hid (0 < W.heap.size) := HdTab.lt hl
  have CF := Lib.hid (fun w h => progCheck_any f w h (fru_wf hw))
  have HD := Lib.hid D
  obtain ⟨w1, hw1⟩ : ∃ w1, W.alloc (.cells (Fr_.C f) 25) = w1 := ⟨_, rfl⟩
  have S1 := Lib.hid (show Stf W W.heap.size f w1 from hw1 ▸ Stf.new W f)
  have l1 := S1.out.box.loadF
  have hcn : (chk f == 0) = false := by rw [beq_eq_false_iff_ne]; exact hc
  have hzn : (τ.1 != 0) = true := by rw [bne_iff_ne]; exact hz
  obtain rfl := D.bad hz
  clear hw hl hc hz D
  go_enter Tryd.func7, Tryd.ntmps7
  go_wp2_with (first
    | (go_at_call 9; refine (CF.out _ (HT.out _ S1.out.bel)).mono ?_; rintro e w2 ⟨rfl, hb⟩; have S2 := Lib.hid (Stf.keep _ _ S1.out hb); clear hb l1
       obtain ⟨w3, hw3⟩ : ∃ w3, w2.alloc (.cells #[.int .i64 0, .string t] 77) = w3 := ⟨_, rfl⟩
       have R3 := Lib.hid (hw3 ▸ rs_new w2 t)
       have B3 := Lib.hid (show Below W.heap.size W w3 from hw3 ▸ S2.out.bel.alloc S2.out.bel.size _))
    | (go_at_call 26; refine (new_any _ _).mono ?_; rintro e w3' ⟨rfl, rfl⟩)
    | (go_at_call 27; refine (HD.out.rd _ _ (HT.out _ B3.out) R3.out (by have := HK.out; have := S2.out.bel.size; omega)).mono ?_; rintro e w4 ⟨rfl, h4, b4⟩; have R4 := Lib.hid h4; have B4 := Lib.hid (B3.out.trans (b4.below B3.out.size S2.out.bel.size)); clear h4 b4
       obtain ⟨w5, hw5⟩ : ∃ w5, w4.alloc (.cells (Fr_.C Fr_.zf) 25) = w5 := ⟨_, rfl⟩
       have R5 := Lib.hid (show Rs w5 w2.heap.size τ from R4.out.blk (hw5 ▸ ((Below.refl _ _).alloc (Nat.le_refl _) _).block _ R4.out.lt))
       have B5 := Lib.hid (show Below W.heap.size W w5 from hw5 ▸ B4.out.alloc B4.out.size _)
       have l5 : (Fr_.LoadF ⟨w4.heap.size, 0, none⟩).run Tryd.prog w5 = .ok (Fr_.v Fr_.zf) w5 := hw5 ▸ Fr_.loadF_new w4 Fr_.zf)
    | (go_at_call 29; refine (err_tot _ τ _ R5.out).mono ?_; rintro e w6 ⟨rfl, rfl⟩)
    | (go_at_call 13; refine (lives10_any _ (HT.out _ B5.out)).mono ?_; rintro e w7 ⟨rfl, hb⟩; have B7 := Lib.hid (B5.out.trans (hb.mono B5.out.size)); clear hb))
  go_returns
  exact ⟨rfl, B7.out⟩
set_option maxRecDepth 100000 in
set_option maxHeartbeats 4000000 in
theorem reads_yes (f : Fr) (hw : FrWf f) (t : ByteArray) (W : World) (hl : LaidFacts W) (hs : ¬ (200 : Int) < (t.size : Int)) (hc : ¬ chk f = 0) (y : Fr) (τ : Sg) (D : RdC t.data.toList y τ) (hz : τ.1 = 0) :
    Calls Tryd.prog 7 #[Fr_.v f, .string t] W fun e w' => e = .returned (.bool true) ∧ Below W.heap.size W w' := by
  have HT : Hid (∀ w, Below W.heap.size W w → HdTab w) := fun w hb => HdTab.below hl hb (Nat.le_refl _)
  have HK : Hid (0 < W.heap.size) := HdTab.lt hl
  have CF := Lib.hid (fun w h => progCheck_any f w h (fru_wf hw))
  have HD := Lib.hid D
  obtain ⟨w1, hw1⟩ : ∃ w1, W.alloc (.cells (Fr_.C f) 25) = w1 := ⟨_, rfl⟩
  have S1 := Lib.hid (show Stf W W.heap.size f w1 from hw1 ▸ Stf.new W f)
  have l1 := S1.out.box.loadF
  have hcn : (chk f == 0) = false := by rw [beq_eq_false_iff_ne]; exact hc
  have hzn : (τ.1 != 0) = false := by rw [hz]; rfl
  obtain ⟨hcy, hoc⟩ := D.good hz
  have CW : Hid (∀ w, HdTab w → Calls Tryd.prog 31 #[Fr_.v y] w fun e w' => e = .returned (.tuple #[.string (bs (oct y)), .int .i64 0]) ∧ Below w.heap.size w w') := fun w h => lawWrite_any y w h (okf_of hcy)
  have CY := Lib.hid (fun w h => progCheck_any y w h D.fru)
  have hadd : ∀ w, (Op.stringOp .add (bs (oct y)) (bz τ.2)).run Tryd.prog w = .ok (.string t) w := fun w => by
    have hl2 := congrArg List.length hoc
    rw [List.length_append, show t.data.toList.length = t.size from Array.length_toList] at hl2
    have h := add_run (oct y) τ.2 (by omega) w
    rw [hoc] at h
    exact h
  obtain ⟨e0, R⟩ := τ
  obtain rfl : e0 = 0 := hz
  clear hw hl hc D
  go_enter Tryd.func7, Tryd.ntmps7
  go_wp2_with (first
    | (go_at_call 9; refine (CF.out _ (HT.out _ S1.out.bel)).mono ?_; rintro e w2 ⟨rfl, hb⟩; have S2 := Lib.hid (Stf.keep _ _ S1.out hb); clear hb l1
       obtain ⟨w3, hw3⟩ : ∃ w3, w2.alloc (.cells #[.int .i64 0, .string t] 77) = w3 := ⟨_, rfl⟩
       have R3 := Lib.hid (hw3 ▸ rs_new w2 t)
       have B3 := Lib.hid (show Below W.heap.size W w3 from hw3 ▸ S2.out.bel.alloc S2.out.bel.size _))
    | (go_at_call 26; refine (new_any _ _).mono ?_; rintro e w3' ⟨rfl, rfl⟩)
    | (go_at_call 27; refine (HD.out.rd _ _ (HT.out _ B3.out) R3.out (by have := HK.out; have := S2.out.bel.size; omega)).mono ?_; rintro e w4 ⟨rfl, h4, b4⟩; have R4 := Lib.hid h4; have B4 := Lib.hid (B3.out.trans (b4.below B3.out.size S2.out.bel.size)); clear h4 b4
       obtain ⟨w5, hw5⟩ : ∃ w5, w4.alloc (.cells (Fr_.C y) 25) = w5 := ⟨_, rfl⟩
       have R5 := Lib.hid (show Rs w5 w2.heap.size (0, R) from R4.out.blk (hw5 ▸ ((Below.refl _ _).alloc (Nat.le_refl _) _).block _ R4.out.lt))
       have B5 := Lib.hid (show Below W.heap.size W w5 from hw5 ▸ B4.out.alloc B4.out.size _)
       have G5 := Lib.hid (show Fr_.Box w5 w4.heap.size y from hw5 ▸ Fr_.Box.newC w4 y)
       have l5 : (Fr_.LoadF ⟨w4.heap.size, 0, none⟩).run Tryd.prog w5 = .ok (Fr_.v y) w5 := hw5 ▸ Fr_.loadF_new w4 y)
    | (go_at_call 29; refine (err_tot _ _ _ R5.out).mono ?_; rintro e w6 ⟨rfl, rfl⟩))
  refine (CW.out _ (HT.out _ B5.out)).mono ?_
  rintro e w7 ⟨rfl, hb⟩
  have HS : Hid (∀ w w' : World, (Fr_.Box w w4.heap.size y ∧ Below W.heap.size W w) → Below w.heap.size w w' → ((Fr_.LoadF ⟨w4.heap.size, 0, none⟩).run Tryd.prog w' = .ok (Fr_.v y) w' ∧ Fr_.Box w' w4.heap.size y ∧ Below W.heap.size W w')) :=
    fun w w' h hb => ⟨(h.1.below hb h.1.lt).loadF, h.1.below hb h.1.lt, h.2.trans (hb.mono h.2.size)⟩
  obtain ⟨q1, q2, q3⟩ := HS.out w5 w7 ⟨G5.out, B5.out⟩ hb
  have QD := Lib.hid (And.intro q1 (And.intro q2 q3))
  have RD := Lib.hid (show Rs w7 w2.heap.size (0, R) from R5.out.blk (hb.block _ R5.out.lt))
  have HN : Hid (W.heap.size ≤ w2.heap.size) := S2.out.bel.size
  have HG : Hid (w4.heap.size ≠ w2.heap.size) := by have := R4.out.lt; unfold Hid; omega
  have CK : Hid (∀ w, ((Fr_.LoadF ⟨w4.heap.size, 0, none⟩).run Tryd.prog w = .ok (Fr_.v y) w ∧ Fr_.Box w w4.heap.size y ∧ Below W.heap.size W w) → Rs w w2.heap.size (0, R) → Calls Tryd.prog 9 #[Fr_.v y] w fun x w' => x = .returned (.int .i64 0) ∧ ((Fr_.LoadF ⟨w4.heap.size, 0, none⟩).run Tryd.prog w' = .ok (Fr_.v y) w' ∧ Fr_.Box w' w4.heap.size y ∧ Below W.heap.size W w') ∧ Rs w' w2.heap.size (0, R)) :=
    fun w h hr => (CY.out w (HT.out w h.2.2)).mono fun x w' ⟨h1, h2⟩ => ⟨by rw [h1, hcy], HS.out w w' h.2 h2, hr.blk (h2.block _ hr.lt)⟩
  have CR : Hid (∀ w, ((Fr_.LoadF ⟨w4.heap.size, 0, none⟩).run Tryd.prog w = .ok (Fr_.v y) w ∧ Fr_.Box w w4.heap.size y ∧ Below W.heap.size W w) → Rs w w2.heap.size (0, R) → Calls Tryd.prog 32 #[.pointer (some ⟨w2.heap.size, 0, none⟩)] w fun x w' => x = .returned (.string (bz R)) ∧ ((Fr_.LoadF ⟨w4.heap.size, 0, none⟩).run Tryd.prog w' = .ok (Fr_.v y) w' ∧ Fr_.Box w' w4.heap.size y ∧ Below W.heap.size W w')) :=
    fun w h hr => (rest_ok _ _ w hr).mono fun x w' ⟨h1, h2⟩ => ⟨h1, by subst h2; have hbx := Fr_.Box.other h.2.1 (a := ⟨w2.heap.size, 1, none⟩) HG.out (.string ⟨#[]⟩); exact ⟨hbx.loadF, hbx, h.2.2.setCell (p := ⟨w2.heap.size, 1, none⟩) HN.out _⟩⟩
  have CL : Hid (∀ w, ((Fr_.LoadF ⟨w4.heap.size, 0, none⟩).run Tryd.prog w = .ok (Fr_.v y) w ∧ Fr_.Box w w4.heap.size y ∧ Below W.heap.size W w) → Calls Tryd.prog 13 #[] w fun x w' => x = .returned (.bool true) ∧ ((Fr_.LoadF ⟨w4.heap.size, 0, none⟩).run Tryd.prog w' = .ok (Fr_.v y) w' ∧ Fr_.Box w' w4.heap.size y ∧ Below W.heap.size W w')) :=
    fun w h => (lives10_any w (HT.out w h.2.2)).mono fun x w' ⟨h1, h2⟩ => ⟨h1, HS.out w w' h.2 h2⟩
  clear hb l5 q1 q2 q3 hw1 hw3 hw5 HS HD CW CY CF R3 B3 R4 B4 R5 B5 G5 S1 S2 HT HK HN HG hcn hoc hcy
  obtain ⟨q1, q2, q3⟩ := QD.out
  have q4 := RD.out
  have Q := Lib.hid (And.intro q2 q3)
  have Q4 := Lib.hid q4
  clear QD RD q2 q3 q4
  go_wp2_with (first
    | (go_at_call 9; refine (CK.out _ ⟨q1, Q.out.1, Q.out.2⟩ Q4.out).mono ?_; rintro x w8 ⟨rfl, ⟨r1, r2, r3⟩, r4⟩; have T := Lib.hid (And.intro r2 r3); have T4 := Lib.hid r4; clear r2 r3 r4 q1)
    | (go_at_call 32; refine (CR.out _ ⟨r1, T.out.1, T.out.2⟩ T4.out).mono ?_; rintro x w9 ⟨rfl, s1, s2, s3⟩; have U := Lib.hid (And.intro s2 s3); clear s2 s3 r1)
    | (go_at_call 13; refine (CL.out _ ⟨s1, U.out.1, U.out.2⟩).mono ?_; rintro x w10 ⟨rfl, t1, t2, t3⟩; have V := Lib.hid t3; clear t1 t2 t3 s1))
  go_returns
  exact ⟨rfl, V.out⟩
end Go.Proofs.YthpilpcjnpnodaaDoor

namespace Go.Proofs.YthpilpcjnpnodaaDoor
open Go.RowKit Go.Hd Go.Wr Go.Ad
attribute [local go_sem ↓ high] Fr_.loadF Fr_.storeF Fr_.v_cells Fr_.v_match fr_guard fr_neq fr_eql fr_guard_lit fr_eql_lit
attribute [local go_sem] Fr_.C0 Fr_.C1 Fr_.C2 Fr_.C3 Fr_.C4 Fr_.C5 Fr_.C6 Fr_.C7 Fr_.C8 Fr_.C9 Fr_.C10 Fr_.C11 Fr_.C12 Fr_.C13 Fr_.C14 Fr_.C15 Fr_.C16 Fr_.C17 Fr_.loadF_new Fr_.storeF_zero

set_option maxRecDepth 100000 in
set_option maxHeartbeats 4000000 in
theorem reads_ok_no (f : Fr) (hw : FrWf f) (t : ByteArray) (W : World) (hl : LaidFacts W) (hs : ¬ (200 : Int) < (t.size : Int)) (hc : chk f = 0) (y : Fr) (τ : Sg) (D : RdC t.data.toList y τ) (hz : ¬ τ.1 = 0) :
    Calls Tryd.prog 7 #[Fr_.v f, .string t] W fun e w' => e = .returned (.bool true) ∧ Below W.heap.size W w' := by
  have HT : Hid (∀ w, Below W.heap.size W w → HdTab w) := fun w hb => HdTab.below hl hb (Nat.le_refl _)
  have HK : Hid (0 < W.heap.size) := HdTab.lt hl
  have CF : Hid (∀ w, HdTab w → Calls Tryd.prog 9 #[Fr_.v f] w fun e w' => e = .returned (.int .i64 0) ∧ Below w.heap.size w w') := fun w h => by have h2 := progCheck_any f w h (fru_wf hw); rw [hc] at h2; exact h2
  have CW0 : Hid (∀ w, HdTab w → Calls Tryd.prog 31 #[Fr_.v f] w fun e w' => e = .returned (.tuple #[.string (bs (oct f)), .int .i64 0]) ∧ Below w.heap.size w w') := fun w h => lawWrite_any f w h (okf_of hc)
  have hts : t.data.toList.length = t.size := Array.length_toList
  have hol := oct_len f
  obtain ⟨z, hz0⟩ : ∃ z, z = bs (oct f ++ t.data.toList) := ⟨_, rfl⟩
  have zl : z.data.toList = oct f ++ t.data.toList := by rw [hz0]; simp [bs]
  have hadd0 : ∀ w, (Op.stringOp .add (bs (oct f)) t).run Tryd.prog w = .ok (.string z) w := fun w => by rw [hz0]; exact add_run (oct f) t.data.toList (by omega) w
  obtain ⟨f0, hf0⟩ : ∃ f0, f0 = { f with bo := ⟨#[]⟩ } := ⟨_, rfl⟩
  have CR0 : Hid (∀ w b, HdTab w → Rs w b (0, z.data.toList) → b ≠ 0 → Calls Tryd.prog 27 #[.pointer (some ⟨b, 0, none⟩)] w fun e w' => e = .returned (Fr_.v f0) ∧ Rs w' b (0, t.data.toList) ∧ But b w w') := fun w b ht h hb => by
    have h2 := progRead_any (0, z.data.toList) w b ht h hb
    rw [zl, rd_back hc] at h2
    rw [hf0]; exact h2
  have CL0 : Hid (∀ w, HdTab w → Calls Tryd.prog 11 #[Fr_.v f0] w fun e w' => e = .returned (.int .i64 (len f)) ∧ Below w.heap.size w w') := fun w h => by
    have h2 := progLength_any f0 w h
    have hll : len f0 = len f := by rw [hf0]; rfl
    rw [hll] at h2; exact h2
  have CR1 : Hid (∀ w b, Rs w b (0, t.data.toList) → W.heap.size ≤ b → Below W.heap.size W w → Calls Tryd.prog 32 #[.pointer (some ⟨b, 0, none⟩)] w fun e w' => e = .returned (.string t) ∧ Below W.heap.size W w') := fun w b h hb hB => by
    have hbz : bz t.data.toList = t := by unfold bz; simp
    refine (rest_ok b (bz t.data.toList) w h).mono ?_
    rintro e w' ⟨rfl, rfl⟩
    exact ⟨by rw [hbz], hB.setCell (p := ⟨b, 1, none⟩) hb _⟩
  have hlen : ((((bs (oct f)).size : Nat) : Int) != len f) = false := by rw [bne_eq_false_iff_eq, ← oct_len_is hc]; simp [bs, ByteArray.size]
  have HF0 := Lib.hid hf0.symm
  have HD := Lib.hid D
  obtain ⟨w1, hw1⟩ : ∃ w1, W.alloc (.cells (Fr_.C f) 25) = w1 := ⟨_, rfl⟩
  have S1 := Lib.hid (show Stf W W.heap.size f w1 from hw1 ▸ Stf.new W f)
  have l1 := S1.out.box.loadF
  have hzn : (τ.1 != 0) = true := by rw [bne_iff_ne]; exact hz
  obtain rfl := D.bad hz
  clear hw hl hc hz D hf0 zl hz0 hol hts
  go_enter Tryd.func7, Tryd.ntmps7
  go_wp2_with (first
    | (go_at_call 9; with_reducible refine (CF.out _ (HT.out _ S1.out.bel)).mono ?_; rintro e u2 ⟨rfl, hb⟩; have S2 := Lib.hid (Stf.keep _ _ S1.out hb); clear hb l1; have l2 := S2.out.box.loadF)
    | (go_at_call 31; with_reducible refine (CW0.out _ (HT.out _ S2.out.bel)).mono ?_; rintro e u3 ⟨rfl, hb⟩; have S3 := Lib.hid (Stf.keep _ _ S2.out hb); clear hb l2
       obtain ⟨u4, hu4⟩ : ∃ u4, u3.alloc (.cells #[.int .i64 0, .string z] 77) = u4 := ⟨_, rfl⟩
       have S4 := Lib.hid (show Stf W W.heap.size f u4 from hu4 ▸ Stf.keep _ _ S3.out ((Below.refl _ _).alloc (Nat.le_refl _) _))
       have R4 := Lib.hid (show Rs u4 u3.heap.size (0, z.data.toList) from hu4 ▸ rs_new u3 z))
    | (go_at_call 26; refine (new_any _ _).mono ?_; rintro e w3' ⟨rfl, rfl⟩)
    | (go_at_call 27; with_reducible refine (CR0.out _ _ (HT.out _ S4.out.bel) R4.out (by have := HK.out; have := S3.out.bel.size; omega)).mono ?_; rintro e u5 ⟨rfl, h5, b5⟩; have R5 := Lib.hid h5; have S5 := Lib.hid (show Stf W W.heap.size f u5 from ⟨But.box b5 S4.out.box (Nat.ne_of_lt S3.out.box.lt), S4.out.bel.trans (b5.below S4.out.bel.size S3.out.bel.size)⟩); clear h5 b5
       obtain ⟨u6, hu6⟩ : ∃ u6, u5.alloc (.cells (Fr_.C f0) 25) = u6 := ⟨_, rfl⟩
       have S6 := Lib.hid (show Stf W W.heap.size f u6 from hu6 ▸ Stf.keep _ _ S5.out ((Below.refl _ _).alloc (Nat.le_refl _) _))
       have G6 := Lib.hid (show Fr_.Box u6 u5.heap.size f0 from hu6 ▸ Fr_.Box.newC u5 f0)
       have R6 := Lib.hid (show Rs u6 u3.heap.size (0, t.data.toList) from R5.out.blk (hu6 ▸ ((Below.refl _ _).alloc (Nat.le_refl _) _).block _ R5.out.lt))
       obtain ⟨u7, hu7⟩ : ∃ u7, u6.setCell ⟨W.heap.size, 17, none⟩ (.string ⟨#[]⟩) = u7 := ⟨_, rfl⟩
       have f17 := S6.out.box.frozen 17; have e6 := S6.out.box.all
       have S7 := Lib.hid (show Stf W W.heap.size f0 u7 from ⟨HF0.out ▸ hu7 ▸ S6.out.box.set17 _, hu7 ▸ S6.out.bel.setCell (p := ⟨W.heap.size, 17, none⟩) (Nat.le_refl _) _⟩)
       have G7 := Lib.hid (show Fr_.Box u7 u5.heap.size f0 from hu7 ▸ Fr_.Box.other G6.out (a := ⟨W.heap.size, 17, none⟩) (by show u5.heap.size ≠ W.heap.size; have := S5.out.box.lt; omega) _)
       have R7 := Lib.hid (show Rs u7 u3.heap.size (0, t.data.toList) from hu7 ▸ R6.out.blk (Below.heap_setCell _ _ _ _ (by show u3.heap.size ≠ W.heap.size; have := S3.out.box.lt; omega)))
       have l7 := S7.out.box.loadF)
    | (go_at_call 11; refine (CL0.out _ (HT.out _ S7.out.bel)).mono ?_; rintro e u8 ⟨rfl, hb⟩; have S8 := Lib.hid (Stf.keep _ _ S7.out hb); have G8 := Lib.hid (G7.out.below hb G7.out.lt); have R8 := Lib.hid (R7.out.blk (hb.block _ R7.out.lt)); clear hb l7 f17 e6; have l8 := S8.out.box.loadF; have g8 := G8.out.loadF)
    | (go_at_call 29; with_reducible refine (err_tot _ (0, t.data.toList) _ R8.out).mono ?_; rintro e u8' ⟨rfl, rfl⟩)
    | (go_at_call 32; with_reducible refine (CR1.out _ _ R8.out S3.out.bel.size S8.out.bel).mono ?_; rintro e w2 ⟨rfl, hB⟩; have BF := Lib.hid hB; clear hB l8 g8 hadd0 hlen
       obtain ⟨w3, hw3⟩ : ∃ w3, w2.alloc (.cells #[.int .i64 0, .string t] 77) = w3 := ⟨_, rfl⟩
       have R3 := Lib.hid (hw3 ▸ rs_new w2 t)
       have B3 := Lib.hid (show Below W.heap.size W w3 from hw3 ▸ BF.out.alloc BF.out.size _))
    | (go_at_call 27; refine (HD.out.rd _ _ (HT.out _ B3.out) R3.out (by have := HK.out; have := BF.out.size; omega)).mono ?_; rintro e w4 ⟨rfl, h4, b4⟩; have R4 := Lib.hid h4; have B4 := Lib.hid (B3.out.trans (b4.below B3.out.size BF.out.size)); clear h4 b4
       obtain ⟨w5, hw5⟩ : ∃ w5, w4.alloc (.cells (Fr_.C Fr_.zf) 25) = w5 := ⟨_, rfl⟩
       have R5 := Lib.hid (show Rs w5 w2.heap.size τ from R4.out.blk (hw5 ▸ ((Below.refl _ _).alloc (Nat.le_refl _) _).block _ R4.out.lt))
       have B5 := Lib.hid (show Below W.heap.size W w5 from hw5 ▸ B4.out.alloc B4.out.size _)
       have l5 : (Fr_.LoadF ⟨w4.heap.size, 0, none⟩).run Tryd.prog w5 = .ok (Fr_.v Fr_.zf) w5 := hw5 ▸ Fr_.loadF_new w4 Fr_.zf)
    | (go_at_call 29; refine (err_tot _ τ _ R5.out).mono ?_; rintro e w6 ⟨rfl, rfl⟩)
    | (go_at_call 13; refine (lives10_any _ (HT.out _ B5.out)).mono ?_; rintro e w7 ⟨rfl, hb⟩; have B7 := Lib.hid (B5.out.trans (hb.mono B5.out.size)); clear hb))
  go_returns
  exact ⟨rfl, B7.out⟩
set_option maxRecDepth 100000 in
set_option maxHeartbeats 4000000 in
theorem reads_ok_yes (f : Fr) (hw : FrWf f) (t : ByteArray) (W : World) (hl : LaidFacts W) (hs : ¬ (200 : Int) < (t.size : Int)) (hc : chk f = 0) (y : Fr) (τ : Sg) (D : RdC t.data.toList y τ) (hz : τ.1 = 0) :
    Calls Tryd.prog 7 #[Fr_.v f, .string t] W fun e w' => e = .returned (.bool true) ∧ Below W.heap.size W w' := by
  have HT : Hid (∀ w, Below W.heap.size W w → HdTab w) := fun w hb => HdTab.below hl hb (Nat.le_refl _)
  have HK : Hid (0 < W.heap.size) := HdTab.lt hl
  have CF : Hid (∀ w, HdTab w → Calls Tryd.prog 9 #[Fr_.v f] w fun e w' => e = .returned (.int .i64 0) ∧ Below w.heap.size w w') := fun w h => by have h2 := progCheck_any f w h (fru_wf hw); rw [hc] at h2; exact h2
  have CW0 : Hid (∀ w, HdTab w → Calls Tryd.prog 31 #[Fr_.v f] w fun e w' => e = .returned (.tuple #[.string (bs (oct f)), .int .i64 0]) ∧ Below w.heap.size w w') := fun w h => lawWrite_any f w h (okf_of hc)
  have hts : t.data.toList.length = t.size := Array.length_toList
  have hol := oct_len f
  obtain ⟨z, hz0⟩ : ∃ z, z = bs (oct f ++ t.data.toList) := ⟨_, rfl⟩
  have zl : z.data.toList = oct f ++ t.data.toList := by rw [hz0]; simp [bs]
  have hadd0 : ∀ w, (Op.stringOp .add (bs (oct f)) t).run Tryd.prog w = .ok (.string z) w := fun w => by rw [hz0]; exact add_run (oct f) t.data.toList (by omega) w
  obtain ⟨f0, hf0⟩ : ∃ f0, f0 = { f with bo := ⟨#[]⟩ } := ⟨_, rfl⟩
  have CR0 : Hid (∀ w b, HdTab w → Rs w b (0, z.data.toList) → b ≠ 0 → Calls Tryd.prog 27 #[.pointer (some ⟨b, 0, none⟩)] w fun e w' => e = .returned (Fr_.v f0) ∧ Rs w' b (0, t.data.toList) ∧ But b w w') := fun w b ht h hb => by
    have h2 := progRead_any (0, z.data.toList) w b ht h hb
    rw [zl, rd_back hc] at h2
    rw [hf0]; exact h2
  have CL0 : Hid (∀ w, HdTab w → Calls Tryd.prog 11 #[Fr_.v f0] w fun e w' => e = .returned (.int .i64 (len f)) ∧ Below w.heap.size w w') := fun w h => by
    have h2 := progLength_any f0 w h
    have hll : len f0 = len f := by rw [hf0]; rfl
    rw [hll] at h2; exact h2
  have CR1 : Hid (∀ w b, Rs w b (0, t.data.toList) → W.heap.size ≤ b → Below W.heap.size W w → Calls Tryd.prog 32 #[.pointer (some ⟨b, 0, none⟩)] w fun e w' => e = .returned (.string t) ∧ Below W.heap.size W w') := fun w b h hb hB => by
    have hbz : bz t.data.toList = t := by unfold bz; simp
    refine (rest_ok b (bz t.data.toList) w h).mono ?_
    rintro e w' ⟨rfl, rfl⟩
    exact ⟨by rw [hbz], hB.setCell (p := ⟨b, 1, none⟩) hb _⟩
  have hlen : ((((bs (oct f)).size : Nat) : Int) != len f) = false := by rw [bne_eq_false_iff_eq, ← oct_len_is hc]; simp [bs, ByteArray.size]
  have HF0 := Lib.hid hf0.symm
  have HD := Lib.hid D
  obtain ⟨w1, hw1⟩ : ∃ w1, W.alloc (.cells (Fr_.C f) 25) = w1 := ⟨_, rfl⟩
  have S1 := Lib.hid (show Stf W W.heap.size f w1 from hw1 ▸ Stf.new W f)
  have l1 := S1.out.box.loadF
  have hzn : (τ.1 != 0) = false := by rw [hz]; rfl
  obtain ⟨hcy, hoc⟩ := D.good hz
  have CW : Hid (∀ w, HdTab w → Calls Tryd.prog 31 #[Fr_.v y] w fun e w' => e = .returned (.tuple #[.string (bs (oct y)), .int .i64 0]) ∧ Below w.heap.size w w') := fun w h => lawWrite_any y w h (okf_of hcy)
  have CY := Lib.hid (fun w h => progCheck_any y w h D.fru)
  have hadd : ∀ w, (Op.stringOp .add (bs (oct y)) (bz τ.2)).run Tryd.prog w = .ok (.string t) w := fun w => by
    have hl2 := congrArg List.length hoc
    rw [List.length_append, show t.data.toList.length = t.size from Array.length_toList] at hl2
    have h := add_run (oct y) τ.2 (by omega) w
    rw [hoc] at h
    exact h
  obtain ⟨e0, R⟩ := τ
  obtain rfl : e0 = 0 := hz
  clear hw hl hc D hf0 zl hz0 hol hts
  go_enter Tryd.func7, Tryd.ntmps7
  go_wp2_with (first
    | (go_at_call 9; with_reducible refine (CF.out _ (HT.out _ S1.out.bel)).mono ?_; rintro e u2 ⟨rfl, hb⟩; have S2 := Lib.hid (Stf.keep _ _ S1.out hb); clear hb l1; have l2 := S2.out.box.loadF)
    | (go_at_call 31; with_reducible refine (CW0.out _ (HT.out _ S2.out.bel)).mono ?_; rintro e u3 ⟨rfl, hb⟩; have S3 := Lib.hid (Stf.keep _ _ S2.out hb); clear hb l2
       obtain ⟨u4, hu4⟩ : ∃ u4, u3.alloc (.cells #[.int .i64 0, .string z] 77) = u4 := ⟨_, rfl⟩
       have S4 := Lib.hid (show Stf W W.heap.size f u4 from hu4 ▸ Stf.keep _ _ S3.out ((Below.refl _ _).alloc (Nat.le_refl _) _))
       have R4 := Lib.hid (show Rs u4 u3.heap.size (0, z.data.toList) from hu4 ▸ rs_new u3 z))
    | (go_at_call 26; refine (new_any _ _).mono ?_; rintro e w3' ⟨rfl, rfl⟩)
    | (go_at_call 27; with_reducible refine (CR0.out _ _ (HT.out _ S4.out.bel) R4.out (by have := HK.out; have := S3.out.bel.size; omega)).mono ?_; rintro e u5 ⟨rfl, h5, b5⟩; have R5 := Lib.hid h5; have S5 := Lib.hid (show Stf W W.heap.size f u5 from ⟨But.box b5 S4.out.box (Nat.ne_of_lt S3.out.box.lt), S4.out.bel.trans (b5.below S4.out.bel.size S3.out.bel.size)⟩); clear h5 b5
       obtain ⟨u6, hu6⟩ : ∃ u6, u5.alloc (.cells (Fr_.C f0) 25) = u6 := ⟨_, rfl⟩
       have S6 := Lib.hid (show Stf W W.heap.size f u6 from hu6 ▸ Stf.keep _ _ S5.out ((Below.refl _ _).alloc (Nat.le_refl _) _))
       have G6 := Lib.hid (show Fr_.Box u6 u5.heap.size f0 from hu6 ▸ Fr_.Box.newC u5 f0)
       have R6 := Lib.hid (show Rs u6 u3.heap.size (0, t.data.toList) from R5.out.blk (hu6 ▸ ((Below.refl _ _).alloc (Nat.le_refl _) _).block _ R5.out.lt))
       obtain ⟨u7, hu7⟩ : ∃ u7, u6.setCell ⟨W.heap.size, 17, none⟩ (.string ⟨#[]⟩) = u7 := ⟨_, rfl⟩
       have f17 := S6.out.box.frozen 17; have e6 := S6.out.box.all
       have S7 := Lib.hid (show Stf W W.heap.size f0 u7 from ⟨HF0.out ▸ hu7 ▸ S6.out.box.set17 _, hu7 ▸ S6.out.bel.setCell (p := ⟨W.heap.size, 17, none⟩) (Nat.le_refl _) _⟩)
       have G7 := Lib.hid (show Fr_.Box u7 u5.heap.size f0 from hu7 ▸ Fr_.Box.other G6.out (a := ⟨W.heap.size, 17, none⟩) (by show u5.heap.size ≠ W.heap.size; have := S5.out.box.lt; omega) _)
       have R7 := Lib.hid (show Rs u7 u3.heap.size (0, t.data.toList) from hu7 ▸ R6.out.blk (Below.heap_setCell _ _ _ _ (by show u3.heap.size ≠ W.heap.size; have := S3.out.box.lt; omega)))
       have l7 := S7.out.box.loadF)
    | (go_at_call 11; refine (CL0.out _ (HT.out _ S7.out.bel)).mono ?_; rintro e u8 ⟨rfl, hb⟩; have S8 := Lib.hid (Stf.keep _ _ S7.out hb); have G8 := Lib.hid (G7.out.below hb G7.out.lt); have R8 := Lib.hid (R7.out.blk (hb.block _ R7.out.lt)); clear hb l7 f17 e6; have l8 := S8.out.box.loadF; have g8 := G8.out.loadF)
    | (go_at_call 29; with_reducible refine (err_tot _ (0, t.data.toList) _ R8.out).mono ?_; rintro e u8' ⟨rfl, rfl⟩)
    | (go_at_call 32; with_reducible refine (CR1.out _ _ R8.out S3.out.bel.size S8.out.bel).mono ?_; rintro e w2 ⟨rfl, hB⟩; have BF := Lib.hid hB; clear hB l8 g8 hadd0 hlen
       obtain ⟨w3, hw3⟩ : ∃ w3, w2.alloc (.cells #[.int .i64 0, .string t] 77) = w3 := ⟨_, rfl⟩
       have R3 := Lib.hid (hw3 ▸ rs_new w2 t)
       have B3 := Lib.hid (show Below W.heap.size W w3 from hw3 ▸ BF.out.alloc BF.out.size _))
    | (go_at_call 27; refine (HD.out.rd _ _ (HT.out _ B3.out) R3.out (by have := HK.out; have := BF.out.size; omega)).mono ?_; rintro e w4 ⟨rfl, h4, b4⟩; have R4 := Lib.hid h4; have B4 := Lib.hid (B3.out.trans (b4.below B3.out.size BF.out.size)); clear h4 b4
       obtain ⟨w5, hw5⟩ : ∃ w5, w4.alloc (.cells (Fr_.C y) 25) = w5 := ⟨_, rfl⟩
       have R5 := Lib.hid (show Rs w5 w2.heap.size (0, R) from R4.out.blk (hw5 ▸ ((Below.refl _ _).alloc (Nat.le_refl _) _).block _ R4.out.lt))
       have B5 := Lib.hid (show Below W.heap.size W w5 from hw5 ▸ B4.out.alloc B4.out.size _)
       have G5 := Lib.hid (show Fr_.Box w5 w4.heap.size y from hw5 ▸ Fr_.Box.newC w4 y)
       have l5 : (Fr_.LoadF ⟨w4.heap.size, 0, none⟩).run Tryd.prog w5 = .ok (Fr_.v y) w5 := hw5 ▸ Fr_.loadF_new w4 y)
    | (go_at_call 29; refine (err_tot _ _ _ R5.out).mono ?_; rintro e w6 ⟨rfl, rfl⟩))
  refine (CW.out _ (HT.out _ B5.out)).mono ?_
  rintro e w7 ⟨rfl, hb⟩
  have HS : Hid (∀ w w' : World, (Fr_.Box w w4.heap.size y ∧ Below W.heap.size W w) → Below w.heap.size w w' → ((Fr_.LoadF ⟨w4.heap.size, 0, none⟩).run Tryd.prog w' = .ok (Fr_.v y) w' ∧ Fr_.Box w' w4.heap.size y ∧ Below W.heap.size W w')) :=
    fun w w' h hb => ⟨(h.1.below hb h.1.lt).loadF, h.1.below hb h.1.lt, h.2.trans (hb.mono h.2.size)⟩
  obtain ⟨q1, q2, q3⟩ := HS.out w5 w7 ⟨G5.out, B5.out⟩ hb
  have QD := Lib.hid (And.intro q1 (And.intro q2 q3))
  have RD := Lib.hid (show Rs w7 w2.heap.size (0, R) from R5.out.blk (hb.block _ R5.out.lt))
  have HN : Hid (W.heap.size ≤ w2.heap.size) := BF.out.size
  have HG : Hid (w4.heap.size ≠ w2.heap.size) := by have := R4.out.lt; unfold Hid; omega
  have CK : Hid (∀ w, ((Fr_.LoadF ⟨w4.heap.size, 0, none⟩).run Tryd.prog w = .ok (Fr_.v y) w ∧ Fr_.Box w w4.heap.size y ∧ Below W.heap.size W w) → Rs w w2.heap.size (0, R) → Calls Tryd.prog 9 #[Fr_.v y] w fun x w' => x = .returned (.int .i64 0) ∧ ((Fr_.LoadF ⟨w4.heap.size, 0, none⟩).run Tryd.prog w' = .ok (Fr_.v y) w' ∧ Fr_.Box w' w4.heap.size y ∧ Below W.heap.size W w') ∧ Rs w' w2.heap.size (0, R)) :=
    fun w h hr => (CY.out w (HT.out w h.2.2)).mono fun x w' ⟨h1, h2⟩ => ⟨by rw [h1, hcy], HS.out w w' h.2 h2, hr.blk (h2.block _ hr.lt)⟩
  have CR : Hid (∀ w, ((Fr_.LoadF ⟨w4.heap.size, 0, none⟩).run Tryd.prog w = .ok (Fr_.v y) w ∧ Fr_.Box w w4.heap.size y ∧ Below W.heap.size W w) → Rs w w2.heap.size (0, R) → Calls Tryd.prog 32 #[.pointer (some ⟨w2.heap.size, 0, none⟩)] w fun x w' => x = .returned (.string (bz R)) ∧ ((Fr_.LoadF ⟨w4.heap.size, 0, none⟩).run Tryd.prog w' = .ok (Fr_.v y) w' ∧ Fr_.Box w' w4.heap.size y ∧ Below W.heap.size W w')) :=
    fun w h hr => (rest_ok _ _ w hr).mono fun x w' ⟨h1, h2⟩ => ⟨h1, by subst h2; have hbx := Fr_.Box.other h.2.1 (a := ⟨w2.heap.size, 1, none⟩) HG.out (.string ⟨#[]⟩); exact ⟨hbx.loadF, hbx, h.2.2.setCell (p := ⟨w2.heap.size, 1, none⟩) HN.out _⟩⟩
  have CL : Hid (∀ w, ((Fr_.LoadF ⟨w4.heap.size, 0, none⟩).run Tryd.prog w = .ok (Fr_.v y) w ∧ Fr_.Box w w4.heap.size y ∧ Below W.heap.size W w) → Calls Tryd.prog 13 #[] w fun x w' => x = .returned (.bool true) ∧ ((Fr_.LoadF ⟨w4.heap.size, 0, none⟩).run Tryd.prog w' = .ok (Fr_.v y) w' ∧ Fr_.Box w' w4.heap.size y ∧ Below W.heap.size W w')) :=
    fun w h => (lives10_any w (HT.out w h.2.2)).mono fun x w' ⟨h1, h2⟩ => ⟨h1, HS.out w w' h.2 h2⟩
  clear hb l5 q1 q2 q3 hw1 hw3 hw5 HS HD CW CY CF R3 B3 R4 B4 R5 B5 G5 HT HK HN HG hoc hcy
  obtain ⟨q1, q2, q3⟩ := QD.out
  have q4 := RD.out
  have Q := Lib.hid (And.intro q2 q3)
  have Q4 := Lib.hid q4
  clear QD RD q2 q3 q4
  go_wp2_with (first
    | (go_at_call 9; refine (CK.out _ ⟨q1, Q.out.1, Q.out.2⟩ Q4.out).mono ?_; rintro x w8 ⟨rfl, ⟨r1, r2, r3⟩, r4⟩; have T := Lib.hid (And.intro r2 r3); have T4 := Lib.hid r4; clear r2 r3 r4 q1)
    | (go_at_call 32; refine (CR.out _ ⟨r1, T.out.1, T.out.2⟩ T4.out).mono ?_; rintro x w9 ⟨rfl, s1, s2, s3⟩; have U := Lib.hid (And.intro s2 s3); clear s2 s3 r1)
    | (go_at_call 13; refine (CL.out _ ⟨s1, U.out.1, U.out.2⟩).mono ?_; rintro x w10 ⟨rfl, t1, t2, t3⟩; have V := Lib.hid t3; clear t1 t2 t3 s1))
  go_returns
  exact ⟨rfl, V.out⟩
end Go.Proofs.YthpilpcjnpnodaaDoor

namespace Go.Proofs.YthpilpcjnpnodaaDoor
open Go.RowKit Go.Hd Go.Wr Go.Ad
attribute [local go_sem ↓ high] Fr_.loadF Fr_.storeF Fr_.v_cells Fr_.v_match fr_guard fr_neq fr_eql fr_guard_lit fr_eql_lit
attribute [local go_sem] Fr_.C0 Fr_.C1 Fr_.C2 Fr_.C3 Fr_.C4 Fr_.C5 Fr_.C6 Fr_.C7 Fr_.C8 Fr_.C9 Fr_.C10 Fr_.C11 Fr_.C12 Fr_.C13 Fr_.C14 Fr_.C15 Fr_.C16 Fr_.C17 Fr_.loadF_new Fr_.storeF_zero

set_option maxRecDepth 100000 in
set_option maxHeartbeats 4000000 in
theorem reads_long (f : Fr) (t : ByteArray) (W : World) (hl : LaidFacts W) (hs : (200 : Int) < (t.size : Int)) :
    Calls Tryd.prog 7 #[Fr_.v f, .string t] W fun e w' => e = .returned (.bool true) ∧ Below W.heap.size W w' := by
  have HT : Hid (∀ w, Below W.heap.size W w → HdTab w) := fun w hb => HdTab.below hl hb (Nat.le_refl _)
  obtain ⟨w1, hw1⟩ : ∃ w1, W.alloc (.cells (Fr_.C f) 25) = w1 := ⟨_, rfl⟩
  have S1 := Lib.hid (show Stf W W.heap.size f w1 from hw1 ▸ Stf.new W f)
  clear hl
  go_enter Tryd.func7, Tryd.ntmps7
  go_wp2_with (go_at_call 13; refine (lives10_any _ (HT.out _ S1.out.bel)).mono ?_; rintro e w2 ⟨rfl, hb⟩; have S2 := Lib.hid (Stf.keep _ _ S1.out hb); clear hb)
  go_returns
  exact ⟨rfl, S2.out.bel⟩

theorem headerReads_walk0 (f : Fr) (hw : FrWf f) (t : ByteArray) (_ : t.size ≤ 140737488351232) (W : World) (hl : LaidFacts W) :
    Calls Tryd.prog 7 #[Fr_.v f, .string t] W fun e w' => e = .returned (.bool true) ∧ Below W.heap.size W w' := by
  by_cases hs : (200 : Int) < (t.size : Int)
  · exact reads_long f t W hl hs
  have D := rdC t.data.toList
  by_cases hc : chk f = 0
  · by_cases hz : (rdP (0, t.data.toList)).2.1 = 0
    · exact reads_ok_yes f hw t W hl hs hc _ _ D hz
    · exact reads_ok_no f hw t W hl hs hc _ _ D hz
  · by_cases hz : (rdP (0, t.data.toList)).2.1 = 0
    · exact reads_yes f hw t W hl hs hc _ _ D hz
    · exact reads_no f hw t W hl hs hc _ _ D hz
end Go.Proofs.YthpilpcjnpnodaaDoor
