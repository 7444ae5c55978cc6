/-
  WALKS of the reference of layer 20: drain.
-/
import Derived.Test.YteffmfloopkmoaaRoApp
namespace Go.Proofs.Yteffmfloopkmoaa
open Go.RowKit Go.Ro Go.Sq Go.Wr
attribute [local go_sem ↓ high] Rw_.loadF Rw_.storeF Rw_.v_cells Rw_.v_match
attribute [local go_sem] Rw_.C0 Rw_.C1 Rw_.C2 Rw_.loadF_new Rw_.storeF_zero Oper.semAt_some

/-- A buffer and what is released (in a row of the call's own), handed back. -/
def DrnPost (E : Rw → Option Addr → Prop) (p : Bf × List ByteArray) (w : World) (e : Ending) (w' : World) : Prop :=
  ∃ x' sa c, e = .returned (.tuple #[Rw_.v x', .slice sa p.2.length c]) ∧ Lies w' x' p.1 ∧ w'.ownsRow w.heap.size 9 1 (.slice sa p.2.length c) p.2.length (Ss_.vs p.2) ∧ Below w.heap.size w w' ∧ E x' sa

/-- Behind j rounds. -/
structure Dst (w : World) (SA : Option Addr) (b : Bf) (j : Nat) (v : Value) (y : Rw) (wi : World) : Prop where
  two : Two w y zr wi
  ls : Lies wi y ⟨add b.st (j : Int), b.sz, b.hs.drop j⟩
  own : wi.ownsRow (w.heap.size + 2) 9 1 v j (Ss_.vs ((b.hs.take j).map (·.d)))
  sep : ∀ bb off, y.sa = some ⟨bb, off, none⟩ → v.ownBlock ≠ some bb
  far : ∀ bb off, 0 < (b.hs.drop j).length → y.sa = some ⟨bb, off, none⟩ → bb ≠ w.heap.size + 1
  src : y.sa = SA ∨ ∀ bb off, y.sa = some ⟨bb, off, none⟩ → w.heap.size ≤ bb
theorem Dst.keep {w : World} {SA : Option Addr} {b : Bf} {j : Nat} {v : Value} {y : Rw} {wi wj : World} (h : Dst w SA b j v y wi) (hb : Below wi.heap.size wi wj) : Dst w SA b j v y wj :=
  ⟨h.two.below hb, h.ls.below hb, owns_below20 h.own hb, h.sep, h.far, h.src⟩
theorem Dst.drewN {w : World} {SA : Option Addr} {b : Bf} {j : Nat} {v : Value} {y : Rw} {wi : World} (h : Dst w SA b j v y wi) (n : Nat) : Dst w SA b j v y (wi.drewN n) :=
  h.keep ⟨rfl, rfl, rfl, Nat.le_refl _, fun _ _ => rfl⟩
theorem Dst.drew {w : World} {SA : Option Addr} {b : Bf} {j : Nat} {v : Value} {y : Rw} {wi : World} (h : Dst w SA b j v y wi) : Dst w SA b j v y wi.drew :=
  h.keep ⟨rfl, rfl, rfl, Nat.le_refl _, fun _ _ => rfl⟩
theorem heap_alloc20 {w : World} {k : Nat} (o : Obj) (h : k < w.heap.size) : (w.alloc o).heap[k]? = w.heap[k]? := by
  show (w.heap.push o)[k]? = _
  rw [Array.getElem?_push, if_neg (by omega)]
theorem ownsRow_setRow20 {w : World} {base size n B : Nat} {e : TypeId} {v : Value} {xs : List Value} {c : Array Value} (h : w.ownsRow base e size v n xs) (hB : B < base) : (w.setRow B c).ownsRow base e size v n xs := by
  obtain ⟨h0, h1 | ⟨g, cap, cur, h1, h2, h3, h4⟩⟩ := h
  · exact ⟨h0, .inl h1⟩
  · refine ⟨h0, .inr ⟨g, cap, cur, h1, h2, ?_, h4⟩⟩
    have e2 : (w.setRow B c).heap[g]? = w.heap[g]? := by
      simp only [World.setRow, Array.getElem?_modify]; rw [if_neg (by omega)]
    exact e2.trans h3
theorem lies_row2 {w : World} {x : Rw} {b : Bf} {g : Nat} {c : Array Value} (h : Lies w x b) (hg : ∀ bb off, 0 < b.hs.length → x.sa = some ⟨bb, off, none⟩ → bb ≠ g) : Lies (w.setRow g c) x b := by
  by_cases hp : 0 < b.hs.length
  · exact lies_row h (fun bb off e => hg bb off hp e)
  · have hn : b.hs = [] := List.eq_nil_of_length_eq_zero (by omega)
    refine ⟨h.st, h.sz, h.n, ⟨?_, h.sl.le, h.sl.nil⟩⟩
    rw [hn]; exact Hd_.At.nil _ _
theorem vs_owns_len {w : World} {base n : Nat} {v : Value} {l : List ByteArray} (h : w.ownsRow base 9 1 v n (Ss_.vs l)) : l.length = n := by
  have := h.1
  rw [Ss_.vs_len] at this; omega

theorem own_zero20' {w : World} {base n : Nat} {v : Option Addr} {c : Nat} {l : List Hd} (h : w.ownsRow base 51 2 (.slice v (0 + n) c) (0 + n) (Hd_.flat ([] ++ l))) : w.ownsRow base 51 2 (.slice v n c) n (Hd_.flat l) := by
  rw [Nat.zero_add] at h; exact h

set_option maxRecDepth 100000 in
set_option maxHeartbeats 4000000 in
theorem r_drain_any (x : Rw) (b : Bf) (w : World) (hL : Lies w x b) (hs : 0 ≤ b.st ∧ b.st < 4096) (hl : b.hs.length ≤ 1000) :
    Calls Try.prog 37 #[Rw_.v x] w fun e w' => DrnPost (fun x' _ => x'.sa = x.sa ∨ ∀ bb off, x'.sa = some ⟨bb, off, none⟩ → w.heap.size ≤ bb) (drn b) w e w' := by
  obtain ⟨w1, hw1⟩ : ∃ w1, w.alloc (.cells (Rw_.C x) 25) = w1 := ⟨_, rfl⟩
  obtain ⟨w2, hw2⟩ : ∃ w2, w1.alloc (.cells (Rw_.C zr) 25) = w2 := ⟨_, rfl⟩
  have hw2' : w1.alloc (.cells #[.int .i64 0, .int .i64 0, .slice none 0 0] 25) = w2 := hw2
  have z1 : w1.heap.size = w.heap.size + 1 := by rw [← hw1]; simp
  have T2 := Two.new hw1 hw2
  have D2 : Hid (Dst w x.sa b 0 (.slice none 0 0) x w2) := ⟨T2, by rw [show add b.st ((0 : Nat) : Int) = b.st from add_zero hs]; exact hL.below T2.bel, World.ownsRow_nil _ _ _ _, (fun _ _ _ e => nomatch e), fun bb off hp e => by
    obtain ⟨b', o', e', hlt, -⟩ := hL.sl.lies 0 hp
    rw [e] at e'; cases e'; omega, .inl rfl⟩
  obtain ⟨n, hn⟩ : ∃ n, b.hs.length = n := ⟨_, rfl⟩
  have hn1 : n ≤ 1000 := by omega
  have HN := Lib.hid hn
  have HDR : Hid (drn b = (⟨add b.st (dr b.st b.hs : Nat), b.sz, b.hs.drop (dr b.st b.hs)⟩, (b.hs.take (dr b.st b.hs)).map (·.d))) := rfl
  have HNX := Lib.hid (fun j => dr_next b.hs b.st j hs)
  have HKL : Hid (dr b.st b.hs ≤ n) := hn ▸ dr_le _ _
  generalize dr b.st b.hs = K at *
  have CA : Hid (∀ (j : Nat) (W : World), Calls Try.prog 40 #[.int .i64 (add b.st (j : Int)), .int .i64 1] W fun e w' => e = .returned (.int .i64 (add b.st ((j + 1 : Nat) : Int))) ∧ W = w') := fun j W => by
    have h := refAdd_any (add b.st (j : Int)) 1 W
    rw [add_next] at h
    exact h
  clear hL hs hl hn T2
  go_enter Try.func37, Try.ntmps37
  go_wp2
  go_loopw [4] (fun v wr => ∃ (j : Nat) (y : Rw) (v0 : Option Addr) (c : Nat), v = .slice v0 j c ∧ Hid (j ≤ K) ∧ Hid (Dst w x.sa b j v y wr)) (fun v _ => n - (match v with | .slice _ m _ => m | _ => 0))
  case atStart => exact ⟨0, x, none, 0, rfl, Nat.zero_le _, D2⟩
  case round =>
    rename World => wr
    obtain ⟨j, y, v0, c0, rfl, HJ, DW⟩ := hrel
    have e1 := DW.out.two.bx.all
    have hjn : j ≤ n := by have := HJ.out; have := HKL.out; omega
    have HDL := Lib.hid (show (b.hs.drop j).length = n - j by rw [List.length_drop, HN.out])
    have hyn : y.n = n - j := DW.out.ls.n.trans HDL.out
    have hyst : y.st = add b.st (j : Int) := DW.out.ls.st
    have hysz : y.sz = b.sz := DW.out.ls.sz
    by_cases hgo : j < K
    · obtain ⟨hjl, hjq⟩ := (HNX.out j HJ.out).1 hgo
      have hlt : j < n := by have := HN.out; omega
      obtain ⟨bb, off, hsa, hbl, k0, k1⟩ := DW.out.ls.sl.lies 0 (by show 0 < (b.hs.drop j).length; rw [HDL.out]; omega)
      have hz0 : (b.hs.drop j)[0]'(by rw [HDL.out]; omega) = b.hs[j] := by rw [List.getElem_drop]; congr 1
      have c0' : wr.cell? ⟨bb, off, none⟩ = some (.int .i64 (add b.st (j : Int))) := by
        have h := k0
        rw [Nat.zero_mul, Nat.add_zero] at h
        rw [h, ← hjq]; exact congrArg (fun z : Hd => some (Value.int .i64 z.q)) hz0
      have c1' : wr.cell? ⟨bb, off + 1, none⟩ = some (.string b.hs[j].d) := by
        have h := k1
        rw [Nat.zero_mul, Nat.add_zero] at h
        rw [h]; exact congrArg (fun z : Hd => some (Value.string z.d)) hz0
      have HTK : Hid ((b.hs.take (j + 1)).map (·.d) = (b.hs.take j).map (·.d) ++ [b.hs[j].d]) := by
        show (b.hs.take (j + 1)).map (·.d) = _
        rw [List.take_succ_eq_append_getElem hjl, List.map_append]; rfl
      have CAj := Lib.hid (CA.out j)
      have HGO := Lib.hid hgo
      generalize b.hs[j].d = dd at *
      clear hz0 k0 k1 hgo hjq hjl
      have hp : (0 : Int) < ((n - j : Nat) : Int) := by omega
      have hp0 : 0 < n - j := by omega
      have hp1 : 1 ≤ n - j := by omega
      generalize add b.st (j : Int) = S1 at *
      go_wp2
      go_quiet (fail)
      rename_i nq
      have D3 := Lib.hid (DW.out.drewN nq)
      have HBL := Lib.hid hbl
      have HSAQ := Lib.hid hsa
      have HSP := Lib.hid (DW.out.sep bb off hsa)
      have HS1 : Hid (∀ W : World, wr.heap.size ≤ W.heap.size → W.heap[bb]? = wr.heap[bb]? → Hd_.Sl W (some ⟨bb, off + (if y.c = 1 then 0 else 2), none⟩) (b.hs.drop (j + 1)) (y.c - 1)) := fun W hW hbb => by
        have h := sl_drop20 DW.out.ls.sl 1 (by show 1 ≤ (b.hs.drop j).length; rw [HDL.out]; omega)
        have e : cut20 y.sa 1 y.c = some ⟨bb, off + (if y.c = 1 then 0 else 2), none⟩ := by
          unfold cut20
          rw [hsa, Option.map_some]
          split
          · rfl
          · rw [Addr.add_lit]
        rw [e, show (b.hs.drop j).drop 1 = b.hs.drop (j + 1) from List.drop_drop ..] at h
        exact ⟨h.lies.block hW (fun b' o' e' => by cases e'; exact hbb), h.le, h.nil⟩
      have hs2 : ∀ W, (Instr.slice 23 (.slice (some ⟨bb, off, none⟩) (n - j) y.c) (some (.int .i64 1)) none none).run Try.prog W = .ok (.slice (some ⟨bb, off + (if y.c = 1 then 0 else 2), none⟩) (n - j - 1) (y.c - 1)) W := fun W => by
        have h := tail20 (some ⟨bb, off, none⟩) (n - j) y.c 1 (by omega) (fun e => nomatch e) (by have := DW.out.ls.sl.le; rw [← HDL.out]; exact this) W
        have e : cut20 (some (⟨bb, off, none⟩ : Addr)) 1 y.c = some ⟨bb, off + (if y.c = 1 then 0 else 2), none⟩ := by
          unfold cut20
          rw [Option.map_some]
          split
          · rfl
          · rw [Addr.add_lit]
        rw [e] at h
        exact h
      have HSA := Lib.hid (And.intro (show (b.hs.drop (j + 1)).length = n - j - 1 by rw [List.length_drop, HN.out]; omega) (show j + 1 ≤ 3000 ∧ 0 + (n - j - 1) ≤ 3000 from ⟨by omega, by omega⟩))
      have HLV := Lib.hid hlt
      generalize (if y.c = 1 then 0 else 2) = OF at *
      have HSI := Lib.hid (fun (W : World) => Ss_.sl_lit W [dd] (show 1 ≤ maxLen by unfold maxLen; decide))
      clear hsa hbl
      have hsa := HSAQ.out
      go_wp2_with (first
        | (at_builtin; refine wpList_appSs _ rfl _ _ rfl (w.heap.size + 2) _ j ((b.hs.take j).map (·.d)) rfl (D3.out.own.alloc _) _ 1 _ [dd] rfl rfl (HSI.out _) HSA.out.2.1 (by have := D3.out.two.size; simp at this ⊢; omega) ?_; intro v4 c4 w4 h1 h2 h3; have O4 := Lib.hid h1; have T4 := Lib.hid (D3.out.two.keep (((Below.refl _ _).alloc D3.out.two.size _).trans h2) (Nat.le_refl _)); have e4 := T4.out.bx.all; have HS4 := Lib.hid (HS1.out w4 (by have := h2.size; simp at this; omega) ((h3 bb HSP.out (by have := HBL.out; simp; omega)).trans (heap_alloc20 _ HBL.out))); clear h1 h2 h3)
        | (at_builtin; refine wpList_appHd _ rfl _ _ rfl w4.heap.size _ 0 [] rfl (World.ownsRow_nil _ _ _ _) _ (n - j - 1) _ (b.hs.drop (j + 1)) rfl HSA.out.1 HS4.out HSA.out.2.2 (Nat.le_refl _) ?_; intro v5 c5 w5 h1 h2; have O5 := Lib.hid (own_zero20' h1); have T5 := Lib.hid (T4.out.below h2); have P5 := Lib.hid (owns_below20 O4.out h2); have e5 := T5.out.bx.all; clear h1 h2))
      generalize hSN : add b.st ((j + 1 : Nat) : Int) = SN at *
      have HSN := Lib.hid hSN
      clear hSN
      have st5 : (Rw_.StoreF ⟨w.heap.size, 0, none⟩ (.agg #[.int .i64 SN, .int .i64 b.sz, .slice v5 (n - j - 1) c5])).run Try.prog w5.drew = .ok () (w5.drew.setRow w.heap.size (Rw_.C ⟨SN, b.sz, v5, n - j - 1, c5⟩)) := T5.out.drew.bx.storeF ⟨SN, b.sz, v5, n - j - 1, c5⟩
      have D6 : Hid (Dst w x.sa b (j + 1) (.slice v4 (j + 1) c4) ⟨SN, b.sz, v5, n - j - 1, c5⟩ (w5.drew.setRow w.heap.size (Rw_.C ⟨SN, b.sz, v5, n - j - 1, c5⟩))) := by
        have h1 : w5.ownsRow w4.heap.size 51 2 (.slice v5 (b.hs.drop (j + 1)).length c5) (b.hs.drop (j + 1)).length (Hd_.flat (b.hs.drop (j + 1))) := by rw [HSA.out.1]; exact O5.out
        have h2 := T4.out.size
        refine ⟨T5.out.drew.setX _, lies_row (w := w5.drew) ⟨HSN.out.symm, rfl, HSA.out.1.symm, (Hd_.sl_owns h1).drew⟩ (fun bb' off' e => ?_), ?_, fun bb' off' e e' => ?_, fun bb' off' _ e => ?_, .inr fun bb' off' e => ?_⟩
        · have e1 : v5 = some ⟨bb', off', none⟩ := e
          subst e1
          have := (O5.out.lt bb' rfl).1; omega
        · rw [HTK.out]
          exact ownsRow_setRow20 (w := w5.drew) P5.out (by omega)
        · have e1 : v5 = some ⟨bb', off', none⟩ := e
          subst e1
          have h3 := (O5.out.lt bb' rfl).1
          have h4 := (O4.out.lt bb' e').2
          omega
        · have e1 : v5 = some ⟨bb', off', none⟩ := e
          subst e1
          have h3 := (O5.out.lt bb' rfl).1
          omega
        · have e1 : v5 = some ⟨bb', off', none⟩ := e
          subst e1
          have h3 := (O5.out.lt bb' rfl).1
          omega
      have HM := Lib.hid (show n - (j + 1) < n - j by omega)
      go_region_with (go_at_call 40; refine (CAj.out _).mono ?_; rintro e w' ⟨rfl, rfl⟩)
      all_goals
        go_wp2
        go_roundw
        case rel => exact ⟨j + 1, _, v4, c4, rfl, HGO.out, D6⟩
        case measure => exact HM.out
    · have hjK : j = K := by
        have := HJ.out
        omega
      have HE : Hid (∀ wi, Dst w x.sa b j (.slice v0 j c0) y wi → DrnPost (fun x' _ => x'.sa = x.sa ∨ ∀ bb off, x'.sa = some ⟨bb, off, none⟩ → w.heap.size ≤ bb) (drn b) w (.returned (.tuple #[Rw_.v y, .slice v0 j c0])) (wi.setRow (w.heap.size + 1) (Rw_.C y))) := fun wi DW => by
        rw [HDR.out, ← hjK]
        have hlen := vs_owns_len DW.own
        have hO := DW.own
        have hz := DW.two.size
        refine ⟨y, v0, c0, by rw [hlen], lies_row2 DW.ls (fun bb off hp e => DW.far bb off hp e), ?_, (DW.two.setY y).bel, DW.src⟩
        show (wi.setRow (w.heap.size + 1) (Rw_.C y)).ownsRow w.heap.size 9 1 (.slice v0 ((b.hs.take j).map (·.d)).length c0) ((b.hs.take j).map (·.d)).length (Ss_.vs ((b.hs.take j).map (·.d)))
        rw [hlen]
        obtain ⟨g0, g1⟩ := ownsRow_setRow20 (B := w.heap.size + 1) (c := Rw_.C y) hO (by omega)
        refine ⟨g0, g1.imp id ?_⟩
        rintro ⟨g, cap, cur, q1, q2, q3⟩
        exact ⟨g, cap, cur, q1, by omega, q3⟩
      have HQ : Hid (∀ h : 0 < n - j, ∃ bb off z, y.sa = some ⟨bb, off, none⟩ ∧ wr.cell? ⟨bb, off, none⟩ = some (.int .i64 z) ∧ ¬ z = add b.st (j : Int)) := fun h => by
        obtain ⟨bb, off, hsa, -, k0, -⟩ := DW.out.ls.sl.lies 0 (by show 0 < (b.hs.drop j).length; rw [HDL.out]; exact h)
        rw [Nat.zero_mul, Nat.add_zero] at k0
        refine ⟨bb, off, _, hsa, k0, fun e => ?_⟩
        have hjl : j < b.hs.length := by rw [HN.out]; omega
        have e0 : (b.hs.drop j)[0]'(by rw [HDL.out]; exact h) = b.hs[j] := by rw [List.getElem_drop]; congr 1
        refine hgo ((HNX.out j HJ.out).2 ⟨hjl, ?_⟩)
        rw [← e]; exact congrArg Hd.q e0.symm
      clear hgo hjK
      by_cases hlt : 0 < n - j
      case' pos =>
        obtain ⟨bb, off, z, hsa, k0, hq⟩ := HQ.out hlt
        have d1 : (z == add b.st (j : Int)) = false := by rw [beq_eq_false_iff_ne]; exact hq
        have hp : (0 : Int) < ((n - j : Nat) : Int) := by omega
        have hp1 : 1 ≤ n - j := by omega
        clear hq
      case' neg =>
        have hp : ¬ (0 : Int) < ((n - j : Nat) : Int) := by omega
      all_goals
        generalize add b.st (j : Int) = S1 at *
        go_wp2
        go_quiet (fail)
        rename_i nq
        have l9 := (DW.out.drewN nq).two.bx.loadF
        have s9 := (DW.out.drewN nq).two.rs.storeF y
        have X9 := Lib.hid ((DW.out.drewN nq).two.setY y).rs
        have F9 := Lib.hid (HE.out _ (DW.out.drewN nq))
        go_wp2
        exact ret_rw2 Try.results37 rfl rfl X9.out rfl F9.out
end Go.Proofs.Yteffmfloopkmoaa
