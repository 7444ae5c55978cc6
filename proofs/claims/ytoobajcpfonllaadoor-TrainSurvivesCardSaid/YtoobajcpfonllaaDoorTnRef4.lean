/-
  THE WALK of the reference of layer 17: Encode.
-/
import Derived.Test.YtoobajcpfonllaaDoorTnRef2
import Derived.Test.YtoobajcpfonllaaDoorTnEnc2
namespace Go.Proofs.YtoobajcpfonllaaDoor
open Go.RowKit Go.Tn Go.Wr Go.Ck

def szOf : Value → Nat | .string s => s.size | _ => 0
theorem sz_get {l : List ByteArray} {k : Nat} (h : k < (sz l).length) (h2 : k < l.length) : (sz l)[k] = (l[k].size : Int) := List.getElem_map (fun s : ByteArray => (s.size : Int))
theorem zs_snoc (j : Nat) : zs j ++ [0] = zs (j + 1) := by unfold zs; rw [List.replicate_succ']
theorem up_mod_iff {m j : Nat} (h : j ≤ Tn.up m - m) : (m + j) % 4 = 0 ↔ j = Tn.up m - m := by unfold Tn.up at *; omega
theorem mod_yes {a : Nat} (h : a % 4 = 0) : ((a : Int) % 4 != 0) = false := by rw [bne_eq_false_iff_eq]; omega
theorem mod_no {a : Nat} (h : ¬ a % 4 = 0) : ((a : Int) % 4 != 0) = true := by rw [bne_iff_ne]; omega
theorem long_size {m : Nat} (h : m ≤ 147648) {j q : Nat} (hq : q < m + 4) (hj : j ≤ q - m) : m + j ≤ 200000 := by omega
theorem enc_meas {q a : Nat} (h : a < q) : q - (a + 1) < q - a := by omega
theorem add_small {a b : Nat} (h : a ≤ 300000) (h2 : b ≤ 300000) : a + b ≤ 9223372036854775807 := by omega

set_option maxRecDepth 100000 in
set_option maxHeartbeats 4000000 in
theorem r17Encode_any (l : List ByteArray) (sa : Option Addr) (c : Nat) (w : World) (h : Ss_.At w sa l) (hl : l.length ≤ 1000) :
    Calls Tryd.prog 14 #[.slice sa l.length c] w fun e w' => EncPost l w e w' := by
  have HA := Lib.hid h
  clear h
  by_cases h0 : l.length = 0
  · have HE : Hid (eE l = 7) := mE_none (l := sz l) (by rw [sz_len]; exact h0)
    have h0' : ((l.length : Int) == 0) = true := by simp; exact List.length_eq_zero_iff.1 h0
    clear h0
    go_enter Tryd.func14, Tryd.ntmps14
    go_wp2
    go_returns
    exact encPost17_err HE.out (by decide) rfl (Below.refl _ _)
  have h0' : ((l.length : Int) == 0) = false := by rw [beq_eq_false_iff_ne]; omega
  by_cases h6 : 64 < l.length
  · have HE : Hid (eE l = 6) := mE_full (l := sz l) (by rw [sz_len]; exact h6)
    have h6' : (64 : Int) < (l.length : Int) := by omega
    clear h0 h6
    go_enter Tryd.func14, Tryd.ntmps14
    go_wp2
    go_returns
    exact encPost17_err HE.out (by decide) rfl (Below.refl _ _)
  have h6' : ¬ (64 : Int) < (l.length : Int) := by omega
  have H0 : Hid (¬ (sz l).length = 0) := by rw [sz_len]; exact h0
  have H6 : Hid (¬ 64 < (sz l).length) := by rw [sz_len]; exact h6
  clear h0
  go_enter Tryd.func14, Tryd.ntmps14
  go_wp2
  go_loop [5] (fun i => ∃ k : Nat, k ≤ l.length ∧ i = .int .i64 k ∧ ∀ j (hj : j < (sz l).length), j < k → pos (sz l)[j] = true) (fun i => l.length - (intOf i).toNat)
  case atStart => exact ⟨0, Nat.zero_le _, rfl, fun j _ hj => absurd hj (Nat.not_lt_zero j)⟩
  case round =>
    obtain ⟨k, hk, rfl, hj⟩ := hrel
    have HJ := Lib.hid hj
    clear hj
    by_cases hlt : k < l.length
    · obtain ⟨b, off, rfl, -, c0⟩ := HA.out k hlt
      have HLT := Lib.hid hlt
      have hlt2 : k < (sz l).length := by rw [sz_len]; exact hlt
      have hget : (sz l)[k] = (l[k].size : Int) := sz_get hlt2 hlt
      cases hp : pos (sz l)[k]
      · have HE : Hid (eE l = 4) := mE_bad H0.out H6.out hlt2 hp
        have hpn := pos_no hp
        rw [hget] at hpn
        generalize l[k] = p at *
        clear hp hget
        rcases hpn with h1 | ⟨h1, h2⟩
        · go_wp2
          go_returns
          exact encPost17_err HE.out (by decide) rfl (Below.refl _ _)
        · go_wp2
          go_returns
          exact encPost17_err HE.out (by decide) rfl (Below.refl _ _)
      · have HG : Hid (∀ j (hj : j < (sz l).length), j < k + 1 → pos (sz l)[j] = true) := fun j hj hjk => by
          by_cases e : j = k
          · subst e; exact hp
          · exact HJ.out j hj (by omega)
        obtain ⟨hp1, hp2⟩ := pos_iff.1 hp
        rw [hget] at hp1 hp2
        generalize l[k] = p at *
        have hn1 : ¬ (p.size : Int) < 1 := by omega
        have hn2 : ¬ (2300 : Int) < (p.size : Int) := by omega
        clear hp HJ hget hlt2
        go_wp2
        go_round
        case rel => exact ⟨k + 1, HLT.out, by go_num, HG.out⟩
        case measure => have := HLT.out; simp [intOf]; omega
    · obtain rfl : k = l.length := by omega
      have HR : Hid (∀ j (hj : j < (sz l).length), pos (sz l)[j] = true) := fun j hj => HJ.out j hj (by rw [sz_len] at hj; exact hj)
      have HP : Hid (∀ j (hj : j < l.length), 1 ≤ (l[j].size : Int) ∧ (l[j].size : Int) ≤ 2300) := fun j hj => by
        have := pos_iff.1 (HR.out j (by rw [sz_len]; exact hj))
        unfold sz at this; rw [List.getElem_map] at this; exact this
      have HL : Hid (∀ k, mL (sz (l.take k)) ≤ 147648) := fun k => by
        rw [sz_take]
        exact mL_le (fun j hj _ => HR.out j hj) (by rw [sz_len]; omega)
      clear HJ
      go_wp2
      go_loopw [4, 6] (fun sv i wr => ∃ k : Nat, k ≤ l.length ∧ i = .int .i64 k ∧ sv = .string ⟨(ag 0 (fs (l.take k))).toArray⟩ ∧ Below w.heap.size w wr) (fun _ i _ => l.length - (intOf i).toNat)
      case atStart => exact ⟨0, Nat.zero_le _, rfl, rfl, Below.refl _ _⟩
      case round =>
        rename World => wr
        obtain ⟨k, hk, rfl, rfl, hb⟩ := hrel
        have HB := Lib.hid hb
        by_cases hlt : k < l.length
        · have HLT := Lib.hid hlt
          obtain ⟨b, off, rfl, hbl, c0⟩ := HA.out k hlt
          have HO := Lib.hid (ag_take hlt)
          have hn := HL.out k
          have hq := HP.out k hlt
          have hag : (ag 0 (fs (l.take k))).length = mL (sz (l.take k)) := ag_size _
          have hge := Tn.up_ge (mL (sz (l.take k)))
          have hul := Tn.up_lt (mL (sz (l.take k)))
          have HMI := Lib.hid fun j h => @up_mod_iff (mL (sz (l.take k))) j h
          have CD := Lib.hid fun w => r17Del_any l[k].size w (by omega)
          have hdl : (del l[k].size).length = 4 := del_len _
          generalize hp : l[k] = p at *
          generalize ag 0 (fs (l.take k)) = K at *
          generalize mL (sz (l.take k)) = m at *
          generalize Tn.up m = q at *
          generalize del p.size = D at *
          have hps : p.size ≤ 2300 := by omega
          have HS : Hid (∀ j, (⟨(K ++ zs j).toArray⟩ : ByteArray).size = m + j) := fun j => by rw [ba_size17, List.length_append, zs_len, hag]
          have HADD : Hid (∀ j, j ≤ q - m → ∀ W, (Op.stringOp .add ⟨(K ++ zs j).toArray⟩ ⟨#[0]⟩).run Tryd.prog W = .ok (.string ⟨(K ++ zs (j + 1)).toArray⟩) W) := fun j hj W => by
            rw [← zs_snoc, ← List.append_assoc, ← ba_add17 (K ++ zs j) [0]]
            exact run_string_add_sum (P := Tryd.prog) W _ _ (by rw [HS.out]; exact add_small (Nat.le_trans (long_size hn hul hj) (by decide)) (by decide))
          have HA1 : Hid (∀ W, (Op.stringOp .add ⟨(K ++ zs (q - m)).toArray⟩ ⟨D.toArray⟩).run Tryd.prog W = .ok (.string ⟨(K ++ zs (q - m) ++ D).toArray⟩) W) := fun W => by
            rw [← ba_add17 (K ++ zs (q - m)) D]
            exact run_string_add_sum (P := Tryd.prog) W _ _ (by rw [HS.out, ba_size17, hdl]; exact add_small (Nat.le_trans (long_size hn hul (Nat.le_refl _)) (by decide)) (by decide))
          have HA2 : Hid (∀ W, (Op.stringOp .add ⟨(K ++ zs (q - m) ++ D).toArray⟩ p).run Tryd.prog W = .ok (.string ⟨(K ++ (zs (q - m) ++ (D ++ p.data.toList))).toArray⟩) W) := fun W => by
            have e : (⟨(K ++ (zs (q - m) ++ (D ++ p.data.toList))).toArray⟩ : ByteArray) = ⟨(K ++ zs (q - m) ++ D).toArray⟩ ++ p := by apply ByteArray.ext; simp
            rw [e]
            exact run_string_add_sum (P := Tryd.prog) W _ _ (by rw [ba_size17, List.length_append, List.length_append, zs_len, hag, hdl]; exact add_small (Nat.le_trans (Nat.add_le_add_right (long_size hn hul (Nat.le_refl _)) 4) (by decide)) (Nat.le_trans hps (by decide)))
          have HZ : Hid ((⟨K.toArray⟩ : ByteArray) = ⟨(K ++ zs 0).toArray⟩) := by unfold zs; rw [List.replicate_zero, List.append_nil]; exact rfl
          have hcell : ∀ (x : Of (fun w' => Below w.heap.size w w')), x.w.cell? ⟨b, off + k, none⟩ = some (.string p) := fun x => (x.ok.cell (by exact hbl)).trans c0
          have HC := Lib.hid hcell
          have HQM := Lib.hid (show m ≤ q from hge)
          clear hag hdl hp hq hn hge hul hb hps hcell hbl c0
          go_wp2
          go_loop [4] (fun sv => ∃ j : Nat, j ≤ q - m ∧ sv = .string ⟨(K ++ zs j).toArray⟩) (fun sv => q - szOf sv)
          case atStart => exact ⟨0, Nat.zero_le _, by rw [← HZ.out]⟩
          case round =>
            obtain ⟨j, hj, rfl⟩ := hrel
            have hsz := HS.out j
            have HI := Lib.hid (HMI.out j hj)
            by_cases hjq : j = q - m
            · have hm := mod_yes (HI.out.2 hjq)
              rw [← hsz] at hm
              subst hjq
              have a1 := HA1.out
              have a2 := HA2.out
              have hc := HC.out
              have _ne : Nonempty (Of (fun w' => Below w.heap.size w w')) := ⟨⟨_, HB.out⟩⟩
              have i0 : (0 : Int) ≤ (k : Int) := by omega
              have i1 : (k : Int) < (l.length : Int) := by omega
              generalize (⟨(K ++ zs (q - m)).toArray⟩ : ByteArray) = T at *
              generalize (⟨(K ++ zs (q - m) ++ D).toArray⟩ : ByteArray) = T2 at *
              obtain ⟨T3, hT3⟩ : ∃ T3 : ByteArray, T3 = ⟨(K ++ (zs (q - m) ++ (D ++ p.data.toList))).toArray⟩ := ⟨_, rfl⟩
              rw [← hT3] at a2
              have HT3 := Lib.hid hT3
              clear HA1 HA2 HADD HMI HZ hj hsz hT3 HI HC
              go_wp2
              refine wp_region_of (fun w' => Below w.heap.size w w') (by kernel_rfl) (Region.lexB_of_fast (by kernel_rfl)) HB.out.drew ?_
              repeat (go_big_quiet_step (first | (go_at_call 18; exact Calls.of_below (fun _ _ h hb => h.trans (hb.mono h.size)) (CD.out _))))
              refine wpQuiet_nil ?_
              rintro _ ⟨q2, rfl⟩
              have HB2 := Lib.hid q2.ok
              generalize q2.w = w2 at *
              clear hc
              go_wp2
              go_roundw
              case rel => exact ⟨k + 1, HLT.out, by go_num, by rw [HO.out, HT3.out], HB2.out⟩
              case measure => have := HLT.out; simp [intOf]; omega
            · have hm := mod_no (fun h => hjq (HI.out.1 h))
              rw [← hsz] at hm
              have hj1 : j + 1 ≤ q - m := by omega
              have a1 := HADD.out j hj
              have HM : Hid (q - szOf (.string ⟨(K ++ zs (j + 1)).toArray⟩) < q - szOf (.string ⟨(K ++ zs j).toArray⟩)) := by
                show q - (⟨(K ++ zs (j + 1)).toArray⟩ : ByteArray).size < q - (⟨(K ++ zs j).toArray⟩ : ByteArray).size
                rw [HS.out, HS.out]
                have := HQM.out
                omega
              have HJ1 := Lib.hid hj1
              obtain ⟨T, hT⟩ : ∃ T : ByteArray, T = ⟨(K ++ zs j).toArray⟩ := ⟨_, rfl⟩
              obtain ⟨T2, hT2⟩ : ∃ T : ByteArray, T = ⟨(K ++ zs (j + 1)).toArray⟩ := ⟨_, rfl⟩
              rw [← hT] at hm a1 HM hsz ⊢
              rw [← hT2] at a1 HM
              have HT2 := Lib.hid hT2
              clear HA1 HA2 HADD HMI HZ hj hsz hT hT2 HI HC hjq hj1
              go_wp2
              go_round
              case rel => exact ⟨j + 1, HJ1.out, by rw [← HT2.out]⟩
              case measure => exact HM.out
        · obtain rfl : k = l.length := by omega
          have HLn := HL.out l.length
          rw [List.take_length] at HLn ⊢
          have hsz : (⟨(ag 0 (fs l)).toArray⟩ : ByteArray).size = mL (sz l) := by rw [ba_size17]; exact ag_size l
          by_cases h8 : 8192 < mL (sz l)
          · have HE : Hid (eE l = 2) := mE_long H0.out H6.out HR.out h8
            have h8' : (8192 : Int) < ((⟨(ag 0 (fs l)).toArray⟩ : ByteArray).size : Int) := by rw [hsz]; omega
            clear h8 hb hsz HLn
            generalize (⟨(ag 0 (fs l)).toArray⟩ : ByteArray) = T at *
            go_wp2
            go_returns
            exact encPost17_err HE.out (by decide) rfl HB.out
          · have HE : Hid (eE l = 0) := mE_ok H0.out H6.out HR.out h8
            have h8' : ¬ (8192 : Int) < ((⟨(ag 0 (fs l)).toArray⟩ : ByteArray).size : Int) := by rw [hsz]; omega
            obtain ⟨T, hT⟩ : ∃ T : ByteArray, T = ⟨(ag 0 (fs l)).toArray⟩ := ⟨_, rfl⟩
            rw [← hT] at h8' ⊢
            have HT := Lib.hid hT
            clear h8 hb hsz hT HLn
            go_wp2
            go_returns
            exact encPost17_ok HE.out (by rw [HT.out] <;> rfl) HB.out
end Go.Proofs.YtoobajcpfonllaaDoor
