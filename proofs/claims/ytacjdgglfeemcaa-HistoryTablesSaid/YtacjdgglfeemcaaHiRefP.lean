/-
  THE REFERENCE OF LAYER 19: Put.
-/
import Derived.Test.YtacjdgglfeemcaaHiRef
namespace Go.Proofs.Ytacjdgglfeemcaa
open Go.RowKit Go.Hi
attribute [local go_sem ↓ high] Lw_.loadF Lw_.storeF Lw_.v_cells Lw_.v_match Ew_.loadF Ew_.storeF Ew_.v_cells Ew_.v_match Es_.buildR
attribute [local go_sem ↓ high] Es_.buildE
attribute [local go_sem] Lw_.loadF_new Ew_.loadF_new Ew_.storeF_zero

/-- The five of the last that bears the address. -/
def lst (l : Tb) (p : Int) (F : Fl) : Fl := l.foldl (fun F z => if z.1 = p then z.2 else F) F
theorem lst_snoc (l : Tb) (x : Int × Fl) (p : Int) (F : Fl) : lst (l ++ [x]) p F = if x.1 = p then x.2 else lst l p F := by
  unfold lst
  rw [List.foldl_append]; rfl
theorem lst_take {M : Tb} {i : Nat} (h : i < M.length) (p : Int) (F : Fl) : lst (M.take (i + 1)) p F = if M[i].1 = p then M[i].2 else lst (M.take i) p F := by
  rw [List.take_succ_eq_append_getElem h, lst_snoc]
theorem lst_none : ∀ (l : Tb) (p : Int) (F : Fl), (∀ x ∈ l, x.1 ≠ p) → lst l p F = F
  | [], _, _, _ => rfl
  | a :: r, p, F, h => by
    have h1 : a.1 ≠ p := h a (List.mem_cons_self ..)
    have := lst_none r p F (fun x hx => h x (List.mem_cons_of_mem _ hx))
    unfold lst at this ⊢
    rw [List.foldl_cons, if_neg h1]
    exact this
theorem lst_look : ∀ (M : Tb) (p : Int) (F : Fl), Up M → lst M p F = match M.find? (fun x => decide (x.1 = p)) with | some x => x.2 | none => F
  | [], _, _, _ => rfl
  | a :: r, p, F, h => by
    have hr := (List.pairwise_cons.1 h).1
    rw [List.find?_cons]
    by_cases h1 : a.1 = p
    · rw [decide_eq_true h1]
      have := lst_none r p a.2 (fun x hx => by have := hr x hx; omega)
      unfold lst at this ⊢
      rw [List.foldl_cons, if_pos h1]
      exact this
    · rw [decide_eq_false h1]
      have := lst_look r p F (List.pairwise_cons.1 h).2
      unfold lst at this ⊢
      rw [List.foldl_cons, if_neg h1]
      exact this

/-- What was taken in, the entry that is made, the slice that grows. -/
structure Pst (w : World) (x : La) (en : En) (L : Tb) (u : Value) (wi : World) : Prop where
  bx : Lw_.Box wi w.heap.size x
  be : Ew_.Box wi (w.heap.size + 1) en
  own : wi.ownsRow (w.heap.size + 2) 44 16 u L.length (Es_.flat L)
  bel : Below w.heap.size w wi
  sz : w.heap.size + 2 ≤ wi.heap.size
theorem Pst.app {w wr w1 : World} {x : La} {en : En} {L : Tb} {u v' : Value} {z : Int × Fl} {o : Obj} (h : Pst w x en L u wr)
    (h1 : w1.ownsRow (w.heap.size + 2) 44 16 v' (L.length + 1) (Es_.flat L ++ Es_.ec z)) (hg : (wr.alloc o).grownBy w1 u.ownBlock) : Pst w x en (L ++ [z]) v' w1 := by
  obtain ⟨r1, r2⟩ := Es_.appended h.own rfl rfl h.sz h1 hg
  exact ⟨h.bx.below r2 (by omega), h.be.below r2 (by omega), r1, h.bel.trans (r2.mono (by omega)), Nat.le_trans h.sz r2.size⟩
theorem setRow_size (w : World) (r : Nat) (c : Array Value) : (w.setRow r c).heap.size = w.heap.size := by simp [World.setRow]
theorem Pst.row {w wr : World} {x : La} {en : En} {L : Tb} {u : Value} (h : Pst w x en L u wr) (en' : En) : Pst w x en' L u (wr.setRow (w.heap.size + 1) (Ew_.C en')) :=
  ⟨(Ew_.setRow_other (by omega) _).trans h.bx, h.be.setRow en', Es_.owns_row h.own (Nat.lt_succ_self _) (fun _ hk => Ew_.setRow_other hk _), below_setRow h.bel (by omega) _, by rw [setRow_size]; exact h.sz⟩
theorem Pst.set {w wr : World} {x : La} {p : Int} {F : Fl} {L : Tb} {u : Value} (h : Pst w x ⟨p, F⟩ L u wr) (k : Nat) (hk : k < 5) (y : La) : Pst w x ⟨p, F.set k y⟩ L u (Es_.setE wr (w.heap.size + 1) k y) :=
  ⟨(Es_.setE_other _ _ _ _ _ (by omega)).trans h.bx, Es_.stored h.be k hk y, Es_.owns_row h.own (Nat.lt_succ_self _) (fun _ hk => Es_.setE_other _ _ _ _ _ hk), Es_.setE_below h.bel (by omega) k y, by rw [Es_.setE_size]; exact h.sz⟩

def PutPost (M M' : Tb) (sa : Option Addr) (c : Nat) (b : Bool) (w : World) (e : Ending) (w' : World) : Prop :=
  if b then TbPost M' w e w' else e = .returned (.slice sa M.length c) ∧ Below w.heap.size w w'

set_option maxRecDepth 100000 in
set_option maxHeartbeats 4000000 in
theorem ref19Put_any (M : Tb) (sa : Option Addr) (c : Nat) (p k : Int) (x : La) (w : World) (hs : Es_.At w sa M) (hu : Up M) (hl : M.length ≤ 1000) :
    Calls Try.prog 17 #[.slice sa M.length c, .int .u64 p, .int .i64 k, Lw_.v x] w fun e w' => PutPost M (put M p k x) sa c (isF k) w e w' := by
  obtain ⟨w1, hw1⟩ : ∃ w1, w.alloc (.cells (Lw_.C x) 23) = w1 := ⟨_, rfl⟩
  have X1 : Hid (Lw_.Box w1 w.heap.size x) := hw1 ▸ Lw_.Box.new w x
  have B1 : Hid (Below w.heap.size w w1) := hw1 ▸ (Below.refl _ _).alloc (Nat.le_refl _) _
  have z1 : w1.heap.size = w.heap.size + 1 := by rw [← hw1]; simp
  have hm := Lw_.v_match x
  have hm2 := Lw_.v_cells x
  by_cases hk : isF k = true
  case neg =>
    have hk' : isF k = false := by simpa using hk
    unfold PutPost
    rw [hk']
    by_cases h0 : k < 0
    · clear hk hk' hs hu
      go_enter Try.func17, Try.ntmps17
      go_wp2
      go_returns
      exact ⟨rfl, B1.out⟩
    · have h5 : (5 : Int) ≤ k := by
        have := of_decide_eq_false hk'
        omega
      clear hk hk' hs hu
      go_enter Try.func17, Try.ntmps17
      go_wp2
      go_returns
      exact ⟨rfl, B1.out⟩
  obtain ⟨q, rfl, hq⟩ := isF_nat hk
  have HPUT := Lib.hid (show put M p (q : Int) x = ins M p ((Hi.look M p).set q x) by unfold put; rw [if_pos hk, Int.toNat_natCast])
  unfold PutPost
  rw [hk]
  have h0 : ¬ (q : Int) < 0 := by omega
  have h5 : ¬ (5 : Int) ≤ (q : Int) := by omega
  have HI := Lib.hid (info_parts Es_.info)
  have HS := Lib.hid hs
  have HQ := Lib.hid hq
  have HLK := Lib.hid (show lst M p zf = Hi.look M p from lst_look M p zf hu)
  clear hs hu hk
  obtain ⟨w2, hw2⟩ : ∃ w2, w1.alloc (.cells (Ew_.C ⟨p, zf⟩) 44) = w2 := ⟨_, rfl⟩
  have hbr := Es_.build_new p
  have hvc := Ew_.v_cells ⟨p, zf⟩
  have sE : (Ew_.StoreF ⟨w.heap.size + 1, 0, none⟩ (Ew_.v ⟨p, zf⟩)).run Try.prog (w1.alloc (.cells (Ew_.C ze) 44)) = .ok () w2 := by
    rw [← hw2, ← z1]; exact Ew_.storeF_new w1 ze ⟨p, zf⟩
  have hzf : w1.alloc (.cells #[.int .u64 0, .bool false, .int .i64 0, .int .i64 0, .bool false, .int .i64 0, .int .i64 0, .bool false, .int .i64 0, .int .i64 0, .bool false, .int .i64 0, .int .i64 0, .bool false, .int .i64 0, .int .i64 0] 44) = w1.alloc (.cells (Ew_.C ze) 44) := rfl
  have z2 : w2.heap.size = w.heap.size + 2 := by rw [← hw2]; simp [z1]
  obtain ⟨w3, hw3⟩ : ∃ w3, w2.alloc (.cells #[] 44) = w3 := ⟨_, rfl⟩
  have P3 : Hid (Pst w x ⟨p, zf⟩ [] (.slice (some ⟨w.heap.size + 2, 0, none⟩) 0 0) w3) := by
    have b2 : Below w1.heap.size w1 w2 := hw2 ▸ (Below.refl _ _).alloc (Nat.le_refl _) _
    have b3 : Below w2.heap.size w2 w3 := hw3 ▸ (Below.refl _ _).alloc (Nat.le_refl _) _
    have e2 : Ew_.Box w2 (w.heap.size + 1) ⟨p, zf⟩ := by rw [← hw2, ← z1]; exact Ew_.Box.new w1 ⟨p, zf⟩
    refine ⟨(X1.out.below b2 (by omega)).below b3 (by omega), e2.below b3 (by omega), ?_, (B1.out.trans (b2.mono (by omega))).trans (b3.mono (by omega)), by rw [← hw3]; simp [z2]⟩
    have h := World.ownsRow_made (base := w.heap.size + 2) (e := 44) (size := 16) w2 #[] 0 (by omega) (by decide) rfl
    rw [hw3, z2] at h
    exact h
  have HVE := Lib.hid hvc
  generalize Ew_.v ⟨p, zf⟩ = VE at hbr sE
  clear hvc HVE
  go_enter Try.func17, Try.ntmps17
  go_wp2
  clear hbr sE hzf hw1 hw2 hw3 z1 z2 hm hm2
  go_loopw [10, 11] (fun u v wr => ∃ i : Nat, v = .int .i64 i ∧ i ≤ M.length ∧ Pst w x ⟨p, lst (M.take i) p zf⟩ ((M.take i).filter (fun z => decide (z.1 < p))) u wr) (fun _ v _ => M.length - (intOf v).toNat)
  case atStart => exact ⟨0, rfl, Nat.zero_le _, P3.out⟩
  case round =>
    obtain ⟨i, rfl, hi, hp⟩ := hrel
    have HP := Lib.hid hp
    clear hp P3
    by_cases hlt : i < M.length
    · obtain ⟨b, off, hsa, hbl, hc⟩ := HS.out i hlt
      subst hsa
      have hc1 : ∀ j, j < 16 → wr.cell? ⟨b, off + i * 16 + j, none⟩ = (Ew_.C (Es_.e1 M[i]))[j]? := fun j hj => (HP.out.bel.cell hbl).trans (hc j hj)
      have hc2 : ∀ y, ∀ j, j < 16 → (wr.setRow (w.heap.size + 1) y).cell? ⟨b, off + i * 16 + j, none⟩ = (Ew_.C (Es_.e1 M[i]))[j]? := fun y j hj => ((below_setRow HP.out.bel (by omega) y).cell hbl).trans (hc j hj)
      have HF := Lib.hid (filt_take hlt (fun z => decide (z.1 < p)))
      have HL := Lib.hid (lst_take hlt p zf)
      have HN := Lib.hid (filt_len (M := M) i (fun z => decide (z.1 < p)))
      have HLT := Lib.hid hlt
      generalize M[i] = z at *
      have c0 := Es_.peer hc1
      have c2 := fun y => Es_.peer (hc2 y)
      have lx := Es_.load hc1
      have hbs := Es_.build_one (Es_.e1 z)
      have hnw := fun W => Es_.news W z
      have st := HP.out.be.storeF (Es_.e1 z)
      generalize Ew_.v (Es_.e1 z) = V at lx hbs st
      have HVO : Hid (Ew_.C (Es_.e1 z) = Ew_.C ⟨z.1, z.2⟩) := rfl
      generalize hO : Ew_.C (Es_.e1 z) = O at hbs hnw st
      have HOO := Lib.hid hO
      have HNW := Lib.hid hnw
      generalize (M.take i).filter (fun z => decide (z.1 < p)) = L at *
      generalize lst (M.take i) p zf = F at *
      clear hc hc1 hc2 hbl hnw hO
      have HML : Hid (L.length + 1 ≤ maxLen) := by show L.length + 1 ≤ maxLen; have := HN.out; unfold maxLen; omega
      have HMB : Hid ((L.length + 1) * 128 ≤ 140737488355328) := by show (L.length + 1) * 128 ≤ 140737488355328; have := HN.out; omega
      rcases Int.lt_trichotomy z.1 p with hp | hp | hp
      · have d1 : (z.1 == p) = false := by rw [beq_eq_false_iff_ne]; omega
        have d2 : decide (z.1 < p) = true := decide_eq_true hp
        have HR := Lib.hid (show (M.take (i + 1)).filter (fun z => decide (z.1 < p)) = L ++ [z] by rw [HF.out, if_pos d2])
        have HR2 := Lib.hid (show lst (M.take (i + 1)) p zf = F by rw [HL.out, if_neg (by omega)])
        have hown := HP.out.own
        clear st c2
        go_wp2_with (at_builtin; obtain ⟨i0, hi0, hz0, hz1, hz2⟩ := HI.out; refine wpList_append_own _ rfl _ _ 36 rfl (w.heap.size + 2) 44 i0 (Ew_.v ze) 16 128 Try.underlying36 hi0 hz0 hz1 hz2 rfl (by decide) _ _ _ rfl (hown.alloc _) ⟨wr.heap.size, 0, none⟩ 1 1 (Es_.ec z) rfl rfl (HNW.out wr) (Es_.ec_one z) HML.out HMB.out ?c5 ?_)
        case c5 => have := HP.out.sz; simp; omega
        intro v' w4 hown' hgrow _
        clear hi0 hz0 hz1 hz2
        have R := Lib.hid (HP.out.app hown' hgrow)
        clear hown hown' hgrow c0 lx hp
        go_wp2
        go_roundw
        case rel => exact ⟨i + 1, by go_num, HLT.out, by rw [HR.out, HR2.out]; exact R.out⟩
        case measure => have := HLT.out; simp [intOf]; omega
      · have d1 : (z.1 == p) = true := by rw [beq_iff_eq]; exact hp
        have d2 : decide (z.1 < p) = false := decide_eq_false (by omega)
        have d3 : ¬ z.1 < p := by omega
        have HR := Lib.hid (show (M.take (i + 1)).filter (fun z => decide (z.1 < p)) = L by rw [HF.out, if_neg (by rw [d2]; decide)])
        have HR2 := Lib.hid (show (⟨p, lst (M.take (i + 1)) p zf⟩ : En) = Es_.e1 z by rw [HL.out, if_pos hp, ← hp]; rfl)
        have HQ2 := Lib.hid (HP.out.row (Es_.e1 z))
        rw [HOO.out] at HQ2
        clear hp
        go_wp2
        go_roundw
        case rel => exact ⟨i + 1, by go_num, HLT.out, by rw [HR.out, HR2.out]; exact HQ2.out⟩
        case measure => have := HLT.out; simp [intOf]; omega
      · have d1 : (z.1 == p) = false := by rw [beq_eq_false_iff_ne]; omega
        have d2 : decide (z.1 < p) = false := decide_eq_false (by omega)
        have d3 : ¬ z.1 < p := by omega
        have HR := Lib.hid (show (M.take (i + 1)).filter (fun z => decide (z.1 < p)) = L by rw [HF.out, if_neg (by rw [d2]; decide)])
        have HR2 := Lib.hid (show lst (M.take (i + 1)) p zf = F by rw [HL.out, if_neg (by omega)])
        clear hp st c2
        go_wp2
        go_roundw
        case rel => exact ⟨i + 1, by go_num, HLT.out, by rw [HR.out, HR2.out]; exact HP.out⟩
        case measure => have := HLT.out; simp [intOf]; omega
    · obtain rfl : i = M.length := by omega
      rw [List.take_length, HLK.out] at HP
      clear HLK hlt hi
      generalize Hi.look M p = F at *
      have HA := Lib.hid (filt_len (M := M) M.length (fun z => decide (z.1 < p)))
      rw [List.take_length] at HA
      obtain ⟨A, hA⟩ : ∃ A, M.filter (fun z => decide (z.1 < p)) = A := ⟨_, rfl⟩
      rw [hA] at HP HA
      have HAA := Lib.hid hA
      clear hA
      have lx := HP.out.bx.loadF
      have ix := Es_.ixo (w.heap.size + 1) 1 q HQ.out wr
      have ss := Es_.store HP.out.be q HQ.out x
      have HP5 := Lib.hid (HP.out.set q HQ.out x)
      obtain ⟨w5, hw5⟩ : ∃ w5, Es_.setE wr (w.heap.size + 1) q x = w5 := ⟨_, rfl⟩
      rw [hw5] at ss HP5
      clear hw5
      generalize F.set q x = G at *
      have le := HP5.out.be.loadF
      have hbs := Es_.build_one ⟨p, G⟩
      have HNW := Lib.hid fun W => Es_.news W (p, G)
      generalize hV : Ew_.v ⟨p, G⟩ = V at le hbs
      have HOC : Hid (Ew_.C (Es_.e1 (p, G)) = Ew_.C ⟨p, G⟩) := rfl
      rw [HOC.out] at HNW
      generalize hO : Ew_.C ⟨p, G⟩ = O at hbs HNW
      have HML : Hid (A.length + 1 ≤ maxLen) := by show A.length + 1 ≤ maxLen; have := HA.out; unfold maxLen; omega
      have HMB : Hid ((A.length + 1) * 128 ≤ 140737488355328) := by show (A.length + 1) * 128 ≤ 140737488355328; have := HA.out; omega
      have hown := HP5.out.own
      clear hV hO
      go_wp2_with (at_builtin; obtain ⟨i0, hi0, hz0, hz1, hz2⟩ := HI.out; refine wpList_append_own _ rfl _ _ 36 rfl (w.heap.size + 2) 44 i0 (Ew_.v ze) 16 128 Try.underlying36 hi0 hz0 hz1 hz2 rfl (by decide) _ _ _ rfl (hown.alloc _) ⟨w5.heap.size, 0, none⟩ 1 1 (Es_.ec (p, G)) rfl rfl (HNW.out w5) (Es_.ec_one (p, G)) HML.out HMB.out ?c5 ?_)
      case c5 => have := HP5.out.sz; simp; omega
      intro v' w6 hown' hgrow _
      clear hi0 hz0 hz1 hz2
      have R := Lib.hid (HP5.out.app hown' hgrow)
      clear hown hown' hgrow lx ix ss le hbs HNW HML HMB HP HP5
      go_wp2
      go_loopw [10, 12] (fun u v wr => ∃ i : Nat, v = .int .i64 i ∧ i ≤ M.length ∧ Pst w x ⟨p, G⟩ (A ++ [(p, G)] ++ (M.take i).filter (fun z => decide (p < z.1))) u wr) (fun _ v _ => M.length - (intOf v).toNat)
      case atStart => exact ⟨0, rfl, Nat.zero_le _, by rw [List.take_zero, List.filter_nil, List.append_nil]; exact R.out⟩
      case round =>
        obtain ⟨i, rfl, hi, hp⟩ := hrel
        have HP := Lib.hid hp
        clear hp R
        by_cases hlt : i < M.length
        · obtain ⟨b, off, hsa, hbl, hc⟩ := HS.out i hlt
          subst hsa
          have hc1 : ∀ j, j < 16 → wr.cell? ⟨b, off + i * 16 + j, none⟩ = (Ew_.C (Es_.e1 M[i]))[j]? := fun j hj => (HP.out.bel.cell hbl).trans (hc j hj)
          have HF := Lib.hid (filt_take hlt (fun z => decide (p < z.1)))
          have HN := Lib.hid (filt_len (M := M) i (fun z => decide (p < z.1)))
          have HLT := Lib.hid hlt
          generalize M[i] = z at *
          have c0 := Es_.peer hc1
          have lx := Es_.load hc1
          have hbs := Es_.build_one (Es_.e1 z)
          have HNW := Lib.hid fun W => Es_.news W z
          generalize Ew_.v (Es_.e1 z) = V at lx hbs
          generalize Ew_.C (Es_.e1 z) = O at hbs HNW
          generalize (M.take i).filter (fun z => decide (p < z.1)) = L2 at *
          obtain ⟨L, hL⟩ : ∃ L, A ++ [(p, G)] ++ L2 = L := ⟨_, rfl⟩
          have HLL := Lib.hid hL
          have HLN : Hid (L.length ≤ 3000) := by
            show L.length ≤ 3000
            have h1 := HA.out
            have h2 := HN.out
            rw [← hL, List.length_append, List.length_append, List.length_singleton]
            omega
          rw [hL] at HP
          clear hc hc1 hbl hL
          have HML : Hid (L.length + 1 ≤ maxLen) := by show L.length + 1 ≤ maxLen; have := HLN.out; unfold maxLen; omega
          have HMB : Hid ((L.length + 1) * 128 ≤ 140737488355328) := by show (L.length + 1) * 128 ≤ 140737488355328; have := HLN.out; omega
          by_cases hp : p < z.1
          · have d2 : decide (p < z.1) = true := decide_eq_true hp
            have HR := Lib.hid (show A ++ [(p, G)] ++ (M.take (i + 1)).filter (fun z => decide (p < z.1)) = L ++ [z] by rw [HF.out, if_pos d2, ← HLL.out, List.append_assoc _ _ [z]])
            have hown := HP.out.own
            go_wp2_with (at_builtin; obtain ⟨i0, hi0, hz0, hz1, hz2⟩ := HI.out; refine wpList_append_own _ rfl _ _ 36 rfl (w.heap.size + 2) 44 i0 (Ew_.v ze) 16 128 Try.underlying36 hi0 hz0 hz1 hz2 rfl (by decide) _ _ _ rfl (hown.alloc _) ⟨wr.heap.size, 0, none⟩ 1 1 (Es_.ec z) rfl rfl (HNW.out wr) (Es_.ec_one z) HML.out HMB.out ?c5 ?_)
            case c5 => have := HP.out.sz; simp; omega
            intro v' w7 hown' hgrow _
            clear hi0 hz0 hz1 hz2
            have R := Lib.hid (HP.out.app hown' hgrow)
            clear hown hown' hgrow c0 lx hp
            go_wp2
            go_roundw
            case rel => exact ⟨i + 1, by go_num, HLT.out, by rw [HR.out]; exact R.out⟩
            case measure => have := HLT.out; simp [intOf]; omega
          · have d2 : decide (p < z.1) = false := decide_eq_false hp
            have HR := Lib.hid (show A ++ [(p, G)] ++ (M.take (i + 1)).filter (fun z => decide (p < z.1)) = L by rw [HF.out, if_neg (by rw [d2]; decide), ← HLL.out])
            go_wp2
            go_roundw
            case rel => exact ⟨i + 1, by go_num, HLT.out, by rw [HR.out]; exact HP.out⟩
            case measure => have := HLT.out; simp [intOf]; omega
        · obtain rfl : i = M.length := by omega
          rw [List.take_length] at HP
          have HR := Lib.hid (show ins M p G = A ++ [(p, G)] ++ M.filter (fun z => decide (p < z.1)) by unfold ins; rw [HAA.out, List.append_assoc]; rfl)
          generalize A ++ [(p, G)] ++ M.filter (fun z => decide (p < z.1)) = N at HP HR
          obtain ⟨v0, cv, rfl⟩ := Es_.slice_form HP.out.own
          have HO := Lib.hid HP.out.own
          have HB := Lib.hid HP.out.bel
          clear HP
          go_wp2
          go_returns
          unfold TbPost
          rw [HPUT.out, HR.out]
          exact ⟨v0, cv, rfl, Es_.owns_mono HO.out (by omega), HB.out⟩
end Go.Proofs.Ytacjdgglfeemcaa
