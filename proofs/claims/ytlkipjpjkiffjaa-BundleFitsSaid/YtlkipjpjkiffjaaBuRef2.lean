/-
  WALKS of layer 16's reference: one.
-/
import Derived.Test.YtlkipjpjkiffjaaBuRef
namespace Go.Proofs.Ytlkipjpjkiffjaa
open Go.RowKit Go.Bu Go.Wr Go.Ad
attribute [local go_sem ↓ high] Pq_.loadF Pq_.storeF Pq_.v_cells Pq_.v_match
attribute [local go_sem] Pq_.C0 Pq_.C1 Pq_.C2 Pq_.loadF_new Pq_.storeF_zero

/-- A piece of a string (a word). -/
def xs (s : ByteArray) (a n : Nat) : ByteArray := ⟨((s.data.toList.drop a).take n).toArray⟩
theorem xs_ext (s : ByteArray) (a n : Nat) : s.extract a (a + n) = xs s a n := by
  have e : (s.extract a (a + n)).data.toList = (s.data.toList.drop a).take n := by
    rw [ByteArray.data_extract, Array.toList_extract, List.extract_eq_take_drop]
    congr 1; omega
  have key : ∀ x y : ByteArray, x.data.toList = y.data.toList → x = y := by
    intro x y h
    obtain ⟨⟨x⟩⟩ := x; obtain ⟨⟨y⟩⟩ := y
    simp at h; rw [h]
  exact key _ _ (by rw [e]; rfl)
theorem xs_size (s : ByteArray) (a n : Nat) (h : a + n ≤ s.size) : (xs s a n).size = n := by
  show (((s.data.toList.drop a).take n).toArray).size = n
  rw [List.size_toArray, List.length_take, List.length_drop, Go.Bu.ba_len]; omega
theorem xs_list (s : ByteArray) (a n : Nat) : (xs s a n).data.toList = (s.data.toList.drop a).take n := rfl
theorem slc (s : ByteArray) (a n : Nat) (h : a + n ≤ s.size) (W : World) : (Instr.slice 9 (.string s) (some (.int .i64 (a : Int))) (some (.int .i64 ((a : Int) + (n : Int)))) none).run Try.prog W = .ok (.string (xs s a n)) W := by
  rw [run_slice_string_if W 9 s .i64 .i64 (a : Int) ((a : Int) + (n : Int)) Try.underlying9, if_pos ⟨by omega, by omega⟩, if_pos (show 0 ≤ (a : Int) ∧ (a : Int) ≤ (a : Int) + (n : Int) by omega)]
  rw [show ((a : Int)).toNat = a by omega, show ((a : Int) + (n : Int)).toNat = a + n by omega, xs_ext]
theorem slc0 (s : ByteArray) (n : Nat) (h : n ≤ s.size) (W : World) : (Instr.slice 9 (.string s) none (some (.int .i64 (n : Int))) none).run Try.prog W = .ok (.string (xs s 0 n)) W := by
  rw [run_slice_string_h W 9 s Try.underlying9 .i64 (n : Int) (by omega) (by omega), Int.toNat_natCast]
  have := xs_ext s 0 n
  rw [Nat.zero_add] at this
  rw [this]

/-- A packet and two numbers, handed back out of a result's cell. -/
theorem ret_pk3 {fn : Func} {p q r : Tmp} (hr : fn.results = #[.cell p 30, .tmp q, .tmp r]) {tmps : Array Value} {ds : _} {w : World} {g : Nat} {y : Pk} {vq vr : Value} {R : Ending → World → Prop} (hp : tmps.getD p undef = .pointer (some ⟨g, 0, none⟩)) (hq : tmps.getD q undef = vq) (hr' : tmps.getD r undef = vr) (hb : Pq_.Box w g y) (hd : ds = []) (hR : R (.returned (.tuple #[Pq_.v y, vq, vr])) w) :
    bodyPost Try.prog fn R .ret ⟨tmps, ds⟩ w := by
  refine bodyPost_ret (v := .tuple #[Pq_.v y, vq, vr]) ?_ hd hR
  have hp' : tmps[p]?.getD undef = .pointer (some ⟨g, 0, none⟩) := by simpa using hp
  have hq' : tmps[q]?.getD undef = vq := by simpa using hq
  have hr'' : tmps[r]?.getD undef = vr := by simpa using hr'
  have hl := run_loadVar_row w g 30 30 (Pq_.C y) (0, 0) _ hb Try.underlying30 rfl Pq_.sz
  simp [results, hr, hp', hq', hr'', asAddr, hl]
  rfl

/-- The result's cell and the packet's, all else as it was. -/
structure On (w : World) (g : Nat) (p : Pk) (wi : World) : Prop where
  res : Pq_.Box wi w.heap.size zp
  box : Pq_.Box wi g p
  bel : Below w.heap.size w wi
  lt : w.heap.size < g
theorem On.new {w w1 : World} (h : w.alloc (.cells (Pq_.C zp) 30) = w1) (p : Pk) : On w w1.heap.size p (w1.alloc (.cells (Pq_.C p) 30)).drew := by
  subst h
  exact ⟨((Pq_.Box.new w zp).allocC _).drew, (Pq_.Box.new _ p).drew, (((Below.refl _ _).alloc (Nat.le_refl _) _).alloc (by simp) _).drew, by simp⟩
theorem On.keep {w wi w' : World} {g : Nat} {p : Pk} (h : On w g p wi) (hb : Below wi.heap.size wi w') : On w g p w' :=
  ⟨h.res.below hb h.res.lt, h.box.below hb h.box.lt, h.bel.trans (hb.mono h.bel.size), h.lt⟩

set_option maxRecDepth 100000 in
set_option maxHeartbeats 4000000 in
theorem r16One_any (s : ByteArray) (w : World) (hs : s.size ≤ 3000) :
    Calls Try.prog 31 #[.string s] w fun e w' => e = .returned (.tuple #[Pq_.v (if e1 s.data.toList = 0 then pk s.data.toList else zp), .int .i64 (if e1 s.data.toList = 0 then ((14 + hN s.data.toList : Nat) : Int) else 0), .int .i64 (e1 s.data.toList)]) ∧ Below w.heap.size w w' := by
  obtain ⟨w1, hw1⟩ : ∃ w1, w.alloc (.cells (Pq_.C zp) 30) = w1 := ⟨_, rfl⟩
  have hw1' : w.alloc (.cells #[.int .u64 0, .int .u64 0, .string ⟨#[]⟩] 30) = w1 := hw1
  have BX1 : Hid (Pq_.Box w1 w.heap.size zp) := (show Pq_.Box w1 w.heap.size zp from hw1 ▸ Pq_.Box.new w zp)
  have B1 : Hid (Below w.heap.size w w1) := (show Below w.heap.size w w1 from hw1 ▸ (Below.refl _ _).alloc (Nat.le_refl _) _)
  have HZ : Hid (∀ (wi : World), Pq_.Box wi w.heap.size zp → (Pq_.StoreF ⟨w.heap.size, 0, none⟩ (.agg #[.int .u64 0, .int .u64 0, .string ⟨#[]⟩])).run Try.prog wi = .ok () (wi.setRow w.heap.size (Pq_.C zp))) := fun wi h => h.storeF zp
  have hl := Go.Bu.ba_len s
  by_cases h14 : s.size < 14
  · have e : e1 s.data.toList = 1 := if_pos (by omega)
    rw [e, if_neg (by decide), if_neg (by decide)]
    have sf := HZ.out _ BX1.out
    have h14' : (s.size : Int) < 14 := by omega
    clear e h14 hw1 hl
    go_enter Try.func31, Try.ntmps31
    go_wp2
    exact ret_pk3 Try.results31 rfl rfl rfl (BX1.out.setRow zp) rfl ⟨rfl, below_setRow B1.out (Nat.le_refl _)⟩
  have h14' : ¬ (s.size : Int) < 14 := by omega
  have x1 : ∀ W, (Instr.slice 9 (.string s) none (some (.int .i64 6)) none).run Try.prog W = .ok (.string (xs s 0 6)) W := fun W => slc0 s 6 (by omega) W
  have x2 : ∀ W, (Instr.slice 9 (.string s) (some (.int .i64 6)) (some (.int .i64 12)) none).run Try.prog W = .ok (.string (xs s 6 6)) W := fun W => slc s 6 6 (by omega) W
  have x3 : ∀ W, (Instr.slice 9 (.string s) (some (.int .i64 12)) (some (.int .i64 14)) none).run Try.prog W = .ok (.string (xs s 12 2)) W := fun W => slc s 12 2 (by omega) W
  have A1 : Hid (∀ w, Calls Try.prog 45 #[.string (xs s 0 6)] w fun e w' => e = .returned (.int .u64 (hTo s.data.toList : Nat)) ∧ w = w') := fun w => r10Addr_any (xs s 0 6) w (by rw [xs_size _ _ _ (by omega)]; exact Nat.le_refl _)
  have A2 : Hid (∀ w, Calls Try.prog 45 #[.string (xs s 6 6)] w fun e w' => e = .returned (.int .u64 (hFr s.data.toList : Nat)) ∧ w = w') := fun w => r10Addr_any (xs s 6 6) w (by rw [xs_size _ _ _ (by omega)]; exact Nat.le_refl _)
  have A3 : Hid (∀ w, Calls Try.prog 46 #[.string (xs s 12 2)] w fun e w' => e = .returned (.int .i64 (hN s.data.toList : Nat)) ∧ w = w') := fun w => r10Number_any (xs s 12 2) w (by rw [xs_size _ _ _ (by omega)]; decide)
  have hpw : PkW (hd s.data.toList) := by
    have hb : ∀ l : List UInt8, l.length = 6 → (bev l : Int) < 18446744073709551616 := fun l h => by have := bev_lt l; rw [h] at this; omega
    exact ⟨⟨Int.natCast_nonneg _, hb _ (by rw [List.length_take]; omega)⟩, ⟨Int.natCast_nonneg _, hb _ (by rw [List.length_take, List.length_drop]; omega)⟩⟩
  have CC : Hid (∀ w, Calls Try.prog 11 #[Pq_.v (hd s.data.toList)] w fun e w' => e = .returned (.int .i64 (chk (hd s.data.toList))) ∧ Below w.heap.size w w') := fun w => r16Check_any _ w hpw
  have hfold : (.agg #[.int .u64 (hTo s.data.toList : Nat), .int .u64 (hFr s.data.toList : Nat), .string ⟨#[]⟩] : Value) = Pq_.v (hd s.data.toList) := rfl
  have ON := Lib.hid (On.new hw1 (hd s.data.toList))
  have sz1 : (Pq_.StoreF ⟨w1.heap.size, 0, none⟩ (Pq_.v (hd s.data.toList))).run Try.prog (w1.alloc (.cells #[.int .u64 0, .int .u64 0, .string ⟨#[]⟩] 30)).drew = .ok () (w1.alloc (.cells (Pq_.C (hd s.data.toList)) 30)).drew := Pq_.storeF_zero w1.drew _
  have hc : chk (hd s.data.toList) = if pok (hd s.data.toList) = true then 0 else 4 := rfl
  have HE : e1 s.data.toList = if pok (hd s.data.toList) = true then (if 1024 < hN s.data.toList then 2 else if s.data.toList.length < 14 + hN s.data.toList then 1 else 0) else 4 := by
    unfold e1; rw [if_neg (by omega)]
  clear hpw h14
  have H1 := Lib.hid hw1
  clear hw1
  by_cases hp : pok (hd s.data.toList) = true
  case neg =>
    rw [if_neg hp] at HE hc
    rw [hc] at CC
    rw [HE, if_neg (by decide), if_neg (by decide)]
    clear HE hc hp hl A3
    generalize hd s.data.toList = p at *
    generalize (hTo s.data.toList : Int) = to at *
    generalize (hFr s.data.toList : Int) = fr at *
    generalize xs s 0 6 = y1 at *
    generalize xs s 6 6 = y2 at *
    generalize xs s 12 2 = y3 at *
    have l1 := ON.out.box.loadF
    go_enter Try.func31, Try.ntmps31
    go_wp2
    go_region_with (first
      | (go_at_call 45; with_reducible refine (A1.out _).mono ?_; rintro e w' ⟨rfl, rfl⟩)
      | (go_at_call 45; with_reducible refine (A2.out _).mono ?_; rintro e w' ⟨rfl, rfl⟩))
    go_wp2_with (go_at_call 11; refine (CC.out _).mono ?_; rintro e w2 ⟨rfl, hb⟩; have O2 := Lib.hid (ON.out.keep hb); have sf := HZ.out _ O2.out.res; clear hb)
    all_goals exact ret_pk3 Try.results31 rfl rfl rfl (O2.out.res.setRow zp) rfl ⟨rfl, below_setRow O2.out.bel (Nat.le_refl _)⟩
  rw [if_pos hp] at HE hc
  rw [hc] at CC
  clear hc hp
  have hn16 : hN s.data.toList < 65536 := by
    have h := val_lt ((s.data.toList.drop 12).take 2)
    rw [List.length_take, List.length_drop, Nat.min_eq_left (by omega), show pow 2 = 65536 from by decide] at h
    exact h
  by_cases hn : 1024 < hN s.data.toList
  · rw [if_pos hn] at HE
    rw [HE, if_neg (by decide), if_neg (by decide)]
    have hn' : (1024 : Int) < (hN s.data.toList : Int) := by omega
    clear HE hl hn hn16
    generalize hd s.data.toList = p at *
    generalize (hTo s.data.toList : Int) = to at *
    generalize (hFr s.data.toList : Int) = fr at *
    generalize (hN s.data.toList : Int) = n at *
    generalize xs s 0 6 = y1 at *
    generalize xs s 6 6 = y2 at *
    generalize xs s 12 2 = y3 at *
    have l1 := ON.out.box.loadF
    go_enter Try.func31, Try.ntmps31
    go_wp2
    go_region_with (first
      | (go_at_call 45; with_reducible refine (A1.out _).mono ?_; rintro e w' ⟨rfl, rfl⟩)
      | (go_at_call 45; with_reducible refine (A2.out _).mono ?_; rintro e w' ⟨rfl, rfl⟩))
    go_wp2_with (first
      | (go_at_call 11; refine (CC.out _).mono ?_; rintro e w2 ⟨rfl, hb⟩; have O2 := Lib.hid (ON.out.keep hb); have sf := HZ.out _ O2.out.res; clear hb)
      | (go_at_call 46; refine (A3.out _).mono ?_; rintro e w' ⟨rfl, rfl⟩))
    all_goals exact ret_pk3 Try.results31 rfl rfl rfl (O2.out.res.setRow zp) rfl ⟨rfl, below_setRow O2.out.bel (Nat.le_refl _)⟩
  rw [if_neg hn] at HE
  have hn' : ¬ (1024 : Int) < (hN s.data.toList : Int) := by omega
  by_cases hsh : s.data.toList.length < 14 + hN s.data.toList
  · rw [if_pos hsh] at HE
    rw [HE, if_neg (by decide), if_neg (by decide)]
    have hs' : (s.size : Int) < 14 + (hN s.data.toList : Int) := by omega
    have hn0 : (0 : Int) ≤ (hN s.data.toList : Int) := Int.natCast_nonneg _
    clear HE hl hn hn16 hsh
    generalize hd s.data.toList = p at *
    generalize (hTo s.data.toList : Int) = to at *
    generalize (hFr s.data.toList : Int) = fr at *
    generalize (hN s.data.toList : Int) = n at *
    generalize xs s 0 6 = y1 at *
    generalize xs s 6 6 = y2 at *
    generalize xs s 12 2 = y3 at *
    have l1 := ON.out.box.loadF
    go_enter Try.func31, Try.ntmps31
    go_wp2
    go_region_with (first
      | (go_at_call 45; with_reducible refine (A1.out _).mono ?_; rintro e w' ⟨rfl, rfl⟩)
      | (go_at_call 45; with_reducible refine (A2.out _).mono ?_; rintro e w' ⟨rfl, rfl⟩))
    go_wp2_with (first
      | (go_at_call 11; refine (CC.out _).mono ?_; rintro e w2 ⟨rfl, hb⟩; have O2 := Lib.hid (ON.out.keep hb); have sf := HZ.out _ O2.out.res; clear hb)
      | (go_at_call 46; refine (A3.out _).mono ?_; rintro e w' ⟨rfl, rfl⟩))
    all_goals exact ret_pk3 Try.results31 rfl rfl rfl (O2.out.res.setRow zp) rfl ⟨rfl, below_setRow O2.out.bel (Nat.le_refl _)⟩
  · rw [if_neg hsh] at HE
    rw [HE, if_pos rfl, if_pos rfl]
    have hs' : ¬ (s.size : Int) < 14 + (hN s.data.toList : Int) := by omega
    have x4 := slc s 14 (hN s.data.toList) (by omega)
    have hpk : ({ hd s.data.toList with s := xs s 14 (hN s.data.toList) } : Pk) = pk s.data.toList := rfl
    rw [Int.natCast_add]
    rw [← hpk]
    have hn0 : (0 : Int) ≤ (hN s.data.toList : Int) := Int.natCast_nonneg _
    clear HE hl hn hn16 hsh hpk
    generalize hd s.data.toList = p at *
    generalize (hTo s.data.toList : Int) = to at *
    generalize (hFr s.data.toList : Int) = fr at *
    generalize xs s 14 (hN s.data.toList) = d at *
    generalize (hN s.data.toList : Int) = n at *
    rw [show ((14 : Nat) : Int) = 14 from rfl] at x4 ⊢
    generalize xs s 0 6 = y1 at *
    generalize xs s 6 6 = y2 at *
    generalize xs s 12 2 = y3 at *
    have l1 := ON.out.box.loadF
    go_enter Try.func31, Try.ntmps31
    go_wp2
    go_region_with (first
      | (go_at_call 45; with_reducible refine (A1.out _).mono ?_; rintro e w' ⟨rfl, rfl⟩)
      | (go_at_call 45; with_reducible refine (A2.out _).mono ?_; rintro e w' ⟨rfl, rfl⟩))
    go_wp2_with (first
      | (go_at_call 11; refine (CC.out _).mono ?_; rintro e w2 ⟨rfl, hb⟩; have O2 := Lib.hid (ON.out.keep hb); have sc := O2.out.box.all; have sfz := O2.out.box.frozen; have B9 := Lib.hid (O2.out.box.set2 d); have l9 := B9.out.loadF; have G9 := Lib.hid (Pq_.Box.other O2.out.res (a := ⟨w1.heap.size, 2, none⟩) (by have := O2.out.lt; exact Nat.ne_of_lt this) (.string d)); have st9 := G9.out.storeF { p with s := d }; clear hb)
      | (go_at_call 46; refine (A3.out _).mono ?_; rintro e w' ⟨rfl, rfl⟩))
    all_goals exact ret_pk3 Try.results31 rfl rfl rfl (G9.out.setRow _) rfl ⟨rfl, below_setRow (O2.out.bel.setCell (p := ⟨w1.heap.size, 2, none⟩) (Nat.le_of_lt O2.out.lt) _) (Nat.le_refl _)⟩
end Go.Proofs.Ytlkipjpjkiffjaa
