/-
  THE WALK of ScoreKeeps (its region 4 written by wip/tools/gen_branch.py with keeps4_conf.py).
-/
import Derived.Test.YtjighkagmnoncaaScLaws
import Derived.Deep.DeepCutAuto
import Derived.Deep.RegionHeld
import Derived.Deep.MidRow
namespace Go.Proofs.Ytjighkagmnoncaa
open Go.RowKit Go.Sc Go.Sq Go.Bs
attribute [local go_sem ↓ high] Sw_.loadF Sw_.storeF Sw_.v_cells Sw_.v_match
attribute [local go_sem] Sw_.C0 Sw_.C1 Sw_.C2 Sw_.loadF_new Sw_.storeF_zero Sw_.eql Sw_.guard Oper.semAt_some

/-- A block of its own, if it is made yet. -/
def Own (W w : World) (y : Sc) : Option Nat → Prop
  | none => True
  | some g => W.heap.size < g ∧ Sw_.Box w g y
theorem Own.keep {W w w' : World} {y : Sc} : ∀ {p : Option Nat}, Own W w y p → Below w.heap.size w w' → Own W w' y p
  | none, _, _ => trivial
  | some _, h, hb => ⟨h.1, h.2.below hb h.2.lt⟩
/-- The scoreboard that came in, two new ones as far as they are made. -/
structure K2 (W : World) (x y z : Sc) (p q : Option Nat) (w : World) : Prop where
  bx : Sw_.Box w W.heap.size x
  o9 : Own W w y p
  o10 : Own W w z q
  ne : ∀ g h, p = some g → q = some h → g ≠ h
  bel : Below W.heap.size W w
theorem K2.ld {W w : World} {x y z : Sc} {p q : Option Nat} (h : K2 W x y z p q w) : (Sw_.LoadF ⟨W.heap.size, 0, none⟩).run Try.prog w = .ok (Sw_.v x) w := h.bx.loadF
theorem K2.keep {W w w' : World} {x y z : Sc} {p q : Option Nat} (h : K2 W x y z p q w) (hb : Below w.heap.size w w') : K2 W x y z p q w' :=
  ⟨h.bx.below hb h.bx.lt, h.o9.keep hb, h.o10.keep hb, h.ne, h.bel.trans (hb.mono h.bel.size)⟩
theorem Own.lt {W w : World} {y : Sc} {g : Nat} (h : Own W w y (some g)) : g < w.heap.size := h.2.lt
theorem K2.a9 {W w : World} {x y z : Sc} {q : Option Nat} (h : K2 W x y z none q w) :
    ∃ g w', w.heap.size = g ∧ w.alloc (.cells #[.int .i64 0, .int .i64 0, .int .u64 0] 24) = w' ∧ K2 W x zs z (some g) q w' := by
  refine ⟨_, _, rfl, rfl, h.bx.allocC _, ⟨h.bx.lt, Sw_.Box.new w zs⟩, h.o10.keep ((Below.refl _ _).alloc (Nat.le_refl _) _), ?_, h.bel.alloc h.bel.size _⟩
  rintro g k e rfl
  cases e
  have := h.o10.lt
  omega
theorem K2.a10 {W w : World} {x y z : Sc} {p : Option Nat} (h : K2 W x y z p none w) :
    ∃ g w', w.heap.size = g ∧ w.alloc (.cells #[.int .i64 0, .int .i64 0, .int .u64 0] 24) = w' ∧ K2 W x y zs p (some g) w' := by
  refine ⟨_, _, rfl, rfl, h.bx.allocC _, h.o9.keep ((Below.refl _ _).alloc (Nat.le_refl _) _), ⟨h.bx.lt, Sw_.Box.new w zs⟩, ?_, h.bel.alloc h.bel.size _⟩
  rintro g k rfl e
  cases e
  have := h.o9.lt
  omega
theorem K2.s9 {W w : World} {x y z : Sc} {g : Nat} {q : Option Nat} (h : K2 W x y z (some g) q w) (a : Sc) :
    ∃ w', (Sw_.StoreF ⟨g, 0, none⟩ (Sw_.v a)).run Try.prog w = .ok () w' ∧ K2 W x a z (some g) q w' := by
  refine ⟨_, h.o9.2.storeF a, (Sw_.setRow_other (by have := h.o9.1; omega) _).trans h.bx, ⟨h.o9.1, h.o9.2.setRow a⟩, ?_, h.ne, below_row21 h.bel (by have := h.o9.1; omega) _⟩
  cases q with
  | none => trivial
  | some k => exact ⟨h.o10.1, (Sw_.setRow_other (Ne.symm (h.ne _ _ rfl rfl)) _).trans h.o10.2⟩
theorem K2.s10 {W w : World} {x y z : Sc} {g : Nat} {p : Option Nat} (h : K2 W x y z p (some g) w) (a : Sc) :
    ∃ w', (Sw_.StoreF ⟨g, 0, none⟩ (Sw_.v a)).run Try.prog w = .ok () w' ∧ K2 W x y a p (some g) w' := by
  refine ⟨_, h.o10.2.storeF a, (Sw_.setRow_other (by have := h.o10.1; omega) _).trans h.bx, ?_, ⟨h.o10.1, h.o10.2.setRow a⟩, h.ne, below_row21 h.bel (by have := h.o10.1; omega) _⟩
  cases p with
  | none => trivial
  | some k => exact ⟨h.o9.1, (Sw_.setRow_other (h.ne _ _ rfl rfl) _).trans h.o9.2⟩
theorem K2.kp {W : World} {x y z : Sc} {p q : Option Nat} (w w' : World) (h : K2 W x y z p q w) (hb : Below w.heap.size w w') : K2 W x y z p q w' := h.keep hb
/-- A scoreboard that Check accepts. -/
def OkS (y : Sc) : Prop := ∃ (st sz : Int) (m : Nat), y = ⟨st, sz, m⟩ ∧ m < 18446744073709551616 ∧ Gd st sz m
theorem sc_check_ok (y : Sc) (w : World) (h : OkS y) : Calls Try.prog 10 #[Sw_.v y] w fun e w' => e = .returned (.int .i64 0) ∧ Below w.heap.size w w' := by
  obtain ⟨st, sz, m, rfl, hm, g⟩ := h
  have h := sc_check_any st sz m w hm
  rw [ck_gd.2 g] at h
  exact h
theorem nat_u16 {a : Int} (h : (Lit.int .u16 a).wf = true) : ∃ k : Nat, a.tmod 4096 = k ∧ k < 4096 ∧ a = (a.toNat : Int) := by
  simp [Lit.wf, IntKind.min, IntKind.max, IntKind.signed, IntKind.bits] at h
  refine ⟨(a % 4096).toNat, ?_, by omega, by omega⟩
  rw [Int.tmod_eq_emod_of_nonneg (by omega)]
  omega

set_option maxRecDepth 100000 in
set_option maxHeartbeats 4000000 in
theorem keeps_ok (st sz : Int) (m : Nat) (hm : m < 18446744073709551616) (g : Gd st sz m) (u v : Int) (n k : Nat) (hu : u.tmod 4096 = n) (hn : n < 4096) (hv : v.tmod 4096 = k) (hk : k < 4096) (W : World) :
    Calls Try.prog 7 #[Sw_.v ⟨st, sz, m⟩, .int .u16 u, .int .u16 v] W fun e w' => e = .returned (.bool true) ∧ Below W.heap.size W w' := by
  obtain ⟨x, hx⟩ : ∃ x : Sc, ⟨st, sz, m⟩ = x := ⟨_, rfl⟩
  have CKx : Hid (∀ W, Calls Try.prog 10 #[Sw_.v x] W fun e w' => e = .returned (.int .i64 0) ∧ Below W.heap.size W w') := fun W => sc_check_ok x W ⟨st, sz, m, hx.symm, hm, g⟩
  have CRx : Hid (∀ W, Calls Try.prog 11 #[Sw_.v x] W fun e w' => e = .returned (.int .i64 0) ∧ Below W.heap.size W w') := fun W => by
    have h := r21_check_any st sz m W hm
    rw [hx, ck_gd.2 g] at h
    exact h
  have hvn : vl (n : Int) = true := vl_iff.2 (by omega)
  have CL := Lib.hid awake21_any
  obtain ⟨a, ha⟩ : ∃ a : Sc, ⟨nS st sz n, sz, (nM st sz m n : Nat)⟩ = a := ⟨_, rfl⟩
  obtain ⟨b, hb⟩ : ∃ b : Sc, ⟨mS st k, sz, (mM st m k : Nat)⟩ = b := ⟨_, rfl⟩
  have OKA : Hid (OkS a) := ⟨_, _, _, ha.symm, nM_lt hm, g.note n⟩
  have OKB : Hid (OkS b) := ⟨_, _, _, hb.symm, mM_lt hm, g.move k⟩
  have CK := Lib.hid sc_check_ok
  have CN : Hid (∀ W, Calls Try.prog 14 #[Sw_.v x, .int .i64 n] W fun e w' => e = .returned (Sw_.v a) ∧ Below W.heap.size W w') := fun W => by rw [← hx, ← ha]; exact sc_note_any st sz m n W hm ⟨g.lo, g.hi⟩
  have CM : Hid (∀ W, Calls Try.prog 18 #[Sw_.v x, .int .i64 k] W fun e w' => e = .returned (Sw_.v b) ∧ Below W.heap.size W w') := fun W => by rw [← hx, ← hb]; exact sc_move_any st sz m k W hm
  have CHA : Hid (∀ W, Calls Try.prog 16 #[Sw_.v a, .int .i64 n] W fun e w' => e = .returned (.bool (decide (dist st n < 2048))) ∧ Below W.heap.size W w') := fun W => by
    have h := sc_has_any (nS st sz n) sz (nM st sz m n) n W (nM_lt hm)
    rw [ha, note_has g n hvn] at h
    exact h
  have CHB : Hid (∀ W, Calls Try.prog 16 #[Sw_.v b, .int .i64 n] W fun e w' => e = .returned (.bool (hs (mS st k) sz (mM st m k) n)) ∧ Below W.heap.size W w') := fun W => by rw [← hb]; exact sc_has_any _ sz _ n W (mM_lt hm)
  have CHX : Hid (∀ W, Calls Try.prog 16 #[Sw_.v x, .int .i64 n] W fun e w' => e = .returned (.bool (hs st sz m n)) ∧ Below W.heap.size W w') := fun W => by rw [← hx]; exact sc_has_any _ sz _ n W hm
  have HIM := Lib.hid (move_has g k n hvn)
  have CD := Lib.hid (fun w => refDistance_any st n w)
  have c0 : (Sw_.C x)[0]? = some (.int .i64 st) := by rw [← hx]; rfl
  have wn : IntKind.i64.wrap (n : Int) = n := IntWalk.i64_in _ (by omega)
  have wk : IntKind.i64.wrap (k : Int) = k := IntWalk.i64_in _ (by omega)
  have un : IntKind.u16.wrap (n : Int) = n := by rw [IntKind.wrap_u16]; omega
  have uk : IntKind.u16.wrap (k : Int) = k := by rw [IntKind.wrap_u16]; omega
  rw [hx]
  obtain ⟨w1, hw1⟩ : ∃ w1, W.alloc (.cells (Sw_.C x) 24) = w1 := ⟨_, rfl⟩
  have S1 : Hid (K2 W x zs zs none none w1) := ⟨hw1 ▸ Sw_.Box.new W x, trivial, trivial, (fun _ _ e => by cases e), hw1 ▸ (Below.refl _ _).alloc (Nat.le_refl _) _⟩
  have l1 := S1.out.ld
  generalize hs (mS st k) sz (mM st m k) n = HB at *
  generalize hs st sz m n = HX at *
  generalize dist st n = D at *
  clear hx ha hb hm g hvn hn hk
  go_enter Try.func7, Try.ntmps7
  go_upto_region 4 with (first
    | (go_at_call 10; refine (CKx.out _).mono ?_; rintro e w2 ⟨rfl, h⟩; have S2 := Lib.hid (S1.out.keep h); have l2 := S2.out.ld; clear h)
    | (go_at_call 11; refine (CRx.out _).mono ?_; rintro e w3 ⟨rfl, h⟩; have S3 := Lib.hid (S2.out.keep h); clear h))
  have S4 : Hid (K2 W x zs zs none none w3.drew) := S3.out.keep ⟨rfl, rfl, rfl, Nat.le_refl _, fun _ _ => rfl⟩
  clear S1 S2 S3 l1 l2 hw1 CKx CRx
  go_cut [9, 10] (fun p q wx => ∃ g9 g10, p = .pointer (some ⟨g9, 0, none⟩) ∧ q = .pointer (some ⟨g10, 0, none⟩) ∧ Hid (K2 W x a b (some g9) (some g10) wx))
  case first =>
    refine wp_region_held_drew (S := (fun w' => (Sw_.LoadF ⟨W.heap.size, 0, none⟩).run Try.prog w' = .ok (Sw_.v x) w')) (by kernel_rfl) ?_ (fun hHeld => ?_)
    · exact S4.out.ld
    refine wpAnyH_take (i := 0) (oi := { dst := some 33, op := Op.load 24 (Operand.tmp 3), type := 24, pos := "law.go:89", after := #[], guard := none }) (v := ?v1) rfl (by kernel_rfl) (by kernel_rfl) (by kernel_rfl) (fun _ _ _ h => h) (Or.inl ⟨by rfl, ?y1⟩) hHeld ?r1
    case y1 => (intro w hSw; (try dsimp only at hSw); go_simp; try with_reducible rfl)
    try simp only [Act.put, List.setIfInBounds_toArray, List.set_cons_zero, List.set_cons_succ]
    refine wpAnyH_take (i := 1) (oi := { dst := some 34, op := Op.move (Operand.tmp 7), type := 3, pos := "law.go:89", after := #[], guard := none }) (v := ?v2) rfl (by kernel_rfl) (by kernel_rfl) (by kernel_rfl) (fun _ _ _ h => h) (Or.inl ⟨by rfl, ?y2⟩) hHeld ?r2
    case y2 => (intro w hSw; (try dsimp only at hSw); go_simp; try with_reducible rfl)
    try simp only [Act.put, List.setIfInBounds_toArray, List.set_cons_zero, List.set_cons_succ]
    refine wpAnyH_take (i := 3) (oi := { dst := some 36, op := Op.load 24 (Operand.tmp 3), type := 24, pos := "law.go:89", after := #[], guard := none }) (v := ?v3) rfl (by kernel_rfl) (by kernel_rfl) (by kernel_rfl) (fun _ _ _ h => h) (Or.inl ⟨by rfl, ?y3⟩) hHeld ?r3
    case y3 => (intro w hSw; (try dsimp only at hSw); go_simp; try with_reducible rfl)
    try simp only [Act.put, List.setIfInBounds_toArray, List.set_cons_zero, List.set_cons_succ]
    refine wpAnyH_take (i := 4) (oi := { dst := some 37, op := Op.move (Operand.tmp 8), type := 3, pos := "law.go:89", after := #[], guard := none }) (v := ?v4) rfl (by kernel_rfl) (by kernel_rfl) (by kernel_rfl) (fun _ _ _ h => h) (Or.inl ⟨by rfl, ?y4⟩) hHeld ?r4
    case y4 => (intro w hSw; (try dsimp only at hSw); go_simp; try with_reducible rfl)
    try simp only [Act.put, List.setIfInBounds_toArray, List.set_cons_zero, List.set_cons_succ]
    refine wpAnyH_ready (rs := [2, 6, 7]) (by kernel_rfl) (by simp) ?_
    refine AllReadyH.cons (o := { dst := some 35, op := Op.call { callee := Callee.value (Operand.func 14), args := #[Operand.tmp 33, Operand.tmp 34], argTypes := #[24, 3] }, type := 24, pos := "law.go:89", after := #[{ on := 0, ground := Ground.data }, { on := 1, ground := Ground.data }], guard := none }) rfl (fun K hK => ?_) ?_
    · clear hHeld
      go_simp
      go_at_call 14
      refine (CN.out _).mono ?_
      rintro e w5 ⟨rfl, h⟩
      replace S4 := Lib.hid (S4.out.keep h)
      clear h
      refine hK.out _ _ ?_ (fun hHeld => ?_)
      · exact S4.out.ld
      clear hK K
      try simp only [Act.put, List.setIfInBounds_toArray, List.set_cons_zero, List.set_cons_succ]
      refine wpAnyH_ready (rs := [5, 6, 7]) (by kernel_rfl) (by simp) ?_
      refine AllReadyH.cons (o := { dst := some 38, op := Op.call { callee := Callee.value (Operand.func 18), args := #[Operand.tmp 36, Operand.tmp 37], argTypes := #[24, 3] }, type := 24, pos := "law.go:89", after := #[{ on := 3, ground := Ground.data }, { on := 4, ground := Ground.data }, { on := 2, ground := Ground.chain }], guard := none }) rfl (fun K hK => ?_) ?_
      · clear hHeld
        go_simp
        go_at_call 18
        refine (CM.out _).mono ?_
        rintro e w5 ⟨rfl, h⟩
        replace S4 := Lib.hid (S4.out.keep h)
        clear h
        refine hK.out _ _ ?_ (fun hHeld => ?_)
        · exact S4.out.ld
        clear hK K
        try simp only [Act.put, List.setIfInBounds_toArray, List.set_cons_zero, List.set_cons_succ]
        refine wpAnyH_ready (rs := [6, 7]) (by kernel_rfl) (by simp) ?_
        refine AllReadyH.cons (o := { dst := some 9, op := Op.alloc 24, type := 0, pos := "law.go:89", after := #[], guard := none }) rfl (fun K hK => ?_) ?_
        · clear hHeld
          obtain ⟨g9, w9, e1, e2, hs⟩ := S4.out.a9
          go_simp
          try simp only [e1, e2]
          replace S4 := Lib.hid hs
          clear hs e1 e2
          refine hK.out _ _ ?_ (fun hHeld => ?_)
          · exact S4.out.ld
          clear hK K
          try simp only [Act.put, List.setIfInBounds_toArray, List.set_cons_zero, List.set_cons_succ]
          refine wpAnyH_ready (rs := [7]) (by kernel_rfl) (by simp) ?_
          refine AllReadyH.cons (o := { dst := some 10, op := Op.alloc 24, type := 0, pos := "law.go:89", after := #[], guard := none }) rfl (fun K hK => ?_) ?_
          · clear hHeld
            obtain ⟨g10, w10, e1, e2, hs⟩ := S4.out.a10
            go_simp
            try simp only [e1, e2]
            replace S4 := Lib.hid hs
            clear hs e1 e2
            refine hK.out _ _ ?_ (fun hHeld => ?_)
            · exact S4.out.ld
            clear hK K
            try simp only [Act.put, List.setIfInBounds_toArray, List.set_cons_zero, List.set_cons_succ]
            refine wpAnyH_ready (rs := [8]) (by kernel_rfl) (by simp) ?_
            refine AllReadyH.cons (o := { dst := none, op := Op.store 24 (Operand.tmp 9) (Operand.tmp 35), type := 0, pos := "law.go:89", after := #[{ on := 6, ground := Ground.data }, { on := 2, ground := Ground.data }, { on := 5, ground := Ground.chain }, { on := 0, ground := Ground.phase }, { on := 1, ground := Ground.phase }, { on := 2, ground := Ground.phase }, { on := 3, ground := Ground.textOnly Departure.lateStores }, { on := 4, ground := Ground.textOnly Departure.lateStores }, { on := 5, ground := Ground.textOnly Departure.lateStoresUnsure }, { on := 6, ground := Ground.phase }, { on := 7, ground := Ground.phase }], guard := none }) rfl (fun K hK => ?_) ?_
            · clear hHeld
              obtain ⟨w8, e1, hs⟩ := S4.out.s9 a
              go_simp
              replace S4 := Lib.hid hs
              clear hs e1
              refine hK.out _ _ ?_ (fun hHeld => ?_)
              · exact S4.out.ld
              clear hK K
              try simp only [Act.put, List.setIfInBounds_toArray, List.set_cons_zero, List.set_cons_succ]
              refine wpAnyH_ready (rs := [9]) (by kernel_rfl) (by simp) ?_
              refine AllReadyH.cons (o := { dst := none, op := Op.store 24 (Operand.tmp 10) (Operand.tmp 38), type := 0, pos := "law.go:89", after := #[{ on := 7, ground := Ground.data }, { on := 5, ground := Ground.data }, { on := 8, ground := Ground.chain }, { on := 0, ground := Ground.phase }, { on := 1, ground := Ground.phase }, { on := 2, ground := Ground.phase }, { on := 3, ground := Ground.phase }, { on := 4, ground := Ground.phase }, { on := 5, ground := Ground.phase }, { on := 6, ground := Ground.phase }, { on := 7, ground := Ground.phase }, { on := 8, ground := Ground.phase }], guard := none }) rfl (fun K hK => ?_) ?_
              · clear hHeld
                obtain ⟨w7, e1, hs⟩ := S4.out.s10 b
                go_simp
                replace S4 := Lib.hid hs
                clear hs e1
                refine hK.out _ _ ?_ (fun hHeld => ?_)
                · exact S4.out.ld
                clear hK K
                try simp only [Act.put, List.setIfInBounds_toArray, List.set_cons_zero, List.set_cons_succ]
                refine wpAnyH_done (by kernel_rfl) ?_ _
                go_wp2_with fail
                go_meet
                exact ⟨g9, g10, rfl, rfl, S4⟩
              exact AllReadyH.nil
            exact AllReadyH.nil
          exact AllReadyH.nil
        refine AllReadyH.cons (o := { dst := some 10, op := Op.alloc 24, type := 0, pos := "law.go:89", after := #[], guard := none }) rfl (fun K hK => ?_) ?_
        · clear hHeld
          obtain ⟨g10, w10, e1, e2, hs⟩ := S4.out.a10
          go_simp
          try simp only [e1, e2]
          replace S4 := Lib.hid hs
          clear hs e1 e2
          refine hK.out _ _ ?_ (fun hHeld => ?_)
          · exact S4.out.ld
          clear hK K
          try simp only [Act.put, List.setIfInBounds_toArray, List.set_cons_zero, List.set_cons_succ]
          refine wpAnyH_ready (rs := [6]) (by kernel_rfl) (by simp) ?_
          refine AllReadyH.cons (o := { dst := some 9, op := Op.alloc 24, type := 0, pos := "law.go:89", after := #[], guard := none }) rfl (fun K hK => ?_) ?_
          · clear hHeld
            obtain ⟨g9, w9, e1, e2, hs⟩ := S4.out.a9
            go_simp
            try simp only [e1, e2]
            replace S4 := Lib.hid hs
            clear hs e1 e2
            refine hK.out _ _ ?_ (fun hHeld => ?_)
            · exact S4.out.ld
            clear hK K
            try simp only [Act.put, List.setIfInBounds_toArray, List.set_cons_zero, List.set_cons_succ]
            refine wpAnyH_ready (rs := [8]) (by kernel_rfl) (by simp) ?_
            refine AllReadyH.cons (o := { dst := none, op := Op.store 24 (Operand.tmp 9) (Operand.tmp 35), type := 0, pos := "law.go:89", after := #[{ on := 6, ground := Ground.data }, { on := 2, ground := Ground.data }, { on := 5, ground := Ground.chain }, { on := 0, ground := Ground.phase }, { on := 1, ground := Ground.phase }, { on := 2, ground := Ground.phase }, { on := 3, ground := Ground.textOnly Departure.lateStores }, { on := 4, ground := Ground.textOnly Departure.lateStores }, { on := 5, ground := Ground.textOnly Departure.lateStoresUnsure }, { on := 6, ground := Ground.phase }, { on := 7, ground := Ground.phase }], guard := none }) rfl (fun K hK => ?_) ?_
            · clear hHeld
              obtain ⟨w8, e1, hs⟩ := S4.out.s9 a
              go_simp
              replace S4 := Lib.hid hs
              clear hs e1
              refine hK.out _ _ ?_ (fun hHeld => ?_)
              · exact S4.out.ld
              clear hK K
              try simp only [Act.put, List.setIfInBounds_toArray, List.set_cons_zero, List.set_cons_succ]
              refine wpAnyH_ready (rs := [9]) (by kernel_rfl) (by simp) ?_
              refine AllReadyH.cons (o := { dst := none, op := Op.store 24 (Operand.tmp 10) (Operand.tmp 38), type := 0, pos := "law.go:89", after := #[{ on := 7, ground := Ground.data }, { on := 5, ground := Ground.data }, { on := 8, ground := Ground.chain }, { on := 0, ground := Ground.phase }, { on := 1, ground := Ground.phase }, { on := 2, ground := Ground.phase }, { on := 3, ground := Ground.phase }, { on := 4, ground := Ground.phase }, { on := 5, ground := Ground.phase }, { on := 6, ground := Ground.phase }, { on := 7, ground := Ground.phase }, { on := 8, ground := Ground.phase }], guard := none }) rfl (fun K hK => ?_) ?_
              · clear hHeld
                obtain ⟨w7, e1, hs⟩ := S4.out.s10 b
                go_simp
                replace S4 := Lib.hid hs
                clear hs e1
                refine hK.out _ _ ?_ (fun hHeld => ?_)
                · exact S4.out.ld
                clear hK K
                try simp only [Act.put, List.setIfInBounds_toArray, List.set_cons_zero, List.set_cons_succ]
                refine wpAnyH_done (by kernel_rfl) ?_ _
                go_wp2_with fail
                go_meet
                exact ⟨g9, g10, rfl, rfl, S4⟩
              exact AllReadyH.nil
            exact AllReadyH.nil
          exact AllReadyH.nil
        exact AllReadyH.nil
      refine AllReadyH.cons (o := { dst := some 9, op := Op.alloc 24, type := 0, pos := "law.go:89", after := #[], guard := none }) rfl (fun K hK => ?_) ?_
      · clear hHeld
        obtain ⟨g9, w9, e1, e2, hs⟩ := S4.out.a9
        go_simp
        try simp only [e1, e2]
        replace S4 := Lib.hid hs
        clear hs e1 e2
        refine hK.out _ _ ?_ (fun hHeld => ?_)
        · exact S4.out.ld
        clear hK K
        try simp only [Act.put, List.setIfInBounds_toArray, List.set_cons_zero, List.set_cons_succ]
        refine wpAnyH_ready (rs := [5, 7]) (by kernel_rfl) (by simp) ?_
        refine AllReadyH.cons (o := { dst := some 38, op := Op.call { callee := Callee.value (Operand.func 18), args := #[Operand.tmp 36, Operand.tmp 37], argTypes := #[24, 3] }, type := 24, pos := "law.go:89", after := #[{ on := 3, ground := Ground.data }, { on := 4, ground := Ground.data }, { on := 2, ground := Ground.chain }], guard := none }) rfl (fun K hK => ?_) ?_
        · clear hHeld
          go_simp
          go_at_call 18
          refine (CM.out _).mono ?_
          rintro e w5 ⟨rfl, h⟩
          replace S4 := Lib.hid (S4.out.keep h)
          clear h
          refine hK.out _ _ ?_ (fun hHeld => ?_)
          · exact S4.out.ld
          clear hK K
          try simp only [Act.put, List.setIfInBounds_toArray, List.set_cons_zero, List.set_cons_succ]
          refine wpAnyH_ready (rs := [7]) (by kernel_rfl) (by simp) ?_
          refine AllReadyH.cons (o := { dst := some 10, op := Op.alloc 24, type := 0, pos := "law.go:89", after := #[], guard := none }) rfl (fun K hK => ?_) ?_
          · clear hHeld
            obtain ⟨g10, w10, e1, e2, hs⟩ := S4.out.a10
            go_simp
            try simp only [e1, e2]
            replace S4 := Lib.hid hs
            clear hs e1 e2
            refine hK.out _ _ ?_ (fun hHeld => ?_)
            · exact S4.out.ld
            clear hK K
            try simp only [Act.put, List.setIfInBounds_toArray, List.set_cons_zero, List.set_cons_succ]
            refine wpAnyH_ready (rs := [8]) (by kernel_rfl) (by simp) ?_
            refine AllReadyH.cons (o := { dst := none, op := Op.store 24 (Operand.tmp 9) (Operand.tmp 35), type := 0, pos := "law.go:89", after := #[{ on := 6, ground := Ground.data }, { on := 2, ground := Ground.data }, { on := 5, ground := Ground.chain }, { on := 0, ground := Ground.phase }, { on := 1, ground := Ground.phase }, { on := 2, ground := Ground.phase }, { on := 3, ground := Ground.textOnly Departure.lateStores }, { on := 4, ground := Ground.textOnly Departure.lateStores }, { on := 5, ground := Ground.textOnly Departure.lateStoresUnsure }, { on := 6, ground := Ground.phase }, { on := 7, ground := Ground.phase }], guard := none }) rfl (fun K hK => ?_) ?_
            · clear hHeld
              obtain ⟨w8, e1, hs⟩ := S4.out.s9 a
              go_simp
              replace S4 := Lib.hid hs
              clear hs e1
              refine hK.out _ _ ?_ (fun hHeld => ?_)
              · exact S4.out.ld
              clear hK K
              try simp only [Act.put, List.setIfInBounds_toArray, List.set_cons_zero, List.set_cons_succ]
              refine wpAnyH_ready (rs := [9]) (by kernel_rfl) (by simp) ?_
              refine AllReadyH.cons (o := { dst := none, op := Op.store 24 (Operand.tmp 10) (Operand.tmp 38), type := 0, pos := "law.go:89", after := #[{ on := 7, ground := Ground.data }, { on := 5, ground := Ground.data }, { on := 8, ground := Ground.chain }, { on := 0, ground := Ground.phase }, { on := 1, ground := Ground.phase }, { on := 2, ground := Ground.phase }, { on := 3, ground := Ground.phase }, { on := 4, ground := Ground.phase }, { on := 5, ground := Ground.phase }, { on := 6, ground := Ground.phase }, { on := 7, ground := Ground.phase }, { on := 8, ground := Ground.phase }], guard := none }) rfl (fun K hK => ?_) ?_
              · clear hHeld
                obtain ⟨w7, e1, hs⟩ := S4.out.s10 b
                go_simp
                replace S4 := Lib.hid hs
                clear hs e1
                refine hK.out _ _ ?_ (fun hHeld => ?_)
                · exact S4.out.ld
                clear hK K
                try simp only [Act.put, List.setIfInBounds_toArray, List.set_cons_zero, List.set_cons_succ]
                refine wpAnyH_done (by kernel_rfl) ?_ _
                go_wp2_with fail
                go_meet
                exact ⟨g9, g10, rfl, rfl, S4⟩
              exact AllReadyH.nil
            exact AllReadyH.nil
          exact AllReadyH.nil
        refine AllReadyH.cons (o := { dst := some 10, op := Op.alloc 24, type := 0, pos := "law.go:89", after := #[], guard := none }) rfl (fun K hK => ?_) ?_
        · clear hHeld
          obtain ⟨g10, w10, e1, e2, hs⟩ := S4.out.a10
          go_simp
          try simp only [e1, e2]
          replace S4 := Lib.hid hs
          clear hs e1 e2
          refine hK.out _ _ ?_ (fun hHeld => ?_)
          · exact S4.out.ld
          clear hK K
          try simp only [Act.put, List.setIfInBounds_toArray, List.set_cons_zero, List.set_cons_succ]
          refine wpAnyH_ready (rs := [5]) (by kernel_rfl) (by simp) ?_
          refine AllReadyH.cons (o := { dst := some 38, op := Op.call { callee := Callee.value (Operand.func 18), args := #[Operand.tmp 36, Operand.tmp 37], argTypes := #[24, 3] }, type := 24, pos := "law.go:89", after := #[{ on := 3, ground := Ground.data }, { on := 4, ground := Ground.data }, { on := 2, ground := Ground.chain }], guard := none }) rfl (fun K hK => ?_) ?_
          · clear hHeld
            go_simp
            go_at_call 18
            refine (CM.out _).mono ?_
            rintro e w5 ⟨rfl, h⟩
            replace S4 := Lib.hid (S4.out.keep h)
            clear h
            refine hK.out _ _ ?_ (fun hHeld => ?_)
            · exact S4.out.ld
            clear hK K
            try simp only [Act.put, List.setIfInBounds_toArray, List.set_cons_zero, List.set_cons_succ]
            refine wpAnyH_ready (rs := [8]) (by kernel_rfl) (by simp) ?_
            refine AllReadyH.cons (o := { dst := none, op := Op.store 24 (Operand.tmp 9) (Operand.tmp 35), type := 0, pos := "law.go:89", after := #[{ on := 6, ground := Ground.data }, { on := 2, ground := Ground.data }, { on := 5, ground := Ground.chain }, { on := 0, ground := Ground.phase }, { on := 1, ground := Ground.phase }, { on := 2, ground := Ground.phase }, { on := 3, ground := Ground.textOnly Departure.lateStores }, { on := 4, ground := Ground.textOnly Departure.lateStores }, { on := 5, ground := Ground.textOnly Departure.lateStoresUnsure }, { on := 6, ground := Ground.phase }, { on := 7, ground := Ground.phase }], guard := none }) rfl (fun K hK => ?_) ?_
            · clear hHeld
              obtain ⟨w8, e1, hs⟩ := S4.out.s9 a
              go_simp
              replace S4 := Lib.hid hs
              clear hs e1
              refine hK.out _ _ ?_ (fun hHeld => ?_)
              · exact S4.out.ld
              clear hK K
              try simp only [Act.put, List.setIfInBounds_toArray, List.set_cons_zero, List.set_cons_succ]
              refine wpAnyH_ready (rs := [9]) (by kernel_rfl) (by simp) ?_
              refine AllReadyH.cons (o := { dst := none, op := Op.store 24 (Operand.tmp 10) (Operand.tmp 38), type := 0, pos := "law.go:89", after := #[{ on := 7, ground := Ground.data }, { on := 5, ground := Ground.data }, { on := 8, ground := Ground.chain }, { on := 0, ground := Ground.phase }, { on := 1, ground := Ground.phase }, { on := 2, ground := Ground.phase }, { on := 3, ground := Ground.phase }, { on := 4, ground := Ground.phase }, { on := 5, ground := Ground.phase }, { on := 6, ground := Ground.phase }, { on := 7, ground := Ground.phase }, { on := 8, ground := Ground.phase }], guard := none }) rfl (fun K hK => ?_) ?_
              · clear hHeld
                obtain ⟨w7, e1, hs⟩ := S4.out.s10 b
                go_simp
                replace S4 := Lib.hid hs
                clear hs e1
                refine hK.out _ _ ?_ (fun hHeld => ?_)
                · exact S4.out.ld
                clear hK K
                try simp only [Act.put, List.setIfInBounds_toArray, List.set_cons_zero, List.set_cons_succ]
                refine wpAnyH_done (by kernel_rfl) ?_ _
                go_wp2_with fail
                go_meet
                exact ⟨g9, g10, rfl, rfl, S4⟩
              exact AllReadyH.nil
            exact AllReadyH.nil
          exact AllReadyH.nil
        exact AllReadyH.nil
      refine AllReadyH.cons (o := { dst := some 10, op := Op.alloc 24, type := 0, pos := "law.go:89", after := #[], guard := none }) rfl (fun K hK => ?_) ?_
      · clear hHeld
        obtain ⟨g10, w10, e1, e2, hs⟩ := S4.out.a10
        go_simp
        try simp only [e1, e2]
        replace S4 := Lib.hid hs
        clear hs e1 e2
        refine hK.out _ _ ?_ (fun hHeld => ?_)
        · exact S4.out.ld
        clear hK K
        try simp only [Act.put, List.setIfInBounds_toArray, List.set_cons_zero, List.set_cons_succ]
        refine wpAnyH_ready (rs := [5, 6]) (by kernel_rfl) (by simp) ?_
        refine AllReadyH.cons (o := { dst := some 38, op := Op.call { callee := Callee.value (Operand.func 18), args := #[Operand.tmp 36, Operand.tmp 37], argTypes := #[24, 3] }, type := 24, pos := "law.go:89", after := #[{ on := 3, ground := Ground.data }, { on := 4, ground := Ground.data }, { on := 2, ground := Ground.chain }], guard := none }) rfl (fun K hK => ?_) ?_
        · clear hHeld
          go_simp
          go_at_call 18
          refine (CM.out _).mono ?_
          rintro e w5 ⟨rfl, h⟩
          replace S4 := Lib.hid (S4.out.keep h)
          clear h
          refine hK.out _ _ ?_ (fun hHeld => ?_)
          · exact S4.out.ld
          clear hK K
          try simp only [Act.put, List.setIfInBounds_toArray, List.set_cons_zero, List.set_cons_succ]
          refine wpAnyH_ready (rs := [6]) (by kernel_rfl) (by simp) ?_
          refine AllReadyH.cons (o := { dst := some 9, op := Op.alloc 24, type := 0, pos := "law.go:89", after := #[], guard := none }) rfl (fun K hK => ?_) ?_
          · clear hHeld
            obtain ⟨g9, w9, e1, e2, hs⟩ := S4.out.a9
            go_simp
            try simp only [e1, e2]
            replace S4 := Lib.hid hs
            clear hs e1 e2
            refine hK.out _ _ ?_ (fun hHeld => ?_)
            · exact S4.out.ld
            clear hK K
            try simp only [Act.put, List.setIfInBounds_toArray, List.set_cons_zero, List.set_cons_succ]
            refine wpAnyH_ready (rs := [8]) (by kernel_rfl) (by simp) ?_
            refine AllReadyH.cons (o := { dst := none, op := Op.store 24 (Operand.tmp 9) (Operand.tmp 35), type := 0, pos := "law.go:89", after := #[{ on := 6, ground := Ground.data }, { on := 2, ground := Ground.data }, { on := 5, ground := Ground.chain }, { on := 0, ground := Ground.phase }, { on := 1, ground := Ground.phase }, { on := 2, ground := Ground.phase }, { on := 3, ground := Ground.textOnly Departure.lateStores }, { on := 4, ground := Ground.textOnly Departure.lateStores }, { on := 5, ground := Ground.textOnly Departure.lateStoresUnsure }, { on := 6, ground := Ground.phase }, { on := 7, ground := Ground.phase }], guard := none }) rfl (fun K hK => ?_) ?_
            · clear hHeld
              obtain ⟨w8, e1, hs⟩ := S4.out.s9 a
              go_simp
              replace S4 := Lib.hid hs
              clear hs e1
              refine hK.out _ _ ?_ (fun hHeld => ?_)
              · exact S4.out.ld
              clear hK K
              try simp only [Act.put, List.setIfInBounds_toArray, List.set_cons_zero, List.set_cons_succ]
              refine wpAnyH_ready (rs := [9]) (by kernel_rfl) (by simp) ?_
              refine AllReadyH.cons (o := { dst := none, op := Op.store 24 (Operand.tmp 10) (Operand.tmp 38), type := 0, pos := "law.go:89", after := #[{ on := 7, ground := Ground.data }, { on := 5, ground := Ground.data }, { on := 8, ground := Ground.chain }, { on := 0, ground := Ground.phase }, { on := 1, ground := Ground.phase }, { on := 2, ground := Ground.phase }, { on := 3, ground := Ground.phase }, { on := 4, ground := Ground.phase }, { on := 5, ground := Ground.phase }, { on := 6, ground := Ground.phase }, { on := 7, ground := Ground.phase }, { on := 8, ground := Ground.phase }], guard := none }) rfl (fun K hK => ?_) ?_
              · clear hHeld
                obtain ⟨w7, e1, hs⟩ := S4.out.s10 b
                go_simp
                replace S4 := Lib.hid hs
                clear hs e1
                refine hK.out _ _ ?_ (fun hHeld => ?_)
                · exact S4.out.ld
                clear hK K
                try simp only [Act.put, List.setIfInBounds_toArray, List.set_cons_zero, List.set_cons_succ]
                refine wpAnyH_done (by kernel_rfl) ?_ _
                go_wp2_with fail
                go_meet
                exact ⟨g9, g10, rfl, rfl, S4⟩
              exact AllReadyH.nil
            exact AllReadyH.nil
          exact AllReadyH.nil
        refine AllReadyH.cons (o := { dst := some 9, op := Op.alloc 24, type := 0, pos := "law.go:89", after := #[], guard := none }) rfl (fun K hK => ?_) ?_
        · clear hHeld
          obtain ⟨g9, w9, e1, e2, hs⟩ := S4.out.a9
          go_simp
          try simp only [e1, e2]
          replace S4 := Lib.hid hs
          clear hs e1 e2
          refine hK.out _ _ ?_ (fun hHeld => ?_)
          · exact S4.out.ld
          clear hK K
          try simp only [Act.put, List.setIfInBounds_toArray, List.set_cons_zero, List.set_cons_succ]
          refine wpAnyH_ready (rs := [5]) (by kernel_rfl) (by simp) ?_
          refine AllReadyH.cons (o := { dst := some 38, op := Op.call { callee := Callee.value (Operand.func 18), args := #[Operand.tmp 36, Operand.tmp 37], argTypes := #[24, 3] }, type := 24, pos := "law.go:89", after := #[{ on := 3, ground := Ground.data }, { on := 4, ground := Ground.data }, { on := 2, ground := Ground.chain }], guard := none }) rfl (fun K hK => ?_) ?_
          · clear hHeld
            go_simp
            go_at_call 18
            refine (CM.out _).mono ?_
            rintro e w5 ⟨rfl, h⟩
            replace S4 := Lib.hid (S4.out.keep h)
            clear h
            refine hK.out _ _ ?_ (fun hHeld => ?_)
            · exact S4.out.ld
            clear hK K
            try simp only [Act.put, List.setIfInBounds_toArray, List.set_cons_zero, List.set_cons_succ]
            refine wpAnyH_ready (rs := [8]) (by kernel_rfl) (by simp) ?_
            refine AllReadyH.cons (o := { dst := none, op := Op.store 24 (Operand.tmp 9) (Operand.tmp 35), type := 0, pos := "law.go:89", after := #[{ on := 6, ground := Ground.data }, { on := 2, ground := Ground.data }, { on := 5, ground := Ground.chain }, { on := 0, ground := Ground.phase }, { on := 1, ground := Ground.phase }, { on := 2, ground := Ground.phase }, { on := 3, ground := Ground.textOnly Departure.lateStores }, { on := 4, ground := Ground.textOnly Departure.lateStores }, { on := 5, ground := Ground.textOnly Departure.lateStoresUnsure }, { on := 6, ground := Ground.phase }, { on := 7, ground := Ground.phase }], guard := none }) rfl (fun K hK => ?_) ?_
            · clear hHeld
              obtain ⟨w8, e1, hs⟩ := S4.out.s9 a
              go_simp
              replace S4 := Lib.hid hs
              clear hs e1
              refine hK.out _ _ ?_ (fun hHeld => ?_)
              · exact S4.out.ld
              clear hK K
              try simp only [Act.put, List.setIfInBounds_toArray, List.set_cons_zero, List.set_cons_succ]
              refine wpAnyH_ready (rs := [9]) (by kernel_rfl) (by simp) ?_
              refine AllReadyH.cons (o := { dst := none, op := Op.store 24 (Operand.tmp 10) (Operand.tmp 38), type := 0, pos := "law.go:89", after := #[{ on := 7, ground := Ground.data }, { on := 5, ground := Ground.data }, { on := 8, ground := Ground.chain }, { on := 0, ground := Ground.phase }, { on := 1, ground := Ground.phase }, { on := 2, ground := Ground.phase }, { on := 3, ground := Ground.phase }, { on := 4, ground := Ground.phase }, { on := 5, ground := Ground.phase }, { on := 6, ground := Ground.phase }, { on := 7, ground := Ground.phase }, { on := 8, ground := Ground.phase }], guard := none }) rfl (fun K hK => ?_) ?_
              · clear hHeld
                obtain ⟨w7, e1, hs⟩ := S4.out.s10 b
                go_simp
                replace S4 := Lib.hid hs
                clear hs e1
                refine hK.out _ _ ?_ (fun hHeld => ?_)
                · exact S4.out.ld
                clear hK K
                try simp only [Act.put, List.setIfInBounds_toArray, List.set_cons_zero, List.set_cons_succ]
                refine wpAnyH_done (by kernel_rfl) ?_ _
                go_wp2_with fail
                go_meet
                exact ⟨g9, g10, rfl, rfl, S4⟩
              exact AllReadyH.nil
            exact AllReadyH.nil
          exact AllReadyH.nil
        exact AllReadyH.nil
      exact AllReadyH.nil
    refine AllReadyH.cons (o := { dst := some 9, op := Op.alloc 24, type := 0, pos := "law.go:89", after := #[], guard := none }) rfl (fun K hK => ?_) ?_
    · clear hHeld
      obtain ⟨g9, w9, e1, e2, hs⟩ := S4.out.a9
      go_simp
      try simp only [e1, e2]
      replace S4 := Lib.hid hs
      clear hs e1 e2
      refine hK.out _ _ ?_ (fun hHeld => ?_)
      · exact S4.out.ld
      clear hK K
      try simp only [Act.put, List.setIfInBounds_toArray, List.set_cons_zero, List.set_cons_succ]
      refine wpAnyH_ready (rs := [2, 7]) (by kernel_rfl) (by simp) ?_
      refine AllReadyH.cons (o := { dst := some 35, op := Op.call { callee := Callee.value (Operand.func 14), args := #[Operand.tmp 33, Operand.tmp 34], argTypes := #[24, 3] }, type := 24, pos := "law.go:89", after := #[{ on := 0, ground := Ground.data }, { on := 1, ground := Ground.data }], guard := none }) rfl (fun K hK => ?_) ?_
      · clear hHeld
        go_simp
        go_at_call 14
        refine (CN.out _).mono ?_
        rintro e w5 ⟨rfl, h⟩
        replace S4 := Lib.hid (S4.out.keep h)
        clear h
        refine hK.out _ _ ?_ (fun hHeld => ?_)
        · exact S4.out.ld
        clear hK K
        try simp only [Act.put, List.setIfInBounds_toArray, List.set_cons_zero, List.set_cons_succ]
        refine wpAnyH_ready (rs := [5, 7]) (by kernel_rfl) (by simp) ?_
        refine AllReadyH.cons (o := { dst := some 38, op := Op.call { callee := Callee.value (Operand.func 18), args := #[Operand.tmp 36, Operand.tmp 37], argTypes := #[24, 3] }, type := 24, pos := "law.go:89", after := #[{ on := 3, ground := Ground.data }, { on := 4, ground := Ground.data }, { on := 2, ground := Ground.chain }], guard := none }) rfl (fun K hK => ?_) ?_
        · clear hHeld
          go_simp
          go_at_call 18
          refine (CM.out _).mono ?_
          rintro e w5 ⟨rfl, h⟩
          replace S4 := Lib.hid (S4.out.keep h)
          clear h
          refine hK.out _ _ ?_ (fun hHeld => ?_)
          · exact S4.out.ld
          clear hK K
          try simp only [Act.put, List.setIfInBounds_toArray, List.set_cons_zero, List.set_cons_succ]
          refine wpAnyH_ready (rs := [7]) (by kernel_rfl) (by simp) ?_
          refine AllReadyH.cons (o := { dst := some 10, op := Op.alloc 24, type := 0, pos := "law.go:89", after := #[], guard := none }) rfl (fun K hK => ?_) ?_
          · clear hHeld
            obtain ⟨g10, w10, e1, e2, hs⟩ := S4.out.a10
            go_simp
            try simp only [e1, e2]
            replace S4 := Lib.hid hs
            clear hs e1 e2
            refine hK.out _ _ ?_ (fun hHeld => ?_)
            · exact S4.out.ld
            clear hK K
            try simp only [Act.put, List.setIfInBounds_toArray, List.set_cons_zero, List.set_cons_succ]
            refine wpAnyH_ready (rs := [8]) (by kernel_rfl) (by simp) ?_
            refine AllReadyH.cons (o := { dst := none, op := Op.store 24 (Operand.tmp 9) (Operand.tmp 35), type := 0, pos := "law.go:89", after := #[{ on := 6, ground := Ground.data }, { on := 2, ground := Ground.data }, { on := 5, ground := Ground.chain }, { on := 0, ground := Ground.phase }, { on := 1, ground := Ground.phase }, { on := 2, ground := Ground.phase }, { on := 3, ground := Ground.textOnly Departure.lateStores }, { on := 4, ground := Ground.textOnly Departure.lateStores }, { on := 5, ground := Ground.textOnly Departure.lateStoresUnsure }, { on := 6, ground := Ground.phase }, { on := 7, ground := Ground.phase }], guard := none }) rfl (fun K hK => ?_) ?_
            · clear hHeld
              obtain ⟨w8, e1, hs⟩ := S4.out.s9 a
              go_simp
              replace S4 := Lib.hid hs
              clear hs e1
              refine hK.out _ _ ?_ (fun hHeld => ?_)
              · exact S4.out.ld
              clear hK K
              try simp only [Act.put, List.setIfInBounds_toArray, List.set_cons_zero, List.set_cons_succ]
              refine wpAnyH_ready (rs := [9]) (by kernel_rfl) (by simp) ?_
              refine AllReadyH.cons (o := { dst := none, op := Op.store 24 (Operand.tmp 10) (Operand.tmp 38), type := 0, pos := "law.go:89", after := #[{ on := 7, ground := Ground.data }, { on := 5, ground := Ground.data }, { on := 8, ground := Ground.chain }, { on := 0, ground := Ground.phase }, { on := 1, ground := Ground.phase }, { on := 2, ground := Ground.phase }, { on := 3, ground := Ground.phase }, { on := 4, ground := Ground.phase }, { on := 5, ground := Ground.phase }, { on := 6, ground := Ground.phase }, { on := 7, ground := Ground.phase }, { on := 8, ground := Ground.phase }], guard := none }) rfl (fun K hK => ?_) ?_
              · clear hHeld
                obtain ⟨w7, e1, hs⟩ := S4.out.s10 b
                go_simp
                replace S4 := Lib.hid hs
                clear hs e1
                refine hK.out _ _ ?_ (fun hHeld => ?_)
                · exact S4.out.ld
                clear hK K
                try simp only [Act.put, List.setIfInBounds_toArray, List.set_cons_zero, List.set_cons_succ]
                refine wpAnyH_done (by kernel_rfl) ?_ _
                go_wp2_with fail
                go_meet
                exact ⟨g9, g10, rfl, rfl, S4⟩
              exact AllReadyH.nil
            exact AllReadyH.nil
          exact AllReadyH.nil
        refine AllReadyH.cons (o := { dst := some 10, op := Op.alloc 24, type := 0, pos := "law.go:89", after := #[], guard := none }) rfl (fun K hK => ?_) ?_
        · clear hHeld
          obtain ⟨g10, w10, e1, e2, hs⟩ := S4.out.a10
          go_simp
          try simp only [e1, e2]
          replace S4 := Lib.hid hs
          clear hs e1 e2
          refine hK.out _ _ ?_ (fun hHeld => ?_)
          · exact S4.out.ld
          clear hK K
          try simp only [Act.put, List.setIfInBounds_toArray, List.set_cons_zero, List.set_cons_succ]
          refine wpAnyH_ready (rs := [5]) (by kernel_rfl) (by simp) ?_
          refine AllReadyH.cons (o := { dst := some 38, op := Op.call { callee := Callee.value (Operand.func 18), args := #[Operand.tmp 36, Operand.tmp 37], argTypes := #[24, 3] }, type := 24, pos := "law.go:89", after := #[{ on := 3, ground := Ground.data }, { on := 4, ground := Ground.data }, { on := 2, ground := Ground.chain }], guard := none }) rfl (fun K hK => ?_) ?_
          · clear hHeld
            go_simp
            go_at_call 18
            refine (CM.out _).mono ?_
            rintro e w5 ⟨rfl, h⟩
            replace S4 := Lib.hid (S4.out.keep h)
            clear h
            refine hK.out _ _ ?_ (fun hHeld => ?_)
            · exact S4.out.ld
            clear hK K
            try simp only [Act.put, List.setIfInBounds_toArray, List.set_cons_zero, List.set_cons_succ]
            refine wpAnyH_ready (rs := [8]) (by kernel_rfl) (by simp) ?_
            refine AllReadyH.cons (o := { dst := none, op := Op.store 24 (Operand.tmp 9) (Operand.tmp 35), type := 0, pos := "law.go:89", after := #[{ on := 6, ground := Ground.data }, { on := 2, ground := Ground.data }, { on := 5, ground := Ground.chain }, { on := 0, ground := Ground.phase }, { on := 1, ground := Ground.phase }, { on := 2, ground := Ground.phase }, { on := 3, ground := Ground.textOnly Departure.lateStores }, { on := 4, ground := Ground.textOnly Departure.lateStores }, { on := 5, ground := Ground.textOnly Departure.lateStoresUnsure }, { on := 6, ground := Ground.phase }, { on := 7, ground := Ground.phase }], guard := none }) rfl (fun K hK => ?_) ?_
            · clear hHeld
              obtain ⟨w8, e1, hs⟩ := S4.out.s9 a
              go_simp
              replace S4 := Lib.hid hs
              clear hs e1
              refine hK.out _ _ ?_ (fun hHeld => ?_)
              · exact S4.out.ld
              clear hK K
              try simp only [Act.put, List.setIfInBounds_toArray, List.set_cons_zero, List.set_cons_succ]
              refine wpAnyH_ready (rs := [9]) (by kernel_rfl) (by simp) ?_
              refine AllReadyH.cons (o := { dst := none, op := Op.store 24 (Operand.tmp 10) (Operand.tmp 38), type := 0, pos := "law.go:89", after := #[{ on := 7, ground := Ground.data }, { on := 5, ground := Ground.data }, { on := 8, ground := Ground.chain }, { on := 0, ground := Ground.phase }, { on := 1, ground := Ground.phase }, { on := 2, ground := Ground.phase }, { on := 3, ground := Ground.phase }, { on := 4, ground := Ground.phase }, { on := 5, ground := Ground.phase }, { on := 6, ground := Ground.phase }, { on := 7, ground := Ground.phase }, { on := 8, ground := Ground.phase }], guard := none }) rfl (fun K hK => ?_) ?_
              · clear hHeld
                obtain ⟨w7, e1, hs⟩ := S4.out.s10 b
                go_simp
                replace S4 := Lib.hid hs
                clear hs e1
                refine hK.out _ _ ?_ (fun hHeld => ?_)
                · exact S4.out.ld
                clear hK K
                try simp only [Act.put, List.setIfInBounds_toArray, List.set_cons_zero, List.set_cons_succ]
                refine wpAnyH_done (by kernel_rfl) ?_ _
                go_wp2_with fail
                go_meet
                exact ⟨g9, g10, rfl, rfl, S4⟩
              exact AllReadyH.nil
            exact AllReadyH.nil
          exact AllReadyH.nil
        exact AllReadyH.nil
      refine AllReadyH.cons (o := { dst := some 10, op := Op.alloc 24, type := 0, pos := "law.go:89", after := #[], guard := none }) rfl (fun K hK => ?_) ?_
      · clear hHeld
        obtain ⟨g10, w10, e1, e2, hs⟩ := S4.out.a10
        go_simp
        try simp only [e1, e2]
        replace S4 := Lib.hid hs
        clear hs e1 e2
        refine hK.out _ _ ?_ (fun hHeld => ?_)
        · exact S4.out.ld
        clear hK K
        try simp only [Act.put, List.setIfInBounds_toArray, List.set_cons_zero, List.set_cons_succ]
        refine wpAnyH_ready (rs := [2]) (by kernel_rfl) (by simp) ?_
        refine AllReadyH.cons (o := { dst := some 35, op := Op.call { callee := Callee.value (Operand.func 14), args := #[Operand.tmp 33, Operand.tmp 34], argTypes := #[24, 3] }, type := 24, pos := "law.go:89", after := #[{ on := 0, ground := Ground.data }, { on := 1, ground := Ground.data }], guard := none }) rfl (fun K hK => ?_) ?_
        · clear hHeld
          go_simp
          go_at_call 14
          refine (CN.out _).mono ?_
          rintro e w5 ⟨rfl, h⟩
          replace S4 := Lib.hid (S4.out.keep h)
          clear h
          refine hK.out _ _ ?_ (fun hHeld => ?_)
          · exact S4.out.ld
          clear hK K
          try simp only [Act.put, List.setIfInBounds_toArray, List.set_cons_zero, List.set_cons_succ]
          refine wpAnyH_ready (rs := [5]) (by kernel_rfl) (by simp) ?_
          refine AllReadyH.cons (o := { dst := some 38, op := Op.call { callee := Callee.value (Operand.func 18), args := #[Operand.tmp 36, Operand.tmp 37], argTypes := #[24, 3] }, type := 24, pos := "law.go:89", after := #[{ on := 3, ground := Ground.data }, { on := 4, ground := Ground.data }, { on := 2, ground := Ground.chain }], guard := none }) rfl (fun K hK => ?_) ?_
          · clear hHeld
            go_simp
            go_at_call 18
            refine (CM.out _).mono ?_
            rintro e w5 ⟨rfl, h⟩
            replace S4 := Lib.hid (S4.out.keep h)
            clear h
            refine hK.out _ _ ?_ (fun hHeld => ?_)
            · exact S4.out.ld
            clear hK K
            try simp only [Act.put, List.setIfInBounds_toArray, List.set_cons_zero, List.set_cons_succ]
            refine wpAnyH_ready (rs := [8]) (by kernel_rfl) (by simp) ?_
            refine AllReadyH.cons (o := { dst := none, op := Op.store 24 (Operand.tmp 9) (Operand.tmp 35), type := 0, pos := "law.go:89", after := #[{ on := 6, ground := Ground.data }, { on := 2, ground := Ground.data }, { on := 5, ground := Ground.chain }, { on := 0, ground := Ground.phase }, { on := 1, ground := Ground.phase }, { on := 2, ground := Ground.phase }, { on := 3, ground := Ground.textOnly Departure.lateStores }, { on := 4, ground := Ground.textOnly Departure.lateStores }, { on := 5, ground := Ground.textOnly Departure.lateStoresUnsure }, { on := 6, ground := Ground.phase }, { on := 7, ground := Ground.phase }], guard := none }) rfl (fun K hK => ?_) ?_
            · clear hHeld
              obtain ⟨w8, e1, hs⟩ := S4.out.s9 a
              go_simp
              replace S4 := Lib.hid hs
              clear hs e1
              refine hK.out _ _ ?_ (fun hHeld => ?_)
              · exact S4.out.ld
              clear hK K
              try simp only [Act.put, List.setIfInBounds_toArray, List.set_cons_zero, List.set_cons_succ]
              refine wpAnyH_ready (rs := [9]) (by kernel_rfl) (by simp) ?_
              refine AllReadyH.cons (o := { dst := none, op := Op.store 24 (Operand.tmp 10) (Operand.tmp 38), type := 0, pos := "law.go:89", after := #[{ on := 7, ground := Ground.data }, { on := 5, ground := Ground.data }, { on := 8, ground := Ground.chain }, { on := 0, ground := Ground.phase }, { on := 1, ground := Ground.phase }, { on := 2, ground := Ground.phase }, { on := 3, ground := Ground.phase }, { on := 4, ground := Ground.phase }, { on := 5, ground := Ground.phase }, { on := 6, ground := Ground.phase }, { on := 7, ground := Ground.phase }, { on := 8, ground := Ground.phase }], guard := none }) rfl (fun K hK => ?_) ?_
              · clear hHeld
                obtain ⟨w7, e1, hs⟩ := S4.out.s10 b
                go_simp
                replace S4 := Lib.hid hs
                clear hs e1
                refine hK.out _ _ ?_ (fun hHeld => ?_)
                · exact S4.out.ld
                clear hK K
                try simp only [Act.put, List.setIfInBounds_toArray, List.set_cons_zero, List.set_cons_succ]
                refine wpAnyH_done (by kernel_rfl) ?_ _
                go_wp2_with fail
                go_meet
                exact ⟨g9, g10, rfl, rfl, S4⟩
              exact AllReadyH.nil
            exact AllReadyH.nil
          exact AllReadyH.nil
        exact AllReadyH.nil
      exact AllReadyH.nil
    refine AllReadyH.cons (o := { dst := some 10, op := Op.alloc 24, type := 0, pos := "law.go:89", after := #[], guard := none }) rfl (fun K hK => ?_) ?_
    · clear hHeld
      obtain ⟨g10, w10, e1, e2, hs⟩ := S4.out.a10
      go_simp
      try simp only [e1, e2]
      replace S4 := Lib.hid hs
      clear hs e1 e2
      refine hK.out _ _ ?_ (fun hHeld => ?_)
      · exact S4.out.ld
      clear hK K
      try simp only [Act.put, List.setIfInBounds_toArray, List.set_cons_zero, List.set_cons_succ]
      refine wpAnyH_ready (rs := [2, 6]) (by kernel_rfl) (by simp) ?_
      refine AllReadyH.cons (o := { dst := some 35, op := Op.call { callee := Callee.value (Operand.func 14), args := #[Operand.tmp 33, Operand.tmp 34], argTypes := #[24, 3] }, type := 24, pos := "law.go:89", after := #[{ on := 0, ground := Ground.data }, { on := 1, ground := Ground.data }], guard := none }) rfl (fun K hK => ?_) ?_
      · clear hHeld
        go_simp
        go_at_call 14
        refine (CN.out _).mono ?_
        rintro e w5 ⟨rfl, h⟩
        replace S4 := Lib.hid (S4.out.keep h)
        clear h
        refine hK.out _ _ ?_ (fun hHeld => ?_)
        · exact S4.out.ld
        clear hK K
        try simp only [Act.put, List.setIfInBounds_toArray, List.set_cons_zero, List.set_cons_succ]
        refine wpAnyH_ready (rs := [5, 6]) (by kernel_rfl) (by simp) ?_
        refine AllReadyH.cons (o := { dst := some 38, op := Op.call { callee := Callee.value (Operand.func 18), args := #[Operand.tmp 36, Operand.tmp 37], argTypes := #[24, 3] }, type := 24, pos := "law.go:89", after := #[{ on := 3, ground := Ground.data }, { on := 4, ground := Ground.data }, { on := 2, ground := Ground.chain }], guard := none }) rfl (fun K hK => ?_) ?_
        · clear hHeld
          go_simp
          go_at_call 18
          refine (CM.out _).mono ?_
          rintro e w5 ⟨rfl, h⟩
          replace S4 := Lib.hid (S4.out.keep h)
          clear h
          refine hK.out _ _ ?_ (fun hHeld => ?_)
          · exact S4.out.ld
          clear hK K
          try simp only [Act.put, List.setIfInBounds_toArray, List.set_cons_zero, List.set_cons_succ]
          refine wpAnyH_ready (rs := [6]) (by kernel_rfl) (by simp) ?_
          refine AllReadyH.cons (o := { dst := some 9, op := Op.alloc 24, type := 0, pos := "law.go:89", after := #[], guard := none }) rfl (fun K hK => ?_) ?_
          · clear hHeld
            obtain ⟨g9, w9, e1, e2, hs⟩ := S4.out.a9
            go_simp
            try simp only [e1, e2]
            replace S4 := Lib.hid hs
            clear hs e1 e2
            refine hK.out _ _ ?_ (fun hHeld => ?_)
            · exact S4.out.ld
            clear hK K
            try simp only [Act.put, List.setIfInBounds_toArray, List.set_cons_zero, List.set_cons_succ]
            refine wpAnyH_ready (rs := [8]) (by kernel_rfl) (by simp) ?_
            refine AllReadyH.cons (o := { dst := none, op := Op.store 24 (Operand.tmp 9) (Operand.tmp 35), type := 0, pos := "law.go:89", after := #[{ on := 6, ground := Ground.data }, { on := 2, ground := Ground.data }, { on := 5, ground := Ground.chain }, { on := 0, ground := Ground.phase }, { on := 1, ground := Ground.phase }, { on := 2, ground := Ground.phase }, { on := 3, ground := Ground.textOnly Departure.lateStores }, { on := 4, ground := Ground.textOnly Departure.lateStores }, { on := 5, ground := Ground.textOnly Departure.lateStoresUnsure }, { on := 6, ground := Ground.phase }, { on := 7, ground := Ground.phase }], guard := none }) rfl (fun K hK => ?_) ?_
            · clear hHeld
              obtain ⟨w8, e1, hs⟩ := S4.out.s9 a
              go_simp
              replace S4 := Lib.hid hs
              clear hs e1
              refine hK.out _ _ ?_ (fun hHeld => ?_)
              · exact S4.out.ld
              clear hK K
              try simp only [Act.put, List.setIfInBounds_toArray, List.set_cons_zero, List.set_cons_succ]
              refine wpAnyH_ready (rs := [9]) (by kernel_rfl) (by simp) ?_
              refine AllReadyH.cons (o := { dst := none, op := Op.store 24 (Operand.tmp 10) (Operand.tmp 38), type := 0, pos := "law.go:89", after := #[{ on := 7, ground := Ground.data }, { on := 5, ground := Ground.data }, { on := 8, ground := Ground.chain }, { on := 0, ground := Ground.phase }, { on := 1, ground := Ground.phase }, { on := 2, ground := Ground.phase }, { on := 3, ground := Ground.phase }, { on := 4, ground := Ground.phase }, { on := 5, ground := Ground.phase }, { on := 6, ground := Ground.phase }, { on := 7, ground := Ground.phase }, { on := 8, ground := Ground.phase }], guard := none }) rfl (fun K hK => ?_) ?_
              · clear hHeld
                obtain ⟨w7, e1, hs⟩ := S4.out.s10 b
                go_simp
                replace S4 := Lib.hid hs
                clear hs e1
                refine hK.out _ _ ?_ (fun hHeld => ?_)
                · exact S4.out.ld
                clear hK K
                try simp only [Act.put, List.setIfInBounds_toArray, List.set_cons_zero, List.set_cons_succ]
                refine wpAnyH_done (by kernel_rfl) ?_ _
                go_wp2_with fail
                go_meet
                exact ⟨g9, g10, rfl, rfl, S4⟩
              exact AllReadyH.nil
            exact AllReadyH.nil
          exact AllReadyH.nil
        refine AllReadyH.cons (o := { dst := some 9, op := Op.alloc 24, type := 0, pos := "law.go:89", after := #[], guard := none }) rfl (fun K hK => ?_) ?_
        · clear hHeld
          obtain ⟨g9, w9, e1, e2, hs⟩ := S4.out.a9
          go_simp
          try simp only [e1, e2]
          replace S4 := Lib.hid hs
          clear hs e1 e2
          refine hK.out _ _ ?_ (fun hHeld => ?_)
          · exact S4.out.ld
          clear hK K
          try simp only [Act.put, List.setIfInBounds_toArray, List.set_cons_zero, List.set_cons_succ]
          refine wpAnyH_ready (rs := [5]) (by kernel_rfl) (by simp) ?_
          refine AllReadyH.cons (o := { dst := some 38, op := Op.call { callee := Callee.value (Operand.func 18), args := #[Operand.tmp 36, Operand.tmp 37], argTypes := #[24, 3] }, type := 24, pos := "law.go:89", after := #[{ on := 3, ground := Ground.data }, { on := 4, ground := Ground.data }, { on := 2, ground := Ground.chain }], guard := none }) rfl (fun K hK => ?_) ?_
          · clear hHeld
            go_simp
            go_at_call 18
            refine (CM.out _).mono ?_
            rintro e w5 ⟨rfl, h⟩
            replace S4 := Lib.hid (S4.out.keep h)
            clear h
            refine hK.out _ _ ?_ (fun hHeld => ?_)
            · exact S4.out.ld
            clear hK K
            try simp only [Act.put, List.setIfInBounds_toArray, List.set_cons_zero, List.set_cons_succ]
            refine wpAnyH_ready (rs := [8]) (by kernel_rfl) (by simp) ?_
            refine AllReadyH.cons (o := { dst := none, op := Op.store 24 (Operand.tmp 9) (Operand.tmp 35), type := 0, pos := "law.go:89", after := #[{ on := 6, ground := Ground.data }, { on := 2, ground := Ground.data }, { on := 5, ground := Ground.chain }, { on := 0, ground := Ground.phase }, { on := 1, ground := Ground.phase }, { on := 2, ground := Ground.phase }, { on := 3, ground := Ground.textOnly Departure.lateStores }, { on := 4, ground := Ground.textOnly Departure.lateStores }, { on := 5, ground := Ground.textOnly Departure.lateStoresUnsure }, { on := 6, ground := Ground.phase }, { on := 7, ground := Ground.phase }], guard := none }) rfl (fun K hK => ?_) ?_
            · clear hHeld
              obtain ⟨w8, e1, hs⟩ := S4.out.s9 a
              go_simp
              replace S4 := Lib.hid hs
              clear hs e1
              refine hK.out _ _ ?_ (fun hHeld => ?_)
              · exact S4.out.ld
              clear hK K
              try simp only [Act.put, List.setIfInBounds_toArray, List.set_cons_zero, List.set_cons_succ]
              refine wpAnyH_ready (rs := [9]) (by kernel_rfl) (by simp) ?_
              refine AllReadyH.cons (o := { dst := none, op := Op.store 24 (Operand.tmp 10) (Operand.tmp 38), type := 0, pos := "law.go:89", after := #[{ on := 7, ground := Ground.data }, { on := 5, ground := Ground.data }, { on := 8, ground := Ground.chain }, { on := 0, ground := Ground.phase }, { on := 1, ground := Ground.phase }, { on := 2, ground := Ground.phase }, { on := 3, ground := Ground.phase }, { on := 4, ground := Ground.phase }, { on := 5, ground := Ground.phase }, { on := 6, ground := Ground.phase }, { on := 7, ground := Ground.phase }, { on := 8, ground := Ground.phase }], guard := none }) rfl (fun K hK => ?_) ?_
              · clear hHeld
                obtain ⟨w7, e1, hs⟩ := S4.out.s10 b
                go_simp
                replace S4 := Lib.hid hs
                clear hs e1
                refine hK.out _ _ ?_ (fun hHeld => ?_)
                · exact S4.out.ld
                clear hK K
                try simp only [Act.put, List.setIfInBounds_toArray, List.set_cons_zero, List.set_cons_succ]
                refine wpAnyH_done (by kernel_rfl) ?_ _
                go_wp2_with fail
                go_meet
                exact ⟨g9, g10, rfl, rfl, S4⟩
              exact AllReadyH.nil
            exact AllReadyH.nil
          exact AllReadyH.nil
        exact AllReadyH.nil
      refine AllReadyH.cons (o := { dst := some 9, op := Op.alloc 24, type := 0, pos := "law.go:89", after := #[], guard := none }) rfl (fun K hK => ?_) ?_
      · clear hHeld
        obtain ⟨g9, w9, e1, e2, hs⟩ := S4.out.a9
        go_simp
        try simp only [e1, e2]
        replace S4 := Lib.hid hs
        clear hs e1 e2
        refine hK.out _ _ ?_ (fun hHeld => ?_)
        · exact S4.out.ld
        clear hK K
        try simp only [Act.put, List.setIfInBounds_toArray, List.set_cons_zero, List.set_cons_succ]
        refine wpAnyH_ready (rs := [2]) (by kernel_rfl) (by simp) ?_
        refine AllReadyH.cons (o := { dst := some 35, op := Op.call { callee := Callee.value (Operand.func 14), args := #[Operand.tmp 33, Operand.tmp 34], argTypes := #[24, 3] }, type := 24, pos := "law.go:89", after := #[{ on := 0, ground := Ground.data }, { on := 1, ground := Ground.data }], guard := none }) rfl (fun K hK => ?_) ?_
        · clear hHeld
          go_simp
          go_at_call 14
          refine (CN.out _).mono ?_
          rintro e w5 ⟨rfl, h⟩
          replace S4 := Lib.hid (S4.out.keep h)
          clear h
          refine hK.out _ _ ?_ (fun hHeld => ?_)
          · exact S4.out.ld
          clear hK K
          try simp only [Act.put, List.setIfInBounds_toArray, List.set_cons_zero, List.set_cons_succ]
          refine wpAnyH_ready (rs := [5]) (by kernel_rfl) (by simp) ?_
          refine AllReadyH.cons (o := { dst := some 38, op := Op.call { callee := Callee.value (Operand.func 18), args := #[Operand.tmp 36, Operand.tmp 37], argTypes := #[24, 3] }, type := 24, pos := "law.go:89", after := #[{ on := 3, ground := Ground.data }, { on := 4, ground := Ground.data }, { on := 2, ground := Ground.chain }], guard := none }) rfl (fun K hK => ?_) ?_
          · clear hHeld
            go_simp
            go_at_call 18
            refine (CM.out _).mono ?_
            rintro e w5 ⟨rfl, h⟩
            replace S4 := Lib.hid (S4.out.keep h)
            clear h
            refine hK.out _ _ ?_ (fun hHeld => ?_)
            · exact S4.out.ld
            clear hK K
            try simp only [Act.put, List.setIfInBounds_toArray, List.set_cons_zero, List.set_cons_succ]
            refine wpAnyH_ready (rs := [8]) (by kernel_rfl) (by simp) ?_
            refine AllReadyH.cons (o := { dst := none, op := Op.store 24 (Operand.tmp 9) (Operand.tmp 35), type := 0, pos := "law.go:89", after := #[{ on := 6, ground := Ground.data }, { on := 2, ground := Ground.data }, { on := 5, ground := Ground.chain }, { on := 0, ground := Ground.phase }, { on := 1, ground := Ground.phase }, { on := 2, ground := Ground.phase }, { on := 3, ground := Ground.textOnly Departure.lateStores }, { on := 4, ground := Ground.textOnly Departure.lateStores }, { on := 5, ground := Ground.textOnly Departure.lateStoresUnsure }, { on := 6, ground := Ground.phase }, { on := 7, ground := Ground.phase }], guard := none }) rfl (fun K hK => ?_) ?_
            · clear hHeld
              obtain ⟨w8, e1, hs⟩ := S4.out.s9 a
              go_simp
              replace S4 := Lib.hid hs
              clear hs e1
              refine hK.out _ _ ?_ (fun hHeld => ?_)
              · exact S4.out.ld
              clear hK K
              try simp only [Act.put, List.setIfInBounds_toArray, List.set_cons_zero, List.set_cons_succ]
              refine wpAnyH_ready (rs := [9]) (by kernel_rfl) (by simp) ?_
              refine AllReadyH.cons (o := { dst := none, op := Op.store 24 (Operand.tmp 10) (Operand.tmp 38), type := 0, pos := "law.go:89", after := #[{ on := 7, ground := Ground.data }, { on := 5, ground := Ground.data }, { on := 8, ground := Ground.chain }, { on := 0, ground := Ground.phase }, { on := 1, ground := Ground.phase }, { on := 2, ground := Ground.phase }, { on := 3, ground := Ground.phase }, { on := 4, ground := Ground.phase }, { on := 5, ground := Ground.phase }, { on := 6, ground := Ground.phase }, { on := 7, ground := Ground.phase }, { on := 8, ground := Ground.phase }], guard := none }) rfl (fun K hK => ?_) ?_
              · clear hHeld
                obtain ⟨w7, e1, hs⟩ := S4.out.s10 b
                go_simp
                replace S4 := Lib.hid hs
                clear hs e1
                refine hK.out _ _ ?_ (fun hHeld => ?_)
                · exact S4.out.ld
                clear hK K
                try simp only [Act.put, List.setIfInBounds_toArray, List.set_cons_zero, List.set_cons_succ]
                refine wpAnyH_done (by kernel_rfl) ?_ _
                go_wp2_with fail
                go_meet
                exact ⟨g9, g10, rfl, rfl, S4⟩
              exact AllReadyH.nil
            exact AllReadyH.nil
          exact AllReadyH.nil
        exact AllReadyH.nil
      exact AllReadyH.nil
    exact AllReadyH.nil
  case rest =>
    obtain ⟨g9, g10, rfl, rfl, S5⟩ := hcut
    clear S4 CN CM
    have q0 : ∀ (q : Of (K2 W x a b (some g9) (some g10))) (j : Nat), q.w.cell? ⟨W.heap.size, j, none⟩ = (Sw_.C x)[j]? := fun q j => q.ok.bx.all j
    have q1 : ∀ (q : Of (K2 W x a b (some g9) (some g10))), (Sw_.LoadF ⟨g9, 0, none⟩).run Try.prog q.w = .ok (Sw_.v a) q.w := fun q => q.ok.o9.2.loadF
    have q2 : ∀ (q : Of (K2 W x a b (some g9) (some g10))), (Sw_.LoadF ⟨g10, 0, none⟩).run Try.prog q.w = .ok (Sw_.v b) q.w := fun q => q.ok.o10.2.loadF
    have _ne : Nonempty (Of (K2 W x a b (some g9) (some g10))) := ⟨⟨_, S5.out⟩⟩
    go_wp2_with fail
    by_cases hd : D < 2048
    case' pos => rw [decide_eq_true hd] at CHA
    case' neg => rw [decide_eq_false hd] at CHA
    all_goals
      refine wp_region_of (K2 W x a b (some g9) (some g10)) (by kernel_rfl) (Region.lexB_of_fast (by kernel_rfl)) (S5.out.keep ⟨rfl, rfl, rfl, Nat.le_refl _, fun _ _ => rfl⟩) ?_
      repeat (go_big_quiet_step (first
        | (go_at_call 10; exact Calls.of_below K2.kp (CK.out _ _ (by first | exact OKA.out | exact OKB.out)))
        | (go_at_call 16; exact Calls.of_below K2.kp (CHA.out _))
        | (go_at_call 21; exact Calls.of_same (CD.out _))))
      refine wpQuiet_nil ?_
      rintro _ ⟨q, rfl⟩
      have S6 := Lib.hid q.ok
      generalize q.w = w6 at *
      clear q0 q1 q2 S5 _ne
      have l6 := S6.out.o10.2.loadF
      go_wp2_with fail
      refine (CHB.out _).mono ?_
      rintro e w7 ⟨rfl, h⟩
      have S7 := Lib.hid (S6.out.keep h)
      have l7 := S7.out.ld
      clear h l6 S6
      cases HB
      · go_wp2_with (go_at_call 12; refine (CL.out _).mono ?_; rintro e w8 ⟨rfl, h⟩; have B8 := Lib.hid (S7.out.bel.trans (h.mono S7.out.bel.size)); clear h)
        go_returns
        exact ⟨rfl, B8.out⟩
      · obtain rfl := HIM.out rfl
        go_wp2_with (first
          | (go_at_call 16; refine (CHX.out _).mono ?_; rintro e w8 ⟨rfl, h⟩; have S8 := Lib.hid (S7.out.keep h); clear h)
          | (go_at_call 12; refine (CL.out _).mono ?_; rintro e w9 ⟨rfl, h⟩; have B9 := Lib.hid (S8.out.bel.trans (h.mono S8.out.bel.size)); clear h))
        go_returns
        exact ⟨rfl, B9.out⟩

set_option maxRecDepth 100000 in
set_option maxHeartbeats 4000000 in
theorem keeps_no (st sz : Int) (m : Nat) (hm : m < 18446744073709551616) (hk : ¬ ck st sz m = 0) (u v : Int) (W : World) :
    Calls Try.prog 7 #[Sw_.v ⟨st, sz, m⟩, .int .u16 u, .int .u16 v] W fun e w' => e = .returned (.bool true) ∧ Below W.heap.size W w' := by
  obtain ⟨x, hx⟩ : ∃ x : Sc, ⟨st, sz, m⟩ = x := ⟨_, rfl⟩
  have CKx : Hid (∀ W, Calls Try.prog 10 #[Sw_.v x] W fun e w' => e = .returned (.int .i64 (ck st sz m)) ∧ Below W.heap.size W w') := fun W => by rw [← hx]; exact sc_check_any st sz m W hm
  have CRx : Hid (∀ W, Calls Try.prog 11 #[Sw_.v x] W fun e w' => e = .returned (.int .i64 (ck st sz m)) ∧ Below W.heap.size W w') := fun W => by rw [← hx]; exact r21_check_any st sz m W hm
  have CL := Lib.hid awake21_any
  rw [hx]
  obtain ⟨w1, hw1⟩ : ∃ w1, W.alloc (.cells (Sw_.C x) 24) = w1 := ⟨_, rfl⟩
  have S1 : Hid (Sst W W.heap.size x w1) := ⟨hw1 ▸ Sw_.Box.new W x, hw1 ▸ (Below.refl _ _).alloc (Nat.le_refl _) _⟩
  have l1 := S1.out.bx.loadF
  generalize ck st sz m = K at *
  have hk' : (K != 0) = true := by simpa using hk
  have hkk : (K == K) = true := by simp
  clear hx hm hk
  have q1 : ∀ (q : Of (Sst W W.heap.size x)), (Sw_.LoadF ⟨W.heap.size, 0, none⟩).run Try.prog q.w = .ok (Sw_.v x) q.w := fun q => q.ok.bx.loadF
  have _ne : Nonempty (Of (Sst W W.heap.size x)) := ⟨⟨_, S1.out⟩⟩
  go_enter Try.func7, Try.ntmps7
  go_wp2_with (first
    | (go_at_call 10; refine (CKx.out _).mono ?_; rintro e w2 ⟨rfl, h⟩; have S2 := Lib.hid (Sst.keep _ _ S1.out h); clear h))
  refine wp_region_of (Sst W W.heap.size x) (by kernel_rfl) (Region.lexB_of_fast (by kernel_rfl)) S2.out.drew ?_
  repeat (go_big_quiet_step (first
    | (go_at_call 10; exact Calls.of_below Sst.keep (CKx.out _))
    | (go_at_call 11; exact Calls.of_below Sst.keep (CRx.out _))
    | (go_at_call 12; exact Calls.of_below Sst.keep (CL.out _))))
  refine wpQuiet_nil ?_
  rintro _ ⟨q, rfl⟩
  have HB2 := Lib.hid q.ok.bel
  generalize q.w = w9 at *
  clear q1
  go_wp2
  go_returns
  exact ⟨rfl, HB2.out⟩

theorem scoreKeeps_walk0 {W : World} (x : Sc) (hx : (Lit.int .i64 x.st).wf = true ∧ (Lit.int .i64 x.sz).wf = true ∧ (Lit.int .u64 x.mp).wf = true) (u : Int) (hu : (Lit.int .u16 u).wf = true) (v : Int) (hv : (Lit.int .u16 v).wf = true) :
    Calls Try.prog 7 #[Sw_.v x, .int .u16 u, .int .u16 v] W fun e w' => e = .returned (.bool true) ∧ Below W.heap.size W w' := by
  obtain ⟨st, sz, mp⟩ := x
  obtain ⟨m, hm, h⟩ := nat_mp hx.2.2
  obtain rfl : mp = (m : Int) := hm
  obtain ⟨n, hn, hn2, -⟩ := nat_u16 hu
  obtain ⟨k, hk, hk2, -⟩ := nat_u16 hv
  by_cases hc : ck st sz m = 0
  · exact keeps_ok st sz m h (ck_gd.1 hc) u v n k hn hn2 hk hk2 W
  · exact keeps_no st sz m h hc u v W
end Go.Proofs.Ytjighkagmnoncaa
