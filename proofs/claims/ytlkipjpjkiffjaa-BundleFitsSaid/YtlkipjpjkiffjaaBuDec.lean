/-
  WALKS of package bundle: Decode; what is read in steps is what the math decodes.
-/
import Derived.Test.YtlkipjpjkiffjaaBuRd
import Derived.Lib.AppendStr
namespace Go.Proofs.Ytlkipjpjkiffjaa
open Go.RowKit Go.Bu Go.Wr Go.Ad Pk_

/-! The steps. -/
theorem rF_bad {x : Int} {σ : Sg} (h : ¬ σ.1 = 0) : rF x σ = σ := by unfold rF; rw [if_neg h]
theorem rF_ok (x : Int) (l : List UInt8) : rF x (0, l) = (x, l) := if_pos rfl
theorem rA_bad16 {σ : Sg} (h : ¬ σ.1 = 0) : rA σ = (0, σ) := by unfold rA; rw [if_neg h]
theorem rA_ok16 {l : List UInt8} (h : 6 ≤ l.length) : rA (0, l) = ((bev (l.take 6) : Int), (0, l.drop 6)) := by unfold rA; rw [if_pos rfl, if_pos h]
theorem rN_bad16 {k : Nat} {σ : Sg} (h : ¬ σ.1 = 0) : rN k σ = (0, σ) := by unfold rN; rw [if_neg h]
theorem rN_ok16 {k : Nat} {l : List UInt8} (h : k ≤ l.length) : rN k (0, l) = ((val (l.take k) : Int), (0, l.drop k)) := by unfold rN; rw [if_pos rfl, if_pos h]
theorem rT_bad16 {n : Nat} {σ : Sg} (h : ¬ σ.1 = 0) : rT n σ = (⟨#[]⟩, σ) := by unfold rT; rw [if_neg h]
theorem rT_ok16 {n : Nat} {l : List UInt8} (h : n ≤ l.length) : rT n (0, l) = (bz (l.take n), (0, l.drop n)) := by unfold rT; rw [if_pos rfl, if_pos h]
theorem rT_short16 {n : Nat} {l : List UInt8} (h : ¬ n ≤ l.length) : rT n (0, l) = (⟨#[]⟩, (1, l)) := by unfold rT; rw [if_pos rfl, if_neg h]
theorem lf_ok (l : List UInt8) : lf (0, l) = l.length := if_pos rfl
theorem lf_bad {σ : Sg} (h : ¬ σ.1 = 0) : lf σ = 0 := if_neg h

/-- Behind an error nothing is read. -/
theorem rP_from0 {σ τ : Sg} (h : ¬ τ.1 = 0) (e : g0 σ = τ) : (rP σ).2 = τ := by
  have a1 : g1 σ = (0, τ) := by unfold g1; rw [e, rA_bad16 h]
  have a2 : g2 σ = (0, τ) := by unfold g2; rw [a1]; exact rA_bad16 h
  have a3 : g3 σ = τ := by unfold g3; rw [a2]; exact rF_bad h
  have a4 : g4 σ = (0, τ) := by unfold g4; rw [a3, rN_bad16 h]
  have a5 : g5 σ = τ := by unfold g5; rw [a4]; exact if_neg (by show ¬ (1024 : Int) < 0; decide)
  show (g6 σ).2 = τ
  unfold g6; rw [a5, rT_bad16 h]
theorem rP_bad {σ : Sg} (h : ¬ σ.1 = 0) : (rP σ).2 = σ :=
  rP_from0 h (by unfold g0; rw [lf_bad h, if_pos (by decide), rF_bad h])
theorem chk_hd (o : List UInt8) : chk (hd o) = if pok (hd o) = true then 0 else 4 := rfl
theorem rP_long {o : List UInt8} (h : 14 ≤ o.length) : g1 (0, o) = ((hTo o : Int), (0, o.drop 6)) ∧ g2 (0, o) = ((hFr o : Int), (0, o.drop 12)) ∧ gh (0, o) = hd o := by
  have a0 : g0 (0, o) = (0, o) := by unfold g0; rw [lf_ok, if_neg (by omega)]
  have a1 : g1 (0, o) = ((hTo o : Int), (0, o.drop 6)) := by unfold g1; rw [a0, rA_ok16 (by omega)]; rfl
  have a2 : g2 (0, o) = ((hFr o : Int), (0, o.drop 12)) := by
    unfold g2; rw [a1]
    show rA (0, o.drop 6) = _
    rw [rA_ok16 (by rw [List.length_drop]; omega), List.drop_drop]; rfl
  exact ⟨a1, a2, by unfold gh; rw [a1, a2]; rfl⟩
theorem rP_err {o : List UInt8} (h : ¬ e1 o = 0) : (rP (0, o)).2.1 = e1 o := by
  by_cases h14 : o.length < 14
  · have e : e1 o = 1 := if_pos h14
    rw [rP_from0 (τ := (1, o)) (by show ¬ (1 : Int) = 0; decide) (by unfold g0; rw [lf_ok, if_pos h14, rF_ok]), e]
  obtain ⟨a1, a2, ah⟩ := rP_long (o := o) (by omega)
  by_cases hp : pok (hd o) = true
  case neg =>
    have e : e1 o = 4 := by unfold e1; rw [if_neg h14, if_neg hp]
    have hc : chk (hd o) = 4 := by rw [chk_hd, if_neg hp]
    have hτ : ¬ ((4 : Int), o.drop 12).1 = 0 := by show ¬ (4 : Int) = 0; decide
    have a3 : g3 (0, o) = (4, o.drop 12) := by unfold g3; rw [ah, hc, a2]; exact rF_ok _ _
    have a4 : g4 (0, o) = (0, (4, o.drop 12)) := by unfold g4; rw [a3, rN_bad16 hτ]
    have a5 : g5 (0, o) = (4, o.drop 12) := by unfold g5; rw [a4]; exact if_neg (by show ¬ (1024 : Int) < 0; decide)
    show (g6 (0, o)).2.1 = _
    unfold g6; rw [a5, rT_bad16 hτ, e]
  have hc : chk (hd o) = 0 := by rw [chk_hd, if_pos hp]
  have a3 : g3 (0, o) = (0, o.drop 12) := by unfold g3; rw [ah, hc, a2]; exact rF_ok _ _
  have a4 : g4 (0, o) = ((hN o : Int), (0, o.drop 14)) := by
    unfold g4; rw [a3, rN_ok16 (by rw [List.length_drop]; omega), List.drop_drop]; rfl
  by_cases hn : 1024 < hN o
  · have e : e1 o = 2 := by unfold e1; rw [if_neg h14, if_pos hp, if_pos hn]
    have hτ : ¬ ((2 : Int), o.drop 14).1 = 0 := by show ¬ (2 : Int) = 0; decide
    have a5 : g5 (0, o) = (2, o.drop 14) := by unfold g5; rw [a4]; exact (if_pos (by show (1024 : Int) < (hN o : Int); omega)).trans (rF_ok _ _)
    show (g6 (0, o)).2.1 = _
    unfold g6; rw [a5, rT_bad16 hτ, e]
  have a5 : g5 (0, o) = (0, o.drop 14) := by unfold g5; rw [a4]; exact if_neg (by show ¬ (1024 : Int) < (hN o : Int); omega)
  have hs : o.length < 14 + hN o := by
    refine Nat.lt_of_not_le fun hle => h ?_
    exact e1_ok.2 ⟨by omega, hp, by omega, hle⟩
  have e : e1 o = 1 := by unfold e1; rw [if_neg h14, if_pos hp, if_neg hn, if_pos hs]
  show (g6 (0, o)).2.1 = _
  unfold g6; rw [a5, a4]
  show (rT ((hN o : Int)).toNat (0, o.drop 14)).2.1 = _
  rw [Int.toNat_natCast, rT_short16 (by rw [List.length_drop]; omega), e]
theorem rP_ok {o : List UInt8} (h : e1 o = 0) : rP (0, o) = (pk o, (0, o.drop (14 + hN o))) := by
  obtain ⟨h1, hp, h3, h4⟩ := e1_ok.1 h
  obtain ⟨a1, a2, ah⟩ := rP_long h1
  have hc : chk (hd o) = 0 := by rw [chk_hd, if_pos hp]
  have a3 : g3 (0, o) = (0, o.drop 12) := by unfold g3; rw [ah, hc, a2]; exact rF_ok _ _
  have a4 : g4 (0, o) = ((hN o : Int), (0, o.drop 14)) := by
    unfold g4; rw [a3, rN_ok16 (by rw [List.length_drop]; omega), List.drop_drop]; rfl
  have a5 : g5 (0, o) = (0, o.drop 14) := by unfold g5; rw [a4]; exact if_neg (by show ¬ (1024 : Int) < (hN o : Int); omega)
  have a6 : g6 (0, o) = (bz ((o.drop 14).take (hN o)), (0, o.drop (14 + hN o))) := by
    unfold g6; rw [a5, a4]
    show rT ((hN o : Int)).toNat (0, o.drop 14) = _
    rw [Int.toNat_natCast, rT_ok16 (by rw [List.length_drop]; omega), List.drop_drop]
  unfold rP
  rw [a6, ah]; rfl
theorem rG_short {n : Nat} {u : List UInt8} (h : u.length ≤ n) : (rG n (0, u)) = (1, u) := by
  have hτ : ¬ ((1 : Int), u).1 = 0 := by show ¬ (1 : Int) = 0; decide
  have a0 : k0 n (0, u) = (1, u) := by unfold k0; rw [lf_ok, if_pos h, rF_ok]
  have a1 : k1 n (0, u) = (⟨#[]⟩, (1, u)) := by unfold k1; rw [a0, rT_bad16 hτ]
  unfold rG; rw [a1, rF_bad hτ]; split <;> rfl
theorem rG_long {n : Nat} {u : List UInt8} (h : ¬ u.length ≤ n) : rG n (0, u) = if u.take n = zs n then (0, u.drop n) else (3, u.drop n) := by
  have a0 : k0 n (0, u) = (0, u) := by unfold k0; rw [lf_ok, if_neg h]
  have a1 : k1 n (0, u) = (bz (u.take n), (0, u.drop n)) := by unfold k1; rw [a0, rT_ok16 (by omega)]
  unfold rG; rw [a1]
  by_cases hz : u.take n = zs n
  · rw [if_pos hz, hz]; exact if_pos rfl
  · rw [if_neg hz]
    refine (if_neg fun e => hz ?_).trans (rF_ok _ _)
    have := congrArg (fun b : ByteArray => b.data.toList) e
    simpa [bz] using this

/-- What has been read of s: these packets, this state of the Reader. -/
def Inv (s : ByteArray) (L : List Pk) (σ : Sg) : Prop :=
  L.length + lf σ ≤ s.size + 1 ∧ ((¬ σ.1 = 0 ∧ dec s = ([], σ.1)) ∨ (σ.1 = 0 ∧ ∃ f m, σ.2.length < f ∧ σ.2.length ≤ s.size ∧ (s.size - σ.2.length) % 4 = m % 4 ∧ dec s = fin L (dG (dF f) m σ.2)))
theorem inv_start {s : ByteArray} (h : ¬ 2048 < s.size) : Inv s [(rP (0, s.data.toList)).1] (rP (0, s.data.toList)).2 := by
  have hd : dec s = dF (s.size + 1) s.data.toList := if_neg h
  have hl := ba_len s
  generalize s.data.toList = o at *
  by_cases h0 : e1 o = 0
  · obtain ⟨h1, hp, h3, h4⟩ := e1_ok.1 h0
    rw [rP_ok h0]
    refine ⟨?_, .inr ⟨rfl, s.size, 14 + hN o, ?_, ?_, ?_, ?_⟩⟩
    · rw [lf_ok, List.length_drop]; simp; omega
    · rw [List.length_drop]; omega
    · rw [List.length_drop]; omega
    · rw [List.length_drop]; omega
    · rw [hd, dF, if_pos h0]
  · have e := rP_err h0
    refine ⟨?_, .inl ⟨by rw [e]; exact h0, ?_⟩⟩
    · rw [lf_bad (by rw [e]; exact h0)]; simp
    · rw [hd, dF, if_neg h0, e]
theorem inv_step {s : ByteArray} {L : List Pk} {σ : Sg} (h : Inv s L σ) (hp : 0 < lf σ) :
    Inv s (L ++ [(rP (rG (pad (s.size - lf σ)) σ)).1]) (rP (rG (pad (s.size - lf σ)) σ)).2 ∧ lf (rP (rG (pad (s.size - lf σ)) σ)).2 < lf σ := by
  obtain ⟨hL, hI⟩ := h
  obtain ⟨e0, u⟩ := σ
  rcases hI with ⟨h0, -⟩ | ⟨h0, f, m, hf, hle, hm, hd⟩
  · rw [lf_bad h0] at hp; exact absurd hp (Nat.lt_irrefl _)
  obtain rfl : e0 = 0 := h0
  rw [lf_ok] at hp hL ⊢
  simp only at hf hle hm hd
  rw [pad_mod hm]
  generalize hn : pad m = n at *
  have bad : ∀ τ : Sg, ¬ τ.1 = 0 → dec s = ([], τ.1) → rG n (0, u) = τ → Inv s (L ++ [(rP (rG n (0, u))).1]) (rP (rG n (0, u))).2 ∧ lf (rP (rG n (0, u))).2 < u.length := by
    intro τ h1 h2 h3
    rw [h3, rP_bad h1]
    refine ⟨⟨?_, .inl ⟨h1, h2⟩⟩, ?_⟩
    · rw [lf_bad h1, List.length_append]; simp; omega
    · rw [lf_bad h1]; exact hp
  by_cases hs : u.length ≤ n
  · refine bad (1, u) (by show ¬ (1 : Int) = 0; decide) ?_ (rG_short hs)
    rw [hd, dG_short (by omega) (by rw [hn]; exact hs)]; exact fin_err _ (by decide) _
  by_cases hz : u.take n = zs n
  case neg =>
    refine bad (3, u.drop n) (by show ¬ (3 : Int) = 0; decide) ?_ (by rw [rG_long hs, if_neg hz])
    rw [hd, dG_form (by rw [hn]; exact hs) (by rw [hn]; exact hz)]; exact fin_err _ (by decide) _
  have hg : rG n (0, u) = (0, u.drop n) := by rw [rG_long hs, if_pos hz]
  rw [dG_ok (by rw [hn]; exact hs) (by rw [hn]; exact hz), hn] at hd
  rw [hg]
  obtain ⟨f, rfl⟩ : ∃ g, f = g + 1 := ⟨f - 1, by omega⟩
  have hlo : (u.drop n).length = u.length - n := List.length_drop
  generalize u.drop n = o at *
  by_cases h0 : e1 o = 0
  · obtain ⟨h1, hpk, h3, h4⟩ := e1_ok.1 h0
    rw [rP_ok h0]
    have hlu : (o.drop (14 + hN o)).length = o.length - (14 + hN o) := List.length_drop
    rw [lf_ok, hlu]
    refine ⟨⟨?_, .inr ⟨rfl, f, 14 + hN o, ?_, ?_, ?_, ?_⟩⟩, by omega⟩
    · rw [lf_ok, hlu, List.length_append]; simp; omega
    · rw [hlu]; omega
    · rw [hlu]; omega
    · rw [hlu]
      have hq := pad_sum m
      rw [hn] at hq
      omega
    · rw [hd, dF, if_pos h0, fin_fin]
  · have e := rP_err h0
    have hb : ¬ (rP (0, o)).2.1 = 0 := by rw [e]; exact h0
    refine ⟨⟨?_, .inl ⟨hb, ?_⟩⟩, ?_⟩
    · rw [lf_bad hb, List.length_append]; simp; omega
    · rw [hd, dF, if_neg h0, e]; exact fin_err _ h0 _
    · rw [lf_bad hb]; exact hp
theorem inv_end {s : ByteArray} {L : List Pk} {σ : Sg} (h : Inv s L σ) (hp : ¬ 0 < lf σ) : dec s = if σ.1 = 0 then (L, 0) else ([], σ.1) := by
  obtain ⟨hL, hI⟩ := h
  obtain ⟨e0, u⟩ := σ
  rcases hI with ⟨h0, h⟩ | ⟨h0, f, m, hf, hle, hm, hd⟩
  · rw [if_neg h0, h]
  · obtain rfl : e0 = 0 := h0
    rw [lf_ok] at hp
    simp only at hd
    obtain rfl : u = [] := List.length_eq_zero_iff.1 (by omega)
    rw [hd, dG_end, fin_ok]
    exact ((if_pos rfl).trans (by rw [List.append_nil])).symm

/-- What Decode hands back. -/
def DecPost (s : ByteArray) (w : World) (e : Ending) (w' : World) : Prop :=
  ∃ v0 c, e = .returned (.tuple #[.slice v0 (dec s).1.length c, .int .i64 (dec s).2]) ∧ Sl w' v0 (dec s).1 c ∧ Below w.heap.size w w'
theorem decPost_err {s : ByteArray} {w w' : World} {e : Ending} {r : Int} (h : dec s = ([], r)) (he : e = .returned (.tuple #[.slice none 0 0, .int .i64 r])) (hb : Below w.heap.size w w') : DecPost s w e w' :=
  ⟨none, 0, by rw [h, he]; rfl, by rw [h]; exact Sl.none _, hb⟩
theorem decPost_ok {s : ByteArray} {w w' : World} {e : Ending} {L : List Pk} {v0 : Option Addr} {c : Nat} (h : dec s = (L, 0)) (he : e = .returned (.tuple #[.slice v0 L.length c, .int .i64 0])) (ha : Sl w' v0 L c) (hb : Below w.heap.size w w') : DecPost s w e w' :=
  ⟨v0, c, by rw [h, he], by rw [h]; exact ha, hb⟩
theorem owns_but {base n size rb : Nat} {e : TypeId} {v : Value} {wr w1 : World} {xs : List Value} (h : wr.ownsRow base e size v n xs) (hb : But rb wr w1) (hlt : rb < base) : w1.ownsRow base e size v n xs := by
  obtain ⟨h0, h1 | ⟨g, cap, cur, h1, h2, hh, h3⟩⟩ := h
  · exact ⟨h0, .inl h1⟩
  · exact ⟨h0, .inr ⟨g, cap, cur, h1, h2, (hb.block g (Array.getElem?_eq_some_iff.1 hh).1 (by omega)).trans hh, h3⟩⟩
/-- The octets that the Reader at b has left, or none behind an error. -/
def mz (b : Nat) (w : World) : Nat :=
  match w.cell? ⟨b, 0, none⟩, w.cell? ⟨b, 1, none⟩ with
  | some (.int _ 0), some (.string u) => u.size
  | _, _ => 0
theorem mz_rs {w : World} {b : Nat} {σ : Sg} (h : Rs w b σ) : mz b w = lf σ := by
  obtain ⟨e0, l⟩ := σ
  unfold mz
  rw [Rd.c0 h, Rd.c1 h]
  by_cases he : e0 = 0
  · subst he; rw [lf_ok]; exact bz_size l
  · rw [lf_bad (by exact he)]
    simp only
    split
    · rename_i h1 _; injection h1 with h1; injection h1 with _ h1; exact absurd h1 he
    · rfl

set_option maxRecDepth 100000 in
set_option maxHeartbeats 4000000 in
theorem buDecode_any (s : ByteArray) (w : World) (hs : s.size ≤ 140737488351232) :
    Calls Try.prog 14 #[.string s] w fun e w' => DecPost s w e w' := by
  by_cases h2 : 2048 < s.size
  · have HD : Hid (dec s = ([], 2)) := if_pos h2
    have h2' : (2048 : Int) < (s.size : Int) := by omega
    clear h2
    go_enter Try.func14, Try.ntmps14
    go_wp2
    go_returns
    exact decPost_err HD.out rfl (Below.refl _ _)
  have h2' : ¬ (2048 : Int) < (s.size : Int) := by omega
  have HI0 := Lib.hid (inv_start h2)
  have HI := Lib.hid (info_parts info)
  have CNw := Lib.hid (new_any s w)
  have RN := Lib.hid (rs_new w s)
  have CP0 : Hid (∀ wi, Rs wi w.heap.size (0, s.data.toList) → Calls Try.prog 27 #[.pointer (some ⟨w.heap.size, 0, none⟩)] wi fun e w' => e = .returned (.agg #[.int .u64 (rP (0, s.data.toList)).1.to, .int .u64 (rP (0, s.data.toList)).1.fr, .string (rP (0, s.data.toList)).1.s]) ∧ Rs w' w.heap.size (rP (0, s.data.toList)).2 ∧ But w.heap.size wi w') := fun wi h => buReadP_any _ _ wi h
  generalize (rP (0, s.data.toList)).1 = p0 at *
  generalize (rP (0, s.data.toList)).2 = σ0 at *
  generalize (0, s.data.toList) = σs at *
  go_enter Try.func14, Try.ntmps14
  go_wp2_with (first
    | (go_at_call 26; refine CNw.out.mono ?_; rintro e w1 ⟨rfl, rfl⟩)
    | (go_at_call 27; refine (CP0.out _ RN.out).mono ?_; rintro e w2 ⟨rfl, h3, h4⟩; have R2 := Lib.hid h3; have B2 := Lib.hid h4; clear h3 h4))
  have S2 : w.heap.size + 1 ≤ w2.heap.size := by have := B2.out.size; simpa using this
  have HS2 := Lib.hid S2
  have BW : Hid (Below w.heap.size w w2) := ((Below.refl w.heap.size w).alloc (Nat.le_refl _) _).trans (B2.out.below (by simp) (Nat.le_refl _))
  have R3 : Hid (Rs (w2.alloc (.cells #[.int .u64 p0.to, .int .u64 p0.fr, .string p0.s] 30)) w.heap.size σ0) := R2.out.blk (Below.heap_alloc _ _ _ R2.out.lt)
  have O3 : Hid ((w2.alloc (.cells #[.int .u64 p0.to, .int .u64 p0.fr, .string p0.s] 30)).ownsRow (w.heap.size + 1) 30 3 (.slice (some ⟨w2.heap.size, 0, none⟩) 1 1) 1 (Pk_.flat [p0])) := owns_lit w2 [p0] HS2.out (by unfold maxLen; simp)
  clear S2
  go_loopw [5] (fun v wr => ∃ (L : List Pk) (σ : Sg), Inv s L σ ∧ wr.ownsRow (w.heap.size + 1) 30 3 v L.length (Pk_.flat L) ∧ Rs wr w.heap.size σ ∧ Below w.heap.size w wr) (fun _ wr => mz w.heap.size wr)
  case atStart => exact ⟨[p0], σ0, HI0.out, O3.out, R3.out, BW.out.alloc BW.out.size _⟩
  case round =>
    rename_i wr
    obtain ⟨L, σ, hinv, hown, hrs, hb⟩ := hrel
    clear HI0 O3 R3 BW HS2 B2 R2 CNw RN CP0
    have HV := Lib.hid hinv
    have HB := Lib.hid hb
    have HR := Lib.hid hrs
    have CL := Lib.hid (left_any _ σ wr hrs)
    have CE := Lib.hid (err_tot _ σ wr hrs)
    obtain ⟨v0, c, rfl⟩ := slice_form hown
    have hmz := mz_rs hrs
    have HM := Lib.hid hmz
    by_cases hp : 0 < lf σ
    · have HT := Lib.hid (inv_step hinv hp)
      have hLs : lf σ ≤ s.size ∧ L.length ≤ s.size := by
        obtain ⟨q, -⟩ := hinv
        have hle : lf σ ≤ s.size := by
          obtain ⟨_, hI⟩ := HV.out
          rcases hI with ⟨h0, -⟩ | ⟨h0, f, m, _, h, _⟩
          · rw [lf_bad h0]; exact Nat.zero_le _
          · unfold lf; rw [if_pos h0]; exact h
        exact ⟨hle, by omega⟩
      obtain ⟨hl1, hl2⟩ := hLs
      have CG : Hid (∀ w, Calls Try.prog 23 #[.int .i64 ((s.size : Int) - (lf σ : Int))] w fun e w' => e = .returned (.int .i64 (pad (s.size - lf σ) : Nat)) ∧ w = w') := fun w => by
        have c := buGap_any (s.size - lf σ) w
        rwa [show ((s.size - lf σ : Nat) : Int) = (s.size : Int) - (lf σ : Int) by omega] at c
      have CRG : Hid (Calls Try.prog 29 #[.pointer (some ⟨w.heap.size, 0, none⟩), .int .i64 (pad (s.size - lf σ) : Nat)] wr fun e w' => e = .returned (.tuple #[]) ∧ Rs w' w.heap.size (rG (pad (s.size - lf σ)) σ) ∧ But w.heap.size wr w') := buReadG_any _ _ σ wr hrs (pad_lt _)
      have CRP : Hid (∀ wi, Rs wi w.heap.size (rG (pad (s.size - lf σ)) σ) → Calls Try.prog 27 #[.pointer (some ⟨w.heap.size, 0, none⟩)] wi fun e w' => e = .returned (.agg #[.int .u64 (rP (rG (pad (s.size - lf σ)) σ)).1.to, .int .u64 (rP (rG (pad (s.size - lf σ)) σ)).1.fr, .string (rP (rG (pad (s.size - lf σ)) σ)).1.s]) ∧ Rs w' w.heap.size (rP (rG (pad (s.size - lf σ)) σ)).2 ∧ But w.heap.size wi w') := fun wi h => buReadP_any _ _ wi h
      have hpl := pad_lt (s.size - lf σ)
      generalize (rP (rG (pad (s.size - lf σ)) σ)).1 = p at *
      generalize (rP (rG (pad (s.size - lf σ)) σ)).2 = σ2 at *
      generalize rG (pad (s.size - lf σ)) σ = σ1 at *
      generalize pad (s.size - lf σ) = q at *
      obtain ⟨k, hk⟩ : ∃ k, k = lf σ := ⟨_, rfl⟩
      have HK := Lib.hid hk
      rw [← hk] at CL CG hp hl1
      have hp' : (0 : Int) < (k : Int) := by omega
      clear hmz hk hinv hrs hb
      go_wp2_with (first
        | (go_at_call 28; refine (CL.out).mono ?_; rintro e w' ⟨rfl, rfl⟩)
        | (go_at_call 23; refine (CG.out _).mono ?_; rintro e w' ⟨rfl, rfl⟩)
        | (go_at_call 27; refine (CRP.out _ R2.out).mono ?_; rintro e w3 ⟨rfl, h3, h4⟩; have R3 := Lib.hid h3; have B3 := Lib.hid (B2.out.trans (h4.below B2.out.size (Nat.le_refl _))); have hown3 := owns_but hown2 h4 (Nat.lt_succ_self _); clear h3 h4 hown2)
        | (go_at_call 29; refine (CRG.out).mono ?_; rintro e w2 ⟨rfl, h3, h4⟩; have R2 := Lib.hid h3; have B2 := Lib.hid (HB.out.trans (h4.below HB.out.size (Nat.le_refl _))); have hown2 := owns_but hown h4 (Nat.lt_succ_self _); clear h3 h4 hown)
        | (at_builtin; obtain ⟨i0, hi, hz0, hz1, hz2⟩ := HI.out; refine wpList_append_own _ rfl _ _ 22 rfl (w.heap.size + 1) 30 i0 (.agg #[.int .u64 0, .int .u64 0, .string ⟨#[]⟩]) 3 32 Try.underlying22 hi hz0 hz1 hz2 rfl (by decide) _ _ _ rfl (hown3.alloc _) ⟨w3.heap.size, 0, none⟩ 1 1 [.int .u64 p.to, .int .u64 p.fr, .string p.s] rfl rfl ?c1 ?c2 ?c3 ?c4 ?c5 ?_))
      case c1 =>
        intro j u hj
        match j, hj with
        | 0, hj => simp at hj; subst hj; simp [Addr.add]
        | 1, hj => simp at hj; subst hj; simp [Addr.add]
        | 2, hj => simp at hj; subst hj; simp [Addr.add]
      case c2 => intro u hu; simp at hu; rcases hu with rfl | rfl | rfl <;> rfl
      case c3 => unfold maxLen; omega
      case c4 => omega
      case c5 => have := R3.out.lt; simp; omega
      intro v4 w4 hown4 hgrow hn'
      clear hi hz0 hz1 hz2
      have R4 : Hid (Rs w4 w.heap.size σ2) := R3.out.blk (by
        refine (hgrow.block w.heap.size (by have := R3.out.lt; simp; omega) fun e => ?_).trans (Below.heap_alloc _ _ _ R3.out.lt)
        have := (hown3.lt _ e.symm).1
        omega)
      have R : w4.ownsRow (w.heap.size + 1) 30 3 v4 (L ++ [p]).length (Pk_.flat (L ++ [p])) ∧ Below w.heap.size w w4 := by
        refine ⟨?_, ?_⟩
        · rw [flat_snoc, List.length_append]
          exact hown4
        · refine Below.grown (B3.out.alloc B3.out.size _) hgrow (by simp; have := B3.out.size; omega) (fun j hj => ?_)
          have := (hown3.lt j hj).1
          omega
      have HO4 := Lib.hid R.1
      have HB4 := Lib.hid R.2
      clear hown3 hown4 hgrow hn' R
      go_wp2
      go_roundw
      case rel => exact ⟨L ++ [p], σ2, HT.out.1, HO4.out, R4.out, HB4.out⟩
      case measure => rw [HM.out, mz_rs R4.out]; exact HT.out.2
    · have HE := Lib.hid (inv_end hinv hp)
      have HO : Hid (Sl wr v0 L c) := sl_owns hown
      have hk0 : lf σ = 0 := by omega
      rw [hk0] at CL
      clear hmz hinv hrs hb hp hk0 hown
      by_cases h0 : σ.1 = 0
      · rw [if_pos h0] at HE
        rw [h0] at CE
        clear h0
        go_wp2_with (first
          | (go_at_call 28; refine (CL.out).mono ?_; rintro e w' ⟨rfl, rfl⟩)
          | (go_at_call 30; refine (CE.out).mono ?_; rintro e w' ⟨rfl, rfl⟩))
        go_returns
        exact decPost_ok HE.out rfl HO.out HB.out
      · rw [if_neg h0] at HE
        generalize σ.1 = r at *
        have h0' : (r != 0) = true := by rw [bne_iff_ne]; exact h0
        clear h0
        go_wp2_with (first
          | (go_at_call 28; refine (CL.out).mono ?_; rintro e w' ⟨rfl, rfl⟩)
          | (go_at_call 30; refine (CE.out).mono ?_; rintro e w' ⟨rfl, rfl⟩))
        go_returns
        exact decPost_err HE.out rfl HB.out
end Go.Proofs.Ytlkipjpjkiffjaa
