/-
  AGGREGATES OF PACKETS (layer 16): checked, encoded, decoded; the room that is left. Of no program.
-/
import Derived.Test.YtlkipjpjkiffjaaWrMath
import Derived.Test.YtlkipjpjkiffjaaAdMath
namespace Go.Bu
open Go.Wr Go.Ad

structure Pk where
  to : Int
  fr : Int
  s : ByteArray

def zp : Pk := ⟨0, 0, ⟨#[]⟩⟩
/-- The addresses are in range. -/
def pok (p : Pk) : Bool := vald p.to.toNat && (vald p.fr.toNat && !grp p.fr.toNat)
def chk (p : Pk) : Int := if pok p = true then (if 1024 < p.s.size then 2 else 0) else 4
def chkL : List Pk → Int
  | [] => 0
  | e :: l => if chk e = 0 then chkL l else chk e
/-- What the type lets in. -/
def PkW (p : Pk) : Prop := (0 ≤ p.to ∧ p.to < 18446744073709551616) ∧ (0 ≤ p.fr ∧ p.fr < 18446744073709551616)
/-- A list that is not too long. -/
def sz (l : List Pk) : Prop := l.length ≤ 3000 ∧ ∀ p ∈ l, p.s.size ≤ 3000 ∧ PkW p

theorem chk_ok {p : Pk} : chk p = 0 ↔ pok p = true ∧ p.s.size ≤ 1024 := by
  unfold chk
  split
  · rename_i h
    split
    · constructor
      · intro h; exact absurd h (by decide)
      · intro h; omega
    · constructor
      · intro _; exact ⟨h, by omega⟩
      · intro _; rfl
  · rename_i h
    constructor
    · intro h; exact absurd h (by decide)
    · intro h'; exact absurd h'.1 h
theorem chk_cases (p : Pk) : chk p = 0 ∨ chk p = 2 ∨ chk p = 4 := by
  unfold chk
  split
  · split
    · exact .inr (.inl rfl)
    · exact .inl rfl
  · exact .inr (.inr rfl)
theorem pok_iff {p : Pk} : pok p = true ↔ (0 < p.to ∧ p.to < 281474976710656) ∧ (0 < p.fr ∧ p.fr < 281474976710656) ∧ grp p.fr.toNat = false := by
  unfold pok vald
  simp only [Bool.and_eq_true, decide_eq_true_iff, Bool.not_eq_true']
  constructor
  · rintro ⟨h1, h2, h3⟩; exact ⟨by omega, by omega, h3⟩
  · rintro ⟨h1, h2, h3⟩; exact ⟨by omega, by omega, h3⟩
theorem chkL_ok {l : List Pk} : chkL l = 0 ↔ ∀ e ∈ l, chk e = 0 := by
  induction l with
  | nil => simp [chkL]
  | cons e l ih =>
    unfold chkL
    split
    · rename_i h; rw [ih]; simp [h]
    · rename_i h; constructor
      · intro h'; exact absurd h' h
      · intro h'; exact absurd (h' e List.mem_cons_self) h
/-- The check of a list, by its first packet that fails. -/
theorem chkL_at {l : List Pk} {i : Nat} (hi : i < l.length) (h : ∀ j (hj : j < l.length), j < i → chk l[j] = 0) (hn : ¬ chk l[i] = 0) : chkL l = chk l[i] := by
  induction l generalizing i with
  | nil => cases hi
  | cons e l ih =>
    cases i with
    | zero =>
      have hn' : ¬ chk e = 0 := hn
      rw [chkL, if_neg hn']; rfl
    | succ i =>
      have h0 : chk e = 0 := h 0 (by simp) (by omega)
      rw [chkL, if_pos h0]
      exact ih (by simpa using hi) (fun j hj hji => h (j + 1) (by simpa using hj) (by omega)) hn
theorem chkL_all {l : List Pk} (h : ∀ j (hj : j < l.length), chk l[j] = 0) : chkL l = 0 :=
  chkL_ok.2 fun e he => by obtain ⟨j, hj, rfl⟩ := List.getElem_of_mem he; exact h j hj

/-! ### Octets -/
def pad (n : Nat) : Nat := (4 - n % 4) % 4
theorem pad_lt (n : Nat) : pad n < 4 := Nat.mod_lt _ (by decide)
theorem pad_mod {n m : Nat} (h : n % 4 = m % 4) : pad n = pad m := by unfold pad; rw [h]
theorem pad_zero {n : Nat} (h : n % 4 = 0) : pad n = 0 := by unfold pad; rw [h]
theorem pad_sum (n : Nat) : (n + pad n) % 4 = 0 := by unfold pad; omega
def zs (n : Nat) : List UInt8 := List.replicate n 0
theorem zs_len (n : Nat) : (zs n).length = n := List.length_replicate
def sub (p : Pk) : List UInt8 := be p.to.toNat ++ (be p.fr.toNat ++ (le p.s.size 2 ++ p.s.data.toList))
theorem ba_len (s : ByteArray) : s.data.toList.length = s.size := Array.length_toList
theorem sub_len (p : Pk) : (sub p).length = 14 + p.s.size := by
  unfold sub
  rw [List.length_append, List.length_append, List.length_append, be_len, be_len, le_len, ba_len]; omega
/-- The octets of packets behind n octets. -/
def ot : Nat → List Pk → List UInt8
  | _, [] => []
  | n, p :: l => zs (pad n) ++ (sub p ++ ot (n + pad n + (14 + p.s.size)) l)
/-- How many octets there are with them. -/
def ln : Nat → List Pk → Nat
  | n, [] => n
  | n, p :: l => ln (n + pad n + (14 + p.s.size)) l
def oc (l : List Pk) : List UInt8 := ot 0 l
theorem ot_len (l : List Pk) : ∀ n, n + (ot n l).length = ln n l := by
  induction l with
  | nil => intro n; rfl
  | cons p l ih =>
    intro n
    rw [ot, ln, ← ih, List.length_append, List.length_append, zs_len, sub_len]; omega
theorem oc_len (l : List Pk) : (oc l).length = ln 0 l := by have := ot_len l 0; unfold oc; omega
theorem ot_snoc (l : List Pk) (p : Pk) : ∀ n, ot n (l ++ [p]) = ot n l ++ (zs (pad (ln n l)) ++ sub p) := by
  induction l with
  | nil => intro n; simp [ot, ln]
  | cons q l ih =>
    intro n
    rw [List.cons_append, ot, ih, ot, ln]; simp
theorem ln_snoc (l : List Pk) (p : Pk) : ∀ n, ln n (l ++ [p]) = ln n l + pad (ln n l) + (14 + p.s.size) := by
  induction l with
  | nil => intro n; simp [ln]
  | cons q l ih =>
    intro n
    rw [List.cons_append, ln, ih, ln]
theorem take_snoc {l : List Pk} {k : Nat} (h : k < l.length) : l.take (k + 1) = l.take k ++ [l[k]] := by
  rw [List.take_add_one, List.getElem?_eq_getElem h]; rfl
theorem ln_take {l : List Pk} {k : Nat} (h : k < l.length) : ln 0 (l.take (k + 1)) = ln 0 (l.take k) + pad (ln 0 (l.take k)) + (14 + l[k].s.size) := by
  rw [take_snoc h, ln_snoc]
theorem oc_take {l : List Pk} {k : Nat} (h : k < l.length) : oc (l.take (k + 1)) = oc (l.take k) ++ (zs (pad (ln 0 (l.take k))) ++ sub l[k]) := by
  unfold oc
  rw [take_snoc h, ot_snoc]
/-- Rough bounds. -/
theorem ln_le {l : List Pk} (h : ∀ p ∈ l, p.s.size ≤ 3000) : ∀ n, ln n l ≤ n + 3017 * l.length := by
  induction l with
  | nil => intro n; simp [ln]
  | cons p l ih =>
    intro n
    have h1 := ih (fun q hq => h q (List.mem_cons_of_mem _ hq)) (n + pad n + (14 + p.s.size))
    have h2 := h p List.mem_cons_self
    have h3 := pad_lt n
    rw [ln, List.length_cons]; omega
theorem ln_ge (l : List Pk) : ∀ n, n + 14 * l.length ≤ ln n l := by
  induction l with
  | nil => intro n; simp [ln]
  | cons p l ih =>
    intro n
    have h1 := ih (n + pad n + (14 + p.s.size))
    rw [ln, List.length_cons]; omega
theorem ln_take_le {l : List Pk} (h : sz l) (k : Nat) : ln 0 (l.take k) ≤ 9051000 := by
  have h1 := ln_le (l := l.take k) (fun p hp => (h.2 p (List.mem_of_mem_take hp)).1) 0
  have h2 : (l.take k).length ≤ 3000 := Nat.le_trans (by rw [List.length_take]; omega) h.1
  omega
/-- Only the place modulo 4 counts. -/
theorem ot_mod (l : List Pk) : ∀ {n m : Nat}, n % 4 = m % 4 → ot n l = ot m l := by
  induction l with
  | nil => intros; rfl
  | cons p l ih =>
    intro n m h
    rw [ot, ot, pad_mod h, ih (n := n + pad m + (14 + p.s.size)) (m := m + pad m + (14 + p.s.size)) (by omega)]
theorem ln_all {l : List Pk} : ln 0 l = ln 0 (l.take l.length) := by rw [List.take_length]

/-! ### Encode -/
def encE (l : List Pk) : Int := if l.length = 0 then 7 else if chkL l = 0 then (if 2048 < ln 0 l then 2 else 0) else chkL l
def encS (l : List Pk) : ByteArray := if encE l = 0 then ⟨(oc l).toArray⟩ else ⟨#[]⟩
theorem encE_ok {l : List Pk} : encE l = 0 ↔ l.length ≠ 0 ∧ chkL l = 0 ∧ ln 0 l ≤ 2048 := by
  unfold encE
  split
  · rename_i h; constructor
    · intro h; exact absurd h (by decide)
    · intro h'; exact absurd h h'.1
  · rename_i h0
    split
    · rename_i h1
      split
      · constructor
        · intro h; exact absurd h (by decide)
        · intro h; omega
      · constructor
        · intro _; exact ⟨h0, h1, by omega⟩
        · intro _; rfl
    · rename_i h1; constructor
      · intro h; exact absurd h h1
      · intro h; exact absurd h.2.1 h1
theorem encS_size (l : List Pk) : (encS l).size = if encE l = 0 then ln 0 l else 0 := by
  unfold encS
  split
  · rw [← oc_len]; exact List.size_toArray ..
  · rfl
theorem encS_le (l : List Pk) : (encS l).size ≤ 2048 := by
  rw [encS_size]
  split
  · rename_i h; exact (encE_ok.1 h).2.2
  · exact Nat.zero_le _

/-! ### Decode -/
def hTo (o : List UInt8) : Nat := bev (o.take 6)
def hFr (o : List UInt8) : Nat := bev ((o.drop 6).take 6)
def hN (o : List UInt8) : Nat := val ((o.drop 12).take 2)
def hd (o : List UInt8) : Pk := ⟨hTo o, hFr o, ⟨#[]⟩⟩
def pk (o : List UInt8) : Pk := ⟨hTo o, hFr o, ⟨((o.drop 14).take (hN o)).toArray⟩⟩
def e1 (o : List UInt8) : Int := if o.length < 14 then 1 else if pok (hd o) = true then (if 1024 < hN o then 2 else if o.length < 14 + hN o then 1 else 0) else 4
def fin (L : List Pk) (r : List Pk × Int) : List Pk × Int := if r.2 = 0 then (L ++ r.1, 0) else ([], r.2)
/-- What is behind a subframe of n octets. -/
def dG (d : List UInt8 → List Pk × Int) (n : Nat) (u : List UInt8) : List Pk × Int :=
  if u.length = 0 then ([], 0) else if u.length ≤ pad n then ([], 1) else if u.take (pad n) = zs (pad n) then d (u.drop (pad n)) else ([], 3)
def dF : Nat → List UInt8 → List Pk × Int
  | 0, _ => ([], 1)
  | f + 1, o => if e1 o = 0 then fin [pk o] (dG (dF f) (14 + hN o) (o.drop (14 + hN o))) else ([], e1 o)
def dec (s : ByteArray) : List Pk × Int := if 2048 < s.size then ([], 2) else dF (s.size + 1) s.data.toList

theorem fin_nil (r : List Pk × Int) (h : ¬ r.2 = 0 → r.1 = []) : fin [] r = r := by
  unfold fin
  split
  · rename_i h0; exact Prod.ext (List.nil_append _) h0.symm
  · rename_i h0; exact Prod.ext (h h0).symm rfl
theorem fin_ok (L : List Pk) (l : List Pk) : fin L (l, 0) = (L ++ l, 0) := if_pos rfl
theorem fin_err (L : List Pk) {e : Int} (h : ¬ e = 0) (l : List Pk) : fin L (l, e) = ([], e) := if_neg h
theorem fin_fin (L M : List Pk) (r : List Pk × Int) : fin L (fin M r) = fin (L ++ M) r := by
  unfold fin
  by_cases h : r.2 = 0
  · rw [if_pos h, if_pos h, if_pos rfl, List.append_assoc]
  · rw [if_neg h, if_neg h, if_neg h]
theorem e1_ok {o : List UInt8} : e1 o = 0 ↔ 14 ≤ o.length ∧ pok (hd o) = true ∧ hN o ≤ 1024 ∧ 14 + hN o ≤ o.length := by
  unfold e1
  split
  · constructor
    · intro h; exact absurd h (by decide)
    · intro h; omega
  · split
    · rename_i h
      split
      · constructor
        · intro h; exact absurd h (by decide)
        · intro h; omega
      · split
        · constructor
          · intro h; exact absurd h (by decide)
          · intro h; omega
        · constructor
          · intro _; exact ⟨by omega, h, by omega, by omega⟩
          · intro _; rfl
    · rename_i h
      constructor
      · intro h; exact absurd h (by decide)
      · intro h'; exact absurd h'.2.1 h
theorem dG_end (d : List UInt8 → List Pk × Int) (n : Nat) : dG d n [] = ([], 0) := if_pos rfl
theorem dG_short {d : List UInt8 → List Pk × Int} {n : Nat} {u : List UInt8} (h0 : ¬ u.length = 0) (h : u.length ≤ pad n) : dG d n u = ([], 1) := by
  unfold dG; rw [if_neg h0, if_pos h]
theorem dG_form {d : List UInt8 → List Pk × Int} {n : Nat} {u : List UInt8} (h : ¬ u.length ≤ pad n) (hz : ¬ u.take (pad n) = zs (pad n)) : dG d n u = ([], 3) := by
  unfold dG; rw [if_neg (by omega), if_neg h, if_neg hz]
theorem dG_ok {d : List UInt8 → List Pk × Int} {n : Nat} {u : List UInt8} (h : ¬ u.length ≤ pad n) (hz : u.take (pad n) = zs (pad n)) : dG d n u = d (u.drop (pad n)) := by
  unfold dG; rw [if_neg (by omega), if_neg h, if_pos hz]
/-- An error leaves no packets. -/
theorem dF_nil (f : Nat) (o : List UInt8) (h : ¬ (dF f o).2 = 0) : (dF f o).1 = [] := by
  cases f with
  | zero => rfl
  | succ f =>
    rw [dF] at h ⊢
    by_cases h0 : e1 o = 0
    · rw [if_pos h0] at h ⊢
      unfold fin at h ⊢
      split
      · rename_i h1; rw [if_pos h1] at h; exact absurd rfl h
      · rfl
    · rw [if_neg h0]
theorem dec_nil (s : ByteArray) (h : ¬ (dec s).2 = 0) : (dec s).1 = [] := by
  unfold dec at h ⊢
  split
  · rfl
  · rename_i h1; rw [if_neg h1] at h; exact dF_nil _ _ h

/-! ### What was encoded is decoded -/
theorem sub_to (p : Pk) (u : List UInt8) : (sub p ++ u).take 6 = be p.to.toNat := by
  unfold sub
  rw [List.append_assoc]
  exact (be_len p.to.toNat) ▸ List.take_left ..
theorem drop_be (a : Nat) (u : List UInt8) : (be a ++ u).drop 6 = u := (be_len a) ▸ List.drop_left ..
theorem take_be (a : Nat) (u : List UInt8) : (be a ++ u).take 6 = be a := (be_len a) ▸ List.take_left ..
theorem take_le (a k : Nat) (u : List UInt8) : (le a k ++ u).take k = le a k := by
  have := List.take_left (l₁ := le a k) (l₂ := u); rwa [le_len] at this
theorem drop_le (a k : Nat) (u : List UInt8) : (le a k ++ u).drop k = u := by
  have := List.drop_left (l₁ := le a k) (l₂ := u); rwa [le_len] at this
theorem ba_mk {s : ByteArray} {l : List UInt8} (h : l = s.data.toList) : (⟨l.toArray⟩ : ByteArray) = s := by subst h; simp
theorem sub_fields (p : Pk) (u : List UInt8) (h : chk p = 0) : hTo (sub p ++ u) = p.to.toNat ∧ hFr (sub p ++ u) = p.fr.toNat ∧ hN (sub p ++ u) = p.s.size := by
  obtain ⟨h1, h2⟩ := chk_ok.1 h
  obtain ⟨h3, h4, -⟩ := pok_iff.1 h1
  unfold hTo hFr hN
  refine ⟨?_, ?_, ?_⟩
  · rw [sub_to, bev_be (by omega)]
  · unfold sub
    rw [List.append_assoc, drop_be, List.append_assoc, take_be, bev_be (by omega)]
  · rw [show 12 = 6 + 6 from rfl, ← List.drop_drop]
    unfold sub
    rw [List.append_assoc, drop_be, List.append_assoc, drop_be, List.append_assoc, take_le, val_le_of_lt (by rw [show pow 2 = 65536 from by decide]; omega)]
theorem sub_drop (p : Pk) (u : List UInt8) : (sub p ++ u).drop (14 + p.s.size) = u := (sub_len p) ▸ List.drop_left ..
theorem sub_data (p : Pk) (u : List UInt8) : ((sub p ++ u).drop 14).take p.s.size = p.s.data.toList := by
  rw [show 14 = 6 + 6 + 2 from rfl, ← List.drop_drop, ← List.drop_drop]
  unfold sub
  rw [List.append_assoc, drop_be, List.append_assoc, drop_be, List.append_assoc, drop_le]
  exact (ba_len p.s) ▸ List.take_left ..
theorem sub_pk (p : Pk) (u : List UInt8) (h : chk p = 0) : pk (sub p ++ u) = p ∧ e1 (sub p ++ u) = 0 ∧ hN (sub p ++ u) = p.s.size := by
  obtain ⟨h1, h2, h3⟩ := sub_fields p u h
  obtain ⟨h4, h5⟩ := chk_ok.1 h
  obtain ⟨h6, h7, h8⟩ := pok_iff.1 h4
  refine ⟨?_, ?_, h3⟩
  · unfold pk
    rw [h1, h2, h3, ba_mk (sub_data p u)]
    obtain ⟨to, fr, s⟩ := p
    simp only at h6 h7 ⊢
    congr 1 <;> omega
  · rw [e1_ok]
    have hl : (sub p ++ u).length = 14 + p.s.size + u.length := by rw [List.length_append, sub_len]
    refine ⟨by omega, ?_, by omega, by omega⟩
    rw [pok_iff]
    unfold hd
    rw [h1, h2]
    exact ⟨by simp only; omega, by simp only; omega, by rw [show (((p.fr.toNat : Nat) : Int)).toNat = p.fr.toNat from Int.toNat_natCast _]; exact h8⟩
theorem dF_ot (l : List Pk) : ∀ (n f : Nat), l ≠ [] → (∀ p ∈ l, chk p = 0) → n % 4 = 0 → (ot n l).length < f → dF f (ot n l) = (l, 0) := by
  induction l with
  | nil => intro n f h; exact absurd rfl h
  | cons p l ih =>
    intro n f _ hc hn hf
    obtain ⟨f, rfl⟩ : ∃ g, f = g + 1 := ⟨f - 1, by omega⟩
    have hp := hc p List.mem_cons_self
    have hpz := pad_zero hn
    have e : ot n (p :: l) = sub p ++ ot (n + (14 + p.s.size)) l := by rw [ot, hpz]; rfl
    rw [e] at hf ⊢
    obtain ⟨k1, k2, k3⟩ := sub_pk p (ot (n + (14 + p.s.size)) l) hp
    rw [dF, if_pos k2, k1, k3, sub_drop]
    have hm : pad (14 + p.s.size) = pad (n + (14 + p.s.size)) := pad_mod (by omega)
    cases l with
    | nil => rw [ot, dG_end]; rfl
    | cons q l =>
      have e2 : ot (n + (14 + p.s.size)) (q :: l) = zs (pad (n + (14 + p.s.size))) ++ ot (n + (14 + p.s.size) + pad (n + (14 + p.s.size))) (q :: l) := by
        rw [ot, ot, pad_zero (pad_sum _)]; rfl
      rw [List.length_append, sub_len] at hf
      generalize hM : n + (14 + p.s.size) = m at *
      rw [e2] at hf ⊢
      have h14 : 14 ≤ (ot (m + pad m) (q :: l)).length := by
        rw [ot, List.length_append, List.length_append, sub_len]; omega
      have hz := zs_len (pad m)
      rw [dG_ok (by rw [List.length_append, hz, hm]; omega) (by rw [hm]; exact List.take_left' hz)]
      have hdr : (zs (pad m) ++ ot (m + pad m) (q :: l)).drop (pad (14 + p.s.size)) = ot (m + pad m) (q :: l) := by
        rw [hm]; exact List.drop_left' hz
      rw [hdr, ih (m + pad m) f (by simp) (fun x hx => hc x (List.mem_cons_of_mem _ hx)) (pad_sum m) (by rw [List.length_append] at hf; omega)]
      rfl
theorem dec_enc {l : List Pk} (h : encE l = 0) : dec (encS l) = (l, 0) := by
  obtain ⟨h1, h2, h3⟩ := encE_ok.1 h
  have hE : encS l = ⟨(oc l).toArray⟩ := if_pos h
  have hs : (encS l).size = ln 0 l := by rw [encS_size, if_pos h]
  unfold dec
  rw [if_neg (by omega)]
  have hd : (encS l).data.toList = ot 0 l := by rw [hE]; simp [oc]
  rw [hd, hs]
  refine dF_ot l 0 _ (fun h => h1 (by rw [h]; rfl)) (chkL_ok.1 h2) rfl ?_
  have := ot_len l 0; omega

/-! ### What is decoded is encoded -/
theorem val_inj : ∀ a b : List UInt8, a.length = b.length → val a = val b → a = b
  | [], [], _, _ => rfl
  | x :: a, y :: b, hl, h => by
    rw [val, val] at h
    have hx := x.toNat_lt
    have hy := y.toNat_lt
    have e : x = y := by apply UInt8.toNat_inj.1; omega
    rw [val_inj a b (by simpa using hl) (by omega), e]
theorem le_val (l : List UInt8) : le (val l) l.length = l := val_inj _ _ (le_len _ _) (val_le_of_lt (val_lt l))
theorem be_bev {l : List UInt8} (h : l.length = 6) : be (bev l) = l := by
  unfold be
  rw [bev_val]
  have := le_val l.reverse
  rw [List.length_reverse, h] at this
  rw [this, List.reverse_reverse]
theorem sub_of {o : List UInt8} (h : 14 + hN o ≤ o.length) : o = sub (pk o) ++ o.drop (14 + hN o) := by
  have hs : (pk o).s.size = hN o := by
    show (((o.drop 14).take (hN o)).toArray).size = _
    rw [List.size_toArray, List.length_take, List.length_drop]; omega
  have hd : (pk o).s.data.toList = (o.drop 14).take (hN o) := by
    show (((o.drop 14).take (hN o)).toArray).toList = _
    rfl
  have h2 : le (hN o) 2 = (o.drop 12).take 2 := by
    have := le_val ((o.drop 12).take 2)
    rwa [List.length_take, List.length_drop, Nat.min_eq_left (by omega)] at this
  have ht : be (pk o).to.toNat = o.take 6 := by
    show be ((hTo o : Int).toNat) = _
    rw [Int.toNat_natCast]; exact be_bev (by rw [List.length_take]; omega)
  have hf : be (pk o).fr.toNat = (o.drop 6).take 6 := by
    show be ((hFr o : Int).toNat) = _
    rw [Int.toNat_natCast]; exact be_bev (by rw [List.length_take, List.length_drop]; omega)
  unfold sub
  rw [hs, h2, hd, ht, hf]
  simp only [List.append_assoc]
  have a1 : (o.drop 14).take (hN o) ++ o.drop (14 + hN o) = o.drop 14 := by rw [← List.drop_drop]; exact List.take_append_drop ..
  have a2 : (o.drop 12).take 2 ++ o.drop 14 = o.drop 12 := by rw [show 14 = 12 + 2 from rfl, ← List.drop_drop]; exact List.take_append_drop ..
  have a3 : (o.drop 6).take 6 ++ o.drop 12 = o.drop 6 := by rw [show 12 = 6 + 6 from rfl, ← List.drop_drop]; exact List.take_append_drop ..
  rw [a1, a2, a3, List.take_append_drop]
theorem pk_size {o : List UInt8} (h : 14 + hN o ≤ o.length) : (pk o).s.size = hN o := by
  show (((o.drop 14).take (hN o)).toArray).size = _
  rw [List.size_toArray, List.length_take, List.length_drop]; omega
theorem pk_chk {o : List UInt8} (h : e1 o = 0) : chk (pk o) = 0 := by
  obtain ⟨h1, h2, h3, h4⟩ := e1_ok.1 h
  rw [chk_ok, pk_size h4]
  exact ⟨h2, h3⟩
theorem dF_inv : ∀ (f : Nat) (o : List UInt8) (l : List Pk), dF f o = (l, 0) → l ≠ [] ∧ (∀ p ∈ l, chk p = 0) ∧ ∀ n, n % 4 = 0 → ot n l = o := by
  intro f
  induction f with
  | zero =>
    intro o l h
    have := congrArg Prod.snd h
    exact absurd this (by simp [dF])
  | succ f ih =>
    intro o l h
    rw [dF] at h
    by_cases h0 : e1 o = 0
    case neg => rw [if_neg h0] at h; exact absurd (congrArg Prod.snd h) h0
    rw [if_pos h0] at h
    have hpk := pk_chk h0
    obtain ⟨h1, h2, h3, h4⟩ := e1_ok.1 h0
    have hso := sub_of h4
    have hsz := pk_size h4
    generalize hu : o.drop (14 + hN o) = u at *
    by_cases hu0 : u.length = 0
    · obtain rfl : u = [] := List.length_eq_zero_iff.1 hu0
      rw [dG_end, fin_ok] at h
      obtain rfl := congrArg Prod.fst h
      refine ⟨by simp, fun p hp => by simp at hp; subst hp; exact hpk, fun n hn => ?_⟩
      show zs (pad n) ++ (sub (pk o) ++ []) = o
      rw [pad_zero hn, ← hso]; rfl
    · by_cases hul : u.length ≤ pad (14 + hN o)
      · rw [dG_short hu0 hul, fin_err _ (by decide)] at h
        exact absurd (congrArg Prod.snd h) (by simp)
      · by_cases hz : u.take (pad (14 + hN o)) = zs (pad (14 + hN o))
        · rw [dG_ok hul hz] at h
          generalize hr : dF f (u.drop (pad (14 + hN o))) = r at *
          obtain ⟨m, e⟩ := r
          by_cases he : e = 0
          · subst he
            rw [fin_ok] at h
            obtain rfl := congrArg Prod.fst h
            obtain ⟨i1, i2, i3⟩ := ih _ _ hr
            refine ⟨by simp, fun p hp => ?_, fun n hn => ?_⟩
            · rcases List.mem_cons.1 hp with rfl | hp
              · exact hpk
              · exact i2 p hp
            · show zs (pad n) ++ (sub (pk o) ++ ot (n + pad n + (14 + (pk o).s.size)) m) = o
              rw [pad_zero hn, hsz]
              have hp4 : pad (14 + hN o) = pad (n + 0 + (14 + hN o)) := pad_mod (by omega)
              have key : ot (n + 0 + (14 + hN o)) m = u := by
                obtain ⟨q, m, rfl⟩ : ∃ q m', m = q :: m' := by
                  cases m with
                  | nil => exact absurd rfl i1
                  | cons q m => exact ⟨q, m, rfl⟩
                have e := i3 (n + 0 + (14 + hN o) + pad (n + 0 + (14 + hN o))) (pad_sum _)
                rw [ot, pad_zero (pad_sum _)] at e
                rw [ot]
                rw [← List.take_append_drop (pad (14 + hN o)) u, hz, ← e, hp4]; rfl
              rw [key, ← hso]; rfl
          · rw [fin_err _ he] at h
            exact absurd (congrArg Prod.snd h) he
        · rw [dG_form hul hz, fin_err _ (by decide)] at h
          exact absurd (congrArg Prod.snd h) (by simp)
theorem enc_dec {s : ByteArray} (h : (dec s).2 = 0) : encE (dec s).1 = 0 ∧ encS (dec s).1 = s := by
  unfold dec at h ⊢
  by_cases h2 : 2048 < s.size
  · rw [if_pos h2] at h; exact absurd h (by decide)
  rw [if_neg h2] at h ⊢
  obtain ⟨⟨l, z⟩, el⟩ : ∃ l, dF (s.size + 1) s.data.toList = l := ⟨_, rfl⟩
  rw [el] at h ⊢
  obtain rfl : z = 0 := h
  obtain ⟨i1, i2, i3⟩ := dF_inv _ _ _ el
  show encE l = 0 ∧ encS l = s
  have e := i3 0 rfl
  have hl := ot_len l 0
  rw [e, ba_len] at hl
  have h0 : encE l = 0 := encE_ok.2 ⟨fun h => i1 (List.length_eq_zero_iff.1 h), chkL_ok.2 i2, by omega⟩
  exact ⟨h0, by rw [encS, if_pos h0]; unfold oc; exact ba_mk e⟩
theorem dec_sz (s : ByteArray) : sz (dec s).1 := by
  by_cases h : (dec s).2 = 0
  · obtain ⟨h1, h2⟩ := enc_dec h
    obtain ⟨k1, k2, k3⟩ := encE_ok.1 h1
    have := ln_ge (dec s).1 0
    refine ⟨by omega, fun p hp => ?_⟩
    obtain ⟨c1, c2⟩ := chk_ok.1 (chkL_ok.1 k2 p hp)
    obtain ⟨c3, c4, -⟩ := pok_iff.1 c1
    exact ⟨by omega, ⟨⟨by omega, by omega⟩, ⟨by omega, by omega⟩⟩⟩
  · rw [dec_nil s h]; exact ⟨by simp, fun p hp => absurd hp List.not_mem_nil⟩

/-! ### Room -/
def rm (o m : Int) : Int :=
  if o < 0 ∨ min m 2048 < o then -1 else max (min (min m 2048 - o - (pad o.toNat : Int) - 14) 1024) (-1)
theorem rm_le (o m : Int) : -1 ≤ rm o m ∧ rm o m ≤ 1024 := by
  unfold rm; split <;> omega
/-- What fits behind a list. -/
theorem rm_fit {l : List Pk} (h0 : l.length = 0 ∨ encE l = 0) (p : Pk) (hp : chk p = 0) (hs : (p.s.size : Int) = max (rm (ln 0 l) 2048) 0) :
    (rm (ln 0 l) 2048 < 0 → encE (l ++ [p]) = 2) ∧ (0 ≤ rm (ln 0 l) 2048 → encE (l ++ [p]) = 0 ∧ ∀ q : Pk, pok q = true → q.s.size = p.s.size + 1 → encE (l ++ [q]) = 2) := by
  have hc : chkL l = 0 := by
    rcases h0 with h0 | h0
    · rw [List.length_eq_zero_iff.1 h0]; rfl
    · exact (encE_ok.1 h0).2.1
  have hl : ln 0 l ≤ 2048 := by
    rcases h0 with h0 | h0
    · rw [List.length_eq_zero_iff.1 h0]; exact Nat.zero_le _
    · exact (encE_ok.1 h0).2.2
  have key : ∀ q : Pk, encE (l ++ [q]) = if chk q = 0 then (if 2048 < ln 0 l + pad (ln 0 l) + (14 + q.s.size) then 2 else 0) else chk q := by
    intro q
    unfold encE
    rw [if_neg (by simp), ln_snoc]
    by_cases hq : chk q = 0
    · rw [if_pos hq, if_pos (chkL_ok.2 fun e he => by
        rcases List.mem_append.1 he with he | he
        · exact chkL_ok.1 hc e he
        · simp at he; rw [he]; exact hq)]
    · rw [if_neg hq]
      have e : chkL (l ++ [q]) = chk q := by
        have := chkL_at (l := l ++ [q]) (i := l.length) (by simp) (fun j hj hji => by
          rw [List.getElem_append_left hji]; exact chkL_ok.1 hc _ (List.getElem_mem _)) (by simpa using hq)
        simpa using this
      rw [e, if_neg hq]
  have hlt := pad_lt (ln 0 l)
  have hr : rm (ln 0 l) 2048 = max (min (2048 - (ln 0 l : Int) - (pad (ln 0 l) : Int) - 14) 1024) (-1) := by
    unfold rm
    rw [if_neg (by omega), Int.toNat_natCast]; omega
  rw [hr] at hs ⊢
  constructor
  · intro hn
    rw [key, if_pos hp, if_pos (by omega)]
  · intro hn
    refine ⟨by rw [key, if_pos hp, if_neg (by omega)], fun q hq hqs => ?_⟩
    rw [key]
    by_cases hq0 : chk q = 0
    · rw [if_pos hq0]
      have := (chk_ok.1 hq0).2
      rw [if_pos (by omega)]
    · rw [if_neg hq0]
      rcases chk_cases q with h | h | h
      · exact absurd h hq0
      · exact h
      · unfold chk at h
        rw [if_pos hq] at h
        split at h <;> exact absurd h (by decide)
end Go.Bu
