/-
  OF NO PROGRAM: the frames of the theorem TrainCarries; one octet exclusive-ored in sealed octets.
-/
import Derived.Test.YtacbhbejchjbiaaDoorFmMath
namespace Go.Tc
open Go.Hd Go.Wr Go.Ck Go.Fm

/-- A frame by numbers. -/
structure Sm where
  kd : Int
  sq : Int
  ct : Int
  bo : ByteArray
def mkS (k po du th sq ct : Int) (bo : ByteArray) : Fr := ⟨k, false, false, false, false, false, false, po, du, 2199023255554, 2199023255553, th, sq, 0, ct, 0, 0, bo⟩
def frS (x : Sm) : Fr :=
  if x.kd % 4 = 1 then mkS 11 0 0 2199023255555 (x.sq % 4096) 0 x.bo
  else if x.kd % 4 = 2 then mkS 12 0 (x.sq % 4096) 0 0 0 ⟨#[]⟩
  else if x.kd % 4 = 3 then mkS 19 0 0 2199023255555 (x.sq % 4096) (x.ct % 4) ⟨#[]⟩
  else mkS 18 2 0 2199023255555 (x.sq % 4096) (x.ct % 4) x.bo
theorem chk_mkS {k po du th sq ct : Int} {bo : ByteArray}
    (h : (k = 11 ∧ po = 0 ∧ du = 0 ∧ th = 2199023255555 ∧ ct = 0 ∧ bo.size ≤ 200) ∨ (k = 12 ∧ po = 0 ∧ th = 0 ∧ sq = 0 ∧ ct = 0 ∧ bo.size = 0) ∨ (k = 19 ∧ po = 0 ∧ du = 0 ∧ th = 2199023255555 ∧ bo.size = 0) ∨ (k = 18 ∧ po = 2 ∧ du = 0 ∧ th = 2199023255555 ∧ bo.size ≤ 200))
    (hd : 0 ≤ du ∧ du ≤ 4095) (hs : 0 ≤ sq ∧ sq ≤ 4095) (hc : 0 ≤ ct ∧ ct ≤ 3) : chk (mkS k po du th sq ct bo) = 0 := by
  have hk : k = 11 ∨ k = 12 ∨ k = 18 ∨ k = 19 := by omega
  have h1 : isK k := by unfold isK; omega
  have hfr : fro k := by unfold fro; omega
  have va : vad (2199023255554 : Int) ∧ ¬ grp (2199023255554 : Int) := by decide
  have vf : vad (2199023255553 : Int) ∧ ¬ grp (2199023255553 : Int) := by decide
  have vt : vad (2199023255555 : Int) ∧ ¬ grp (2199023255555 : Int) := by decide
  have hn : nb k → th = 2199023255555 := fun hn => by unfold nb mg pl at hn; omega
  have hr : rngs (mkS k po du th sq ct bo) :=
    ⟨⟨hd.1, by show du ≤ 32767; omega⟩, va.1, fun _ => vf, fun hb => by
      have e := hn hb
      subst e
      exact ⟨vt.1, fun hg => absurd hg vt.2, hs⟩, fun _ => ⟨⟨by show 0 ≤ po; omega, by show po ≤ 2; omega⟩, hc⟩, fun _ => ⟨show rng 0 0 15 by decide, show rng 0 0 65535 by decide, show rng 0 0 1099511627775 by decide⟩⟩
  have hz : ¬ (bd k ∧ 2048 < bo.size) := by rintro ⟨-, hb⟩; omega
  have hub : ¬ unu (mkS k po du th sq ct bo) := by
    rintro (⟨⟨h | h, -⟩ | ⟨h | h, -⟩ | ⟨h | h, -⟩⟩ | ⟨hp, h | h⟩ | ⟨hp, -⟩ | ⟨hp, h | h⟩ | ⟨hp, h'⟩ | ⟨-, h | h | h⟩)
    all_goals first
      | (simp [mkS] at h; done)
      | exact hp hfr
      | skip
    · refine hp ?_; show k = 18 ∨ k = 19; change ¬ po = 0 at h; omega
    · refine hp ?_; show k = 18 ∨ k = 19; change ¬ ct = 0 at h; omega
    · refine hp ?_; unfold nb mg pl; change ¬ th = 0 at h; show (1 ≤ k ∧ k ≤ 11) ∨ k = 18 ∨ k = 19; omega
    · refine hp ?_; unfold nb mg pl; change ¬ sq = 0 at h; show (1 ≤ k ∧ k ≤ 11) ∨ k = 18 ∨ k = 19; omega
    · refine hp ?_; unfold bd mg; change ¬ bo.size = 0 at h'; show (1 ≤ k ∧ k ≤ 11) ∨ k = 15 ∨ k = 16 ∨ k = 18; omega
  have hbd : ¬ bad (mkS k po du th sq ct bo) := by
    rintro (h | ⟨hp, h⟩ | ⟨h, -⟩ | ⟨h | h, -⟩ | ⟨h, -⟩)
    · exact hub h
    · change k = 19 at hp; change po = 2 at h; omega
    · simp [mkS] at h
    · simp [mkS] at h
    · simp [mkS] at h
    · exact va.2 h
  unfold chk
  rw [if_neg (show ¬ ¬ isK (mkS k po du th sq ct bo).kd from not_not_intro h1), if_neg (not_not_intro hr), if_neg (show ¬ (bd (mkS k po du th sq ct bo).kd ∧ 2048 < (mkS k po du th sq ct bo).bo.size) from hz), if_neg hbd]
theorem chk_frS {x : Sm} (hb : x.bo.size ≤ 200) : chk (frS x) = 0 := by
  unfold frS
  split
  · exact chk_mkS (.inl ⟨rfl, rfl, rfl, rfl, rfl, hb⟩) ⟨by omega, by omega⟩ ⟨by omega, by omega⟩ ⟨by omega, by omega⟩
  · split
    · exact chk_mkS (.inr (.inl ⟨rfl, rfl, rfl, rfl, rfl, rfl⟩)) ⟨by omega, by omega⟩ ⟨by omega, by omega⟩ ⟨by omega, by omega⟩
    · split
      · exact chk_mkS (.inr (.inr (.inl ⟨rfl, rfl, rfl, rfl, rfl⟩))) ⟨by omega, by omega⟩ ⟨by omega, by omega⟩ ⟨by omega, by omega⟩
      · exact chk_mkS (.inr (.inr (.inr ⟨rfl, rfl, rfl, rfl, hb⟩))) ⟨by omega, by omega⟩ ⟨by omega, by omega⟩ ⟨by omega, by omega⟩
theorem frS_bo {x : Sm} (hb : x.bo.size ≤ 200) : (frS x).bo.size ≤ 200 := by
  unfold frS mkS
  split
  · exact hb
  · split
    · exact Nat.zero_le _
    · split
      · exact Nat.zero_le _
      · exact hb
theorem len_bounds (f : Fr) (h : isK f.kd) : 10 ≤ len f ∧ len f ≤ 32 := by
  unfold len
  rw [if_neg (not_not_intro h)]
  refine ⟨?_, ?_⟩ <;> (repeat' split) <;> omega
/-- The octets of such a frame: from 14 to 236. -/
theorem enc_size {x : Sm} (hb : x.bo.size ≤ 200) : enc (frS x) = st (sealed (body (frS x))) ∧ 14 ≤ (sealed (body (frS x))).length ∧ (sealed (body (frS x))).length ≤ 236 := by
  have hc := chk_frS hb
  have hl := body_len hc
  have hk := (chk_of hc).1
  have h1 := len_bounds _ hk
  have h2 := frS_bo hb
  rw [sealed_len]
  exact ⟨if_pos hc, by omega, by omega⟩

/-! ### One octet changed -/
theorem mul_xor (a b : Nat) : 2 ^ 8 * (a ^^^ b) = 2 ^ 8 * a ^^^ 2 ^ 8 * b := by
  apply Nat.eq_of_testBit_eq
  intro j
  rw [Nat.testBit_xor, Nat.mul_comm, Nat.testBit_mul_two_pow, Nat.mul_comm (2 ^ 8) a, Nat.testBit_mul_two_pow, Nat.mul_comm (2 ^ 8) b, Nat.testBit_mul_two_pow, Nat.testBit_xor]
  by_cases hj : 8 ≤ j <;> simp [hj]
theorem val_set_xor (by_ : Nat) (hb : by_ < 256) : ∀ (l : List UInt8) (j : Nat) (h : j < l.length), val (l.set j (UInt8.ofNat (l[j].toNat ^^^ by_))) = val l ^^^ 2 ^ (8 * j) * by_ := by
  intro l
  induction l with
  | nil => intro j h; cases h
  | cons o l ih =>
    intro j h
    cases j with
    | zero =>
      have hlt : o.toNat ^^^ by_ < 2 ^ 8 := Nat.xor_lt_two_pow o.toNat_lt hb
      rw [List.set_cons_zero, List.getElem_cons_zero, val_cons_xor, val_cons_xor, UInt8.toNat_ofNat', Nat.mod_eq_of_lt hlt, Nat.mul_zero, Nat.pow_zero, Nat.one_mul, Nat.xor_assoc, Nat.xor_comm by_, ← Nat.xor_assoc]
    | succ j =>
      rw [List.set_cons_succ, List.getElem_cons_succ, val_cons_xor, val_cons_xor, ih j (by simpa using h), mul_xor, ← Nat.xor_assoc, ← Nat.mul_assoc, ← Nat.pow_add]
      congr 3
      omega
/-- Of sealed octets of which one is changed, the last four are not the checksum of those before them. -/
theorem changed {L : List UInt8} {j by_ : Nat} (hb : by_ < 256) (h0 : ¬ by_ = 0) (hj : j < (sealed L).length) :
    ¬ ((sealed L).set j (UInt8.ofNat ((sealed L)[j].toNat ^^^ by_))).drop L.length = le (crc (((sealed L).set j (UInt8.ofNat ((sealed L)[j].toNat ^^^ by_))).take L.length)) 4 := by
  have hv := val_set_xor by_ hb (sealed L) j hj
  have hl : ((sealed L).set j (UInt8.ofNat ((sealed L)[j].toNat ^^^ by_))).length = L.length + 4 := by rw [List.length_set, sealed_len]
  rw [sealed_len] at hj
  generalize (sealed L).set j (UInt8.ofNat ((sealed L)[j].toNat ^^^ by_)) = T at *
  exact detects L (T.take L.length) (T.drop L.length) by_ (8 * j) (by rw [List.length_drop]; omega) (by rw [List.length_take]; omega) (by omega) h0 (by omega) (by rw [List.take_append_drop]; exact hv)
end Go.Tc
