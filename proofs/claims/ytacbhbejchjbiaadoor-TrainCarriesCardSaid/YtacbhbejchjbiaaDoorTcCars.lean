/-
  TrainCarries: the frames' octets in their aggregate; one frame changed.
-/
import Derived.Test.YtacbhbejchjbiaaDoorTcAwake
import Derived.Test.YtacbhbejchjbiaaDoorFmFlip
namespace Go.Tn
theorem ps_le (L : List (List UInt8)) {i : Nat} (h : i < L.length) : ps 0 L i + L[i].length ≤ (ag 0 L).length := by
  have e := ag_len L 0
  have e1 : ln 0 ((L.take (i + 1)).map List.length) = ps 0 L i + L[i].length := by
    rw [List.take_succ_eq_append_getElem h, List.map_append, ln_append]; rfl
  have e2 : ln 0 ((L.take (i + 1)).map List.length) ≤ ln 0 (L.map List.length) := by
    have : L = L.take (i + 1) ++ L.drop (i + 1) := (List.take_append_drop _ _).symm
    conv => rhs; rw [this]
    rw [List.map_append, ln_append]
    exact ln_ge _ _
  omega
/-- An octet of a frame, in the aggregate. -/
theorem ag_get : ∀ (L : List (List UInt8)) (o i k : Nat) (h : i < L.length) (hk : k < L[i].length), (ag o L)[ps o L i - o + k]? = some L[i][k] := by
  intro L
  induction L with
  | nil => intro o i k h; cases h
  | cons x L ih =>
    intro o i k h hk
    have hu := up_ge o
    cases i with
    | zero =>
      have e : ps o (x :: L) 0 = up o + 4 := rfl
      simp only [List.getElem_cons_zero] at hk
      rw [e, ag]
      rw [List.getElem?_append_right (by rw [zs_len]; omega), List.getElem?_append_right (by rw [zs_len, del_len]; omega), List.getElem?_append_left (by rw [zs_len, del_len]; omega), zs_len, del_len]
      rw [show up o + 4 - o + k - (up o - o) - 4 = k by omega]
      simp [hk]
    | succ i =>
      have e : ps o (x :: L) (i + 1) = ps (up o + 4 + x.length) L i := rfl
      have hg := ps_ge L (up o + 4 + x.length) i
      simp only [List.getElem_cons_succ] at hk
      rw [e, ag]
      rw [List.getElem?_append_right (by rw [zs_len]; omega), List.getElem?_append_right (by rw [zs_len, del_len]; omega), List.getElem?_append_right (by rw [zs_len, del_len]; omega), zs_len, del_len]
      rw [show ps (up o + 4 + x.length) L i - o + k - (up o - o) - 4 - x.length = ps (up o + 4 + x.length) L i - (up o + 4 + x.length) + k by omega]
      exact ih _ i k (by simpa using h) hk
theorem fs_at {l : List ByteArray} {k : Nat} (h : k < (fs l).length) (h2 : k < l.length) : (fs l)[k] = l[k].data.toList := List.getElem_map (fun s : ByteArray => s.data.toList)
theorem car_at {L M : List (List UInt8)} {m i : Nat} (hm : Mx L m M) (h : i < M.length) : (cars 0 M)[i]? = some ⟨((ps 0 L i : Nat) : Int), ⟨M[i].toArray⟩⟩ := by
  rw [cars_get M 0 i h, hm.ps]
end Go.Tn
namespace Go.Proofs.YtacbhbejchjbiaaDoor
open Go.RowKit Go.Hd Go.Wr Go.Ck Go.Tc Go.Fm Go.Tn

/-- The octets of the frames. -/
def es (l : List Sm) : List ByteArray := l.map fun x => enc (frS x)
theorem es_len (l : List Sm) : (es l).length = l.length := List.length_map ..
theorem es_at {l : List Sm} {k : Nat} (h : k < (es l).length) (h2 : k < l.length) : (es l)[k] = enc (frS l[k]) := List.getElem_map (fun x => enc (frS x))
theorem es_take {l : List Sm} {k : Nat} (h : k < l.length) : es (l.take (k + 1)) = es (l.take k) ++ [enc (frS l[k])] := by
  rw [List.take_succ_eq_append_getElem h]; unfold es; rw [List.map_append]; rfl
theorem es_ok {l : List Sm} (h0 : 0 < l.length) (h8 : l.length ≤ 8) (hb : ∀ j (hj : j < l.length), l[j].bo.size ≤ 200) : eE (es l) = 0 := by
  refine few_fit (by rw [es_len]; exact h0) (by rw [es_len]; exact h8) fun s hs => ?_
  obtain ⟨x, hx, rfl⟩ := List.mem_map.1 hs
  obtain ⟨j, hj, rfl⟩ := List.getElem_of_mem hx
  exact enc_bounds (hb j hj)
/-- One octet of one of them changed. -/
theorem dec_changed {x : Sm} (hb : x.bo.size ≤ 200) {j v : Nat} (hv : v < 256) (h0 : ¬ v = 0) {Q : List UInt8} (hQ : Q = (enc (frS x)).data.toList) (hj : j < Q.length) :
    dec ⟨(Q.set j (UInt8.ofNat (Q[j].toNat ^^^ v))).toArray⟩ = (Fr_.zf, 5) := by
  have he := (enc_size hb).1
  have hq : Q = sealed (body (frS x)) := by rw [hQ, he, st_data]
  subst hq
  have hc := changed hv h0 hj
  have hlen : ((sealed (body (frS x))).set j (UInt8.ofNat ((sealed (body (frS x)))[j].toNat ^^^ v))).length = (body (frS x)).length + 4 := by rw [List.length_set, sealed_len]
  have ho := opn_of _ _ hlen
  rw [if_neg hc] at ho
  unfold dec
  have e : (⟨((sealed (body (frS x))).set j (UInt8.ofNat ((sealed (body (frS x)))[j].toNat ^^^ v))).toArray⟩ : ByteArray) = Go.Fm.st ((sealed (body (frS x))).set j (UInt8.ofNat ((sealed (body (frS x)))[j].toNat ^^^ v))) := rfl
  rw [e, ho]
  exact if_neg (by decide)
theorem smw_of {x : Sm} (h : (Lit.int .u8 x.kd).wf = true ∧ (Lit.int .u16 x.sq).wf = true ∧ (Lit.int .u8 x.ct).wf = true) : SmW x := by
  obtain ⟨h1, h2, h3⟩ := h
  simp [Lit.wf, IntKind.min, IntKind.max, IntKind.signed, IntKind.bits] at h1 h2 h3
  exact ⟨⟨by omega, by omega⟩, ⟨by omega, by omega⟩, by omega, by omega⟩
theorem tc_u16 {a : Int} (h : (Lit.int .u16 a).wf = true) : ∃ n : Nat, a = n ∧ n < 65536 := by
  simp [Lit.wf, IntKind.min, IntKind.max, IntKind.signed, IntKind.bits] at h
  exact ⟨a.toNat, by omega, by omega⟩
theorem tc_u8 {a : Int} (h : (Lit.int .u8 a).wf = true) : ∃ n : Nat, a = n ∧ n < 256 := by
  simp [Lit.wf, IntKind.min, IntKind.max, IntKind.signed, IntKind.bits] at h
  exact ⟨a.toNat, by omega, by omega⟩
theorem tc_rem {a n : Nat} (ha : a < 65536) : (wrap64 (a : Int)).tmod (n : Int) = ((a % n : Nat) : Int) ∧ wrap64 (a : Int) = a ∧ IntKind.i64.wrap (a : Int) = a ∧ ((a : Int)).tmod (n : Int) = ((a % n : Nat) : Int) := by
  have e : wrap64 (a : Int) = a := IntWalk.wrap64_in _ (by omega)
  refine ⟨?_, e, IntWalk.i64_in _ (by omega), ?_⟩
  · rw [e, Int.tmod_eq_emod_of_nonneg (by omega)]; simp
  · rw [Int.tmod_eq_emod_of_nonneg (by omega)]; simp
end Go.Proofs.YtacbhbejchjbiaaDoor
