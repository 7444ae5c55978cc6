/-
  WHAT THE PROGRAM's FUNCTIONS OF LAYER 5 DO, as the laws' walks ask it: a structure of contracts (XAdDone proves it over the landed code).
-/
import Derived.Test.YtnbcphpjgahgoaaAdRead
import Derived.Test.YtnbcphpjgahgoaaWrReader
import Derived.Test.YtnbcphpjgahgoaaWrDone
namespace Go.Proofs.Ytnbcphpjgahgoaa
open Go.RowKit Go.Wr Go.Ad

structure Does : Prop where
  valid_any : ∀ (a : Nat) (w : World) (_ : a < 18446744073709551616),
    Calls Try.prog 18 #[.int .u64 a] w fun e w' => e = .returned (.bool (vald a)) ∧ w = w'
  group_any : ∀ (a : Nat) (w : World) (_ : a < 18446744073709551616),
    Calls Try.prog 20 #[.int .u64 a] w fun e w' => e = .returned (.bool (grp a)) ∧ w = w'
  node_any : ∀ (n : Int) (w : World) (_ : (Lit.int .i64 n).wf = true),
    Calls Try.prog 23 #[.int .i64 n] w fun e w' => e = .returned (.int .u64 (nod n : Nat)) ∧ w = w'
  number_any : ∀ (a : Nat) (w : World) (_ : a < 18446744073709551616),
    Calls Try.prog 16 #[.int .u64 a] w fun e w' => e = .returned (.tuple #[.int .i64 ((num a).1 : Nat), .bool (num a).2]) ∧ w = w'
  text_any : ∀ (a : Nat) (w : World) (_ : a < 281474976710656),
    Calls Try.prog 13 #[.int .u64 a] w fun e w' => e = .returned (.string ⟨(txt a).toArray⟩) ∧ Below w.heap.size w w'
  text_big : ∀ (a : Int) (w : World) (_ : 281474976710656 ≤ a) (_ : a < 18446744073709551616),
    Calls Try.prog 13 #[.int .u64 a] w fun e w' => e = .returned (.string ⟨#[]⟩) ∧ Below w.heap.size w w'
  parse_any : ∀ (s : ByteArray) (w : World) (_ : s.size ≤ 1000),
    Calls Try.prog 12 #[.string s] w fun e w' => e = .returned (.tuple #[.int .u64 ((if txt (prz s.data.toList) = s.data.toList then prz s.data.toList else 0 : Nat) : Int), .int .i64 (if txt (prz s.data.toList) = s.data.toList then 0 else 3)]) ∧ Below w.heap.size w w'
  write_nil : ∀ (a : Nat) (w : World) (_ : a < 18446744073709551616),
    Calls Try.prog 8 #[.pointer none, .int .u64 a] w fun e w' => e = .returned (.tuple #[]) ∧ Below w.heap.size w w'
  write_ok : ∀ (b : Nat) (L : List UInt8) (a : Nat) (w : World) (_ : Wr w b L) (_ : a < 281474976710656) (_ : L.length ≤ 1000),
    Calls Try.prog 8 #[.pointer (some ⟨b, 0, none⟩), .int .u64 a] w fun e w' => e = .returned (.tuple #[]) ∧ Wr w' b (L ++ be a) ∧ But b w w'
  write_big : ∀ (b : Nat) (L : List UInt8) (a : Int) (w : World) (_ : Wr w b L) (_ : 281474976710656 ≤ a) (_ : a < 18446744073709551616),
    Calls Try.prog 8 #[.pointer (some ⟨b, 0, none⟩), .int .u64 a] w fun e w' => e = .returned (.tuple #[]) ∧ w'.cell? ⟨b, 0, none⟩ = some (.int .i64 4) ∧ But b w w'
  read_nil : ∀ (w : World),
    Calls Try.prog 14 #[.pointer none] w fun e w' => e = .returned (.int .u64 0) ∧ Below w.heap.size w w'
  read_ok : ∀ (b : Nat) (s : ByteArray) (w : World) (_ : Rd w b 0 s) (_ : 6 ≤ s.size),
    Calls Try.prog 14 #[.pointer (some ⟨b, 0, none⟩)] w fun e w' => e = .returned (.int .u64 (bev (s.extract 0 6).data.toList : Nat)) ∧ Rd w' b 0 (s.extract 6 s.size) ∧ But b w w'
  read_short : ∀ (b : Nat) (s : ByteArray) (w : World) (_ : Rd w b 0 s) (_ : s.size < 6),
    Calls Try.prog 14 #[.pointer (some ⟨b, 0, none⟩)] w fun e w' => e = .returned (.int .u64 0) ∧ w'.cell? ⟨b, 0, none⟩ = some (.int .i64 1) ∧ But b w w'
end Go.Proofs.Ytnbcphpjgahgoaa
