/- Templates: the plain lexer (no walk). -/
import Derived.Test.YtfkgcignlhmodaaEPure
namespace Go.Proofs.Ytfkgcignlhmodaa.LPure
open Go.Proofs.Ytfkgcignlhmodaa.UBase Go.Proofs.Ytfkgcignlhmodaa.EPure
set_option linter.unusedVariables false

/-- A token: its kind, name, text, place. -/
structure Tn where
  k : Nat
  n : ByteArray
  t : ByteArray
  a : Nat
/-- A byte of a tag. -/
def tgb (c : Nat) : Bool := EPure.let' c || (EPure.dig c || c == 45)
def sub (s : ByteArray) (i j : Nat) : ByteArray := s.extract i j
/-- This sign has to stand here. -/
def mst (s : ByteArray) (x : List UInt8) (i : Nat) : Except F Nat := if pre s i x = true then .ok (i + x.length) else .error (1202, i)
/-- A tag: its text and the place behind it. -/
def nam (s : ByteArray) (i : Nat) : Except F (ByteArray × Nat) := if word (sub s i (skp tgb s i)) 45 = true then .ok (sub s i (skp tgb s i), skp tgb s i) else .error (1202, i)
/-- The first place from i on where this stands. -/
def fnd (s : ByteArray) (x : List UInt8) : Nat → Nat → Option Nat
  | 0, i => if pre s i x = true then some i else none
  | f + 1, i => if pre s i x = true then some i else fnd s x f (i + 1)
def upt (s : ByteArray) (x : List UInt8) (i : Nat) (e : F) : Except F (ByteArray × Nat) := match fnd s x (s.size - i) i with
  | none => .error e
  | some j => .ok (sub s i j, j + x.length)
/-- The end of plain text. -/
def txe (s : ByteArray) : Nat → Nat → Nat
  | 0, i => i
  | f + 1, i => if i < s.size ∧ at' s i ≠ 60 ∧ pre s i [123, 123] = false then txe s f (i + 1) else i
end Go.Proofs.Ytfkgcignlhmodaa.LPure
