/-
  Texts that the proof rests on, put together: NumMath.
-/
import Derived.Lib.ItoaLen
import Derived.Lib.ItoaMem
import Derived.Lib.AtoiAllCases
/-
  Plain facts on decimal numerals: no program in this text.
-/

namespace Go.Proofs.Ytabcmnlmmpbmnaa
open Go.Lib
set_option linter.unusedVariables false

/-- The value of a row of digits; none where a byte is no digit. -/
def digitsVal (acc : Nat) : List UInt8 → Option Nat
  | [] => some acc
  | c :: r => if 48 ≤ c.toNat ∧ c.toNat ≤ 57 then digitsVal (10 * acc + (c.toNat - 48)) r else none

/-- v with its sign. -/
def sg (neg : Bool) (v : Nat) : Int := if neg then -(v : Int) else v
/-- What the model reads behind the sign: t are the digits, l the whole text. -/
def rdB (most : Nat) (neg : Bool) (t l : List UInt8) : Option Int :=
  if t.length < 1 ∨ most < t.length then none
  else (digitsVal 0 t).bind fun v => if itoa (sg neg v) = l then some (sg neg v) else none

/-- What the model reads: an integer of at most 'most' digits whose numeral is l. -/
def rd (most : Nat) (l : List UInt8) : Option Int :=
  if l.head? = some 45 then rdB most true l.tail l else rdB most false l l

end Go.Proofs.Ytabcmnlmmpbmnaa
