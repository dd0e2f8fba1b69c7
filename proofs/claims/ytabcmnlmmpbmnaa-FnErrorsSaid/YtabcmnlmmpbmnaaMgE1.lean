/-
  Texts that the proof rests on, put together: SplitMath.
-/
import Derived.Lib.SplitLaws
import Derived.Lib.Split
import Derived.Lib.IndexBytes
/-
  Plain facts on cutting a text at a byte: no program in this text.
-/

namespace Go.Proofs.Ytabcmnlmmpbmnaa
open Go.Lib
set_option linter.unusedVariables false

/-- A byte ahead of the first piece. -/
def hd (b : UInt8) : List (List UInt8) → List (List UInt8)
  | [] => [[b]]
  | x :: r => (b :: x) :: r
end Go.Proofs.Ytabcmnlmmpbmnaa
