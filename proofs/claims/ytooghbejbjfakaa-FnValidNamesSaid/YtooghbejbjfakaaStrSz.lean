/-
  The strings' lengths together (szStringS).
-/
import Derived.Test.YtooghbejbjfakaaRowOf
namespace Go.Proofs.Ytooghbejbjfakaa
open Go.RowKit
set_option linter.unusedVariables false

/-- szStringS's answer: above -1 exactly where the strings fit, and then what is left. -/
def SzS (ss : List ByteArray) (left r : Int) : Prop := (0 ≤ r → (ss.length : Int) + tot ss ≤ left) ∧ r ≤ left

end Go.Proofs.Ytooghbejbjfakaa
