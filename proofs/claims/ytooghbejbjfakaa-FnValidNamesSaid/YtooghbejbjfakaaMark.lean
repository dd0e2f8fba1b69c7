/-
  The marks that the laws write into an answer's memory and look for again (markText, markStringS, heldStringS).
-/
import Derived.Test.YtooghbejbjfakaaRowOf
import Derived.Test.YtooghbejbjfakaaDigs
import Derived.Deep.RegionHeld3
namespace Go.Proofs.Ytooghbejbjfakaa
open Go.RowKit
set_option linter.unusedVariables false

/-- The mark of number k. -/
def mkT (k : Nat) : ByteArray := if k = 0 then ⟨#[109, 48]⟩ else ⟨(109 :: digs k).toArray⟩

end Go.Proofs.Ytooghbejbjfakaa
