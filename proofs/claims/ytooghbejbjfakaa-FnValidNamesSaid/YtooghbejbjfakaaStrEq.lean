/-
  Two slices of strings compared (eqStringS).
-/
import Derived.Test.YtooghbejbjfakaaRowOf
namespace Go.Proofs.Ytooghbejbjfakaa
open Go.RowKit
set_option linter.unusedVariables false

end Go.Proofs.Ytooghbejbjfakaa
