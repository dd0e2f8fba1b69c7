/-
  Two slices of strings compared (eqStringS).
-/
import Derived.Test.YtooghbejbjfakaaDoorRowOf
namespace Go.Proofs.YtooghbejbjfakaaDoor
open Go.RowKit
set_option linter.unusedVariables false

end Go.Proofs.YtooghbejbjfakaaDoor
