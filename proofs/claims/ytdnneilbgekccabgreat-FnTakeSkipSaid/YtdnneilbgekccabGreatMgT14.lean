/-
  Texts that the proof rests on, put together: OpTab, SymLaw.
-/
import Derived.Test.YtdnneilbgekccabGreatMgT4
import Derived.Deep.RegionHeld3
import Derived.Deep.RegionLaw
import Derived.Laws.EntriesVeiled
import Derived.Test.YtdnneilbgekccabGreatMgT9
/-
  OpSymbol, the program's and the model's, and the law FnExactOpSymbol. (Written by genoptab.py.)
-/

namespace Go.Proofs.YtdnneilbgekccabGreat
open Go.RowKit
set_option linter.unusedVariables false

theorem opCases (op : Int) : op = 1 ∨ op = 2 ∨ op = 3 ∨ op = 4 ∨ op = 5 ∨ op < 1 ∨ 5 < op := by omega

end Go.Proofs.YtdnneilbgekccabGreat
