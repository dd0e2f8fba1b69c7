/-
  Texts that the proof rests on, put together: Orgs.
-/
import Derived.Test.YtjhmeaofbheonabGreatDoorMgT21
import Derived.Test.YtjhmeaofbheonabGreatDoorMgT10
import Derived.Test.YtjhmeaofbheonabGreatDoorMgT13
import Derived.Test.YtjhmeaofbheonabGreatDoorMgT8
/-
  Rows of origins. (Written by gen8.py.)
-/

namespace Go.Proofs.YtjhmeaofbheonabGreatDoor
open Go.RowKit Go.Lib Go.Sort
set_option linter.unusedVariables false
set_option linter.unusedSimpArgs false

end Go.Proofs.YtjhmeaofbheonabGreatDoor
