/-
  Texts that the proof rests on, put together: Digs.
-/
import Derived.Test.YtjhmeaofbheonabGreatDoorRows
import Derived.WalkKit
import Derived.WalkSpells
import Derived.WalkLawsBesides
import Derived.Lib.ItoaNum
import Derived.Lib.ItoaLen
import Derived.Lib.Hide
import Derived.Laws.IdiomStrings
/-
  Digits as texts, and one-byte rows turned into texts: what the number laws and the marks share.
-/

namespace Go.Proofs.YtjhmeaofbheonabGreatDoor
open Go.RowKit
set_option linter.unusedVariables false

/-- The digits of u behind which 'out' stands: empty for 0. -/
def digs (u : Nat) : List UInt8 := if u = 0 then [] else Go.Lib.decDigits u

end Go.Proofs.YtjhmeaofbheonabGreatDoor
