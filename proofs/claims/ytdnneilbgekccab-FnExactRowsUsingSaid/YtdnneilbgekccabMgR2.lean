/-
  Texts that the proof rests on, put together: NameMath.
-/
import Derived.Test.YtdnneilbgekccabRows
import Derived.Lib.SlicesCompact
import Derived.Lib.SlicesS
import Derived.Sort.Walk0
