/-
  Texts that the proof rests on, put together: Concat.
-/
import Derived.Test.YtdnneilbgekccabGreatMgR14
import Derived.Test.YtdnneilbgekccabGreatMgR7
import Derived.LoopN
import Derived.Lib.AppendZerosOnto
