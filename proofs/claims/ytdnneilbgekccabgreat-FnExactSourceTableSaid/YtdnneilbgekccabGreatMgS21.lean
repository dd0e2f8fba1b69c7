/-
  Texts that the proof rests on, put together: Concat.
-/
import Derived.Test.YtdnneilbgekccabGreatMgS14
import Derived.Test.YtdnneilbgekccabGreatMgS7
import Derived.LoopN
import Derived.Lib.AppendZerosOnto
