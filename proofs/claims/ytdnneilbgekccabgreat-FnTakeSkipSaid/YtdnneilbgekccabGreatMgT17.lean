/-
  Texts that the proof rests on, put together: Concat.
-/
import Derived.Test.YtdnneilbgekccabGreatMgT7
import Derived.Test.YtdnneilbgekccabGreatMgT5
import Derived.LoopN
import Derived.Lib.AppendZerosOnto
