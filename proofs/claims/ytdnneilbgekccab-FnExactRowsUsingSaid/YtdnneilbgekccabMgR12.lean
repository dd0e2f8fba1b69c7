/-
  Texts that the proof rests on, put together: Concat.
-/
import Derived.Test.YtdnneilbgekccabMgR9
import Derived.Test.YtdnneilbgekccabMgR6
import Derived.LoopN
import Derived.Lib.AppendZerosOnto
