/-
  Texts that the proof rests on, put together: Concat.
-/
import Derived.Test.YtdnneilbgekccabMg9
import Derived.Test.YtdnneilbgekccabMg6
import Derived.LoopN
import Derived.Lib.AppendZerosOnto
