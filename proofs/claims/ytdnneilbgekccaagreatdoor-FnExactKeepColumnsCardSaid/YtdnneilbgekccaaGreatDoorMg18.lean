/-
  Texts that the proof rests on, put together: Concat.
-/
import Derived.Test.YtdnneilbgekccaaGreatDoorMg11
import Derived.Test.YtdnneilbgekccaaGreatDoorMg7
import Derived.LoopN
import Derived.Lib.AppendZerosOnto
