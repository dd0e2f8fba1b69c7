/-
  Texts that the proof rests on, put together: Concat.
-/
import Derived.Test.YtooghbejbjfakaaGreatDoorMgO8
import Derived.Test.YtooghbejbjfakaaGreatDoorMgO6
import Derived.LoopN
import Derived.Lib.AppendZerosOnto
