/-
  Texts that the proof rests on, put together: Concat.
-/
import Derived.Test.YtooghbejbjfakaaGreatMgA7
import Derived.Test.YtooghbejbjfakaaGreatMgA5
import Derived.LoopN
import Derived.Lib.AppendZerosOnto
