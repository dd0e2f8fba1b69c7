/-
  Texts that the proof rests on, put together: Concat.
-/
import Derived.Test.YtincakhojffemaaGreatMgH6
import Derived.Test.YtincakhojffemaaGreatMgH4
import Derived.LoopN
import Derived.Lib.AppendZerosOnto
