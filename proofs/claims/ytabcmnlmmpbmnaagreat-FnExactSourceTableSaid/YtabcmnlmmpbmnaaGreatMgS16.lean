/-
  Texts that the proof rests on, put together: Concat.
-/
import Derived.Test.YtabcmnlmmpbmnaaGreatMgS10
import Derived.Test.YtabcmnlmmpbmnaaGreatMgS5
import Derived.LoopN
import Derived.Lib.AppendZerosOnto
