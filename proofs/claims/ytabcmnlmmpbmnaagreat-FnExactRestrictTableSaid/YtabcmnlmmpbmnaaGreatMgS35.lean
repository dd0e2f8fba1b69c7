/-
  Texts that the proof rests on, put together: ColIdx.
-/
import Derived.Test.YtabcmnlmmpbmnaaGreatMgS33
import Derived.Test.YtabcmnlmmpbmnaaGreatMgS11
import Derived.Test.YtabcmnlmmpbmnaaGreatMgS5
import Derived.Maps.Views
import Derived.Deep.RegionLaw
import Derived.Deep.RegionHeld3
import Derived.Outline
