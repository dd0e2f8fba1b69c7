/-
  Texts that the proof rests on, put together: SortO.
-/
import Derived.Test.YtdnneilbgekccabGreatMgS29
import Derived.Test.YtdnneilbgekccabGreatMgS31
import Derived.Test.YtdnneilbgekccabGreatMgS20
import Derived.Deep.RegionHeld3
