/-
  Texts that the proof rests on, put together: SortO.
-/
import Derived.Test.YtdnneilbgekccabMgR17
import Derived.Test.YtdnneilbgekccabMgR20
import Derived.Test.YtdnneilbgekccabMgR11
import Derived.Deep.RegionHeld3
