/-
  Texts that the proof rests on, put together: ConO.
-/
import Derived.Test.YtdnneilbgekccabMgR18
import Derived.Test.YtdnneilbgekccabMgR12
