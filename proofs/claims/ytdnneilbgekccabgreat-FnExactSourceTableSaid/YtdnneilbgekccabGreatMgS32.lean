/-
  Texts that the proof rests on, put together: ConO.
-/
import Derived.Test.YtdnneilbgekccabGreatMgS30
import Derived.Test.YtdnneilbgekccabGreatMgS21
