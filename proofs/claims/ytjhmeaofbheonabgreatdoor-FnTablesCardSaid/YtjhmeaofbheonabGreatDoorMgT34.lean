/-
  Texts that the proof rests on, put together: Err.
-/
import Derived.Test.YtjhmeaofbheonabGreatDoorMgT19
import Derived.Test.YtjhmeaofbheonabGreatDoorMgT23
import Derived.Test.YtjhmeaofbheonabGreatDoorMgT8
