/-
  The library contracts of this translation that speak of texts.
-/
import Derived.Test.YtooghbejbjfakaaDoorShelf
