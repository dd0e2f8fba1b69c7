/-
  Texts that the proof rests on, put together: Shelf.
-/
import Derived.Test.YtmoacmlkmclfoaaProg
