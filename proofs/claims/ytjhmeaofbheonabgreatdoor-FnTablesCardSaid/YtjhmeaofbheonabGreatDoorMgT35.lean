/-
  Texts that the proof rests on, put together: ErrLaw.
-/
import Derived.Test.YtjhmeaofbheonabGreatDoorMgT34
import Derived.Test.YtjhmeaofbheonabGreatDoorMgT27
import Derived.Test.YtjhmeaofbheonabGreatDoorMgT10
import Derived.Test.YtjhmeaofbheonabGreatDoorMgT5
/-
  The law FnErrors.
-/

namespace Go.Proofs.YtjhmeaofbheonabGreatDoor
open Go.RowKit
set_option linter.unusedVariables false

theorem SV_err (n : Int) : (vErr n).SV ↔ 1 ≤ n ∧ n ≤ 8 := by
  have h := SV_mk 6 n 0 ⟨#[]⟩ [] [] []
  show Dt.SV (.agg [.int 6, .int n, .int 0, .str ⟨#[]⟩, .lst [], .lst (([] : List ByteArray).map .str), .lst []]) ↔ _
  rw [h]
  constructor
  · rintro (h | h | h | h | h | h)
    · exact absurd h.1 (by decide)
    · exact absurd h.1 (by decide)
    · exact absurd h.1 (by decide)
    · exact absurd h.1 (by decide)
    · exact absurd h.1 (by decide)
    · exact h.2.1
  · intro h
    exact .inr (.inr (.inr (.inr (.inr ⟨rfl, h, rfl, rfl, rfl, rfl, rfl⟩))))
end Go.Proofs.YtjhmeaofbheonabGreatDoor
