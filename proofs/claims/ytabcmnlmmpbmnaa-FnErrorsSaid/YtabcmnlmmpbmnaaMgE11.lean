/-
  Texts that the proof rests on, put together: Txt, SParse.
-/
import Derived.Test.YtabcmnlmmpbmnaaMgE2
import Derived.Test.YtabcmnlmmpbmnaaMgE1
import Derived.Test.YtabcmnlmmpbmnaaMgE6
import Derived.Test.YtabcmnlmmpbmnaaMgE8
import Derived.Lib.Join
/-
  The representations of values, and which values they are of: no program in this text.
-/

namespace Go.Proofs.Ytabcmnlmmpbmnaa
open Go.Lib
set_option linter.unusedVariables false

def vErr (n : Int) : Dt := .agg [.int 6, .int n, .int 0, .str ⟨#[]⟩, .lst [], .lst [], .lst []]
def eNames : List (List UInt8) := [[109, 105, 115, 115, 105, 110, 103], [100, 117, 112, 108, 105, 99, 97, 116, 101], [99, 121, 99, 108, 101], [116, 121, 112, 101], [114, 97, 110, 103, 101], [108, 105, 109, 105, 116], [99, 111, 108, 117, 109, 110], [115, 121, 110, 116, 97, 120]]
def eName (n : Int) : List UInt8 := if 1 ≤ n ∧ n ≤ 8 then eNames.getD (n.toNat - 1) [] else [63]
def eCode (s : List UInt8) : Int := if s ∈ eNames then (eNames.idxOf s : Nat) + 1 else 0

/-! ### numerals -/
def isDg (c : UInt8) : Bool := decide (48 ≤ c.toNat) && decide (c.toNat ≤ 57)
/-! ### lengths -/
end Go.Proofs.Ytabcmnlmmpbmnaa

/-
  What the model reads of a text: every valid value without origins is read from its representation.
-/

namespace Go.Proofs.Ytabcmnlmmpbmnaa
open Go.Lib
set_option linter.unusedVariables false

/-! ### what the model reads -/
/-! ### every value is read from its representation -/
/-- Nothing that would go on with a numeral. -/
def Stop (r : List UInt8) : Prop := ∀ c, r.head? = some c → isDg c = false
theorem Stop.nil : Stop [] := by simp [Stop]
theorem Stop.cons {c : UInt8} {r : List UInt8} (h : isDg c = false) : Stop (c :: r) := by
  intro d hd; simp at hd; subst hd; exact h
theorem eCode_name (n : Int) (h1 : 1 ≤ n) (h8 : n ≤ 8) : eCode (eName n) = n := by
  have : n = 1 ∨ n = 2 ∨ n = 3 ∨ n = 4 ∨ n = 5 ∨ n = 6 ∨ n = 7 ∨ n = 8 := by omega
  rcases this with rfl | rfl | rfl | rfl | rfl | rfl | rfl | rfl <;> decide
end Go.Proofs.Ytabcmnlmmpbmnaa
