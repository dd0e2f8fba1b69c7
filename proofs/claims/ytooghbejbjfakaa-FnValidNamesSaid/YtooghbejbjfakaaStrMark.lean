/-
  Marks in a slice of strings (markStringS, heldStringS).
-/
import Derived.Test.YtooghbejbjfakaaMark
namespace Go.Proofs.Ytooghbejbjfakaa
open Go.RowKit
set_option linter.unusedVariables false

/-- n marks from k0 on. -/
def marks (k0 n : Nat) : List Value := (List.range n).map fun i => Value.string (mkT (k0 + i))
theorem marks_len (k0 n : Nat) : (marks k0 n).length = n := by simp [marks]
theorem marks_get (k0 n k : Nat) (h : k < n) : (marks k0 n)[k]? = some (.string (mkT (k0 + k))) := by simp [marks, h]
theorem marks_set (k0 k : Nat) (xs : List Value) (h : k < xs.length) : (marks k0 k ++ xs.drop k).set k (.string (mkT (k0 + k))) = marks k0 (k + 1) ++ xs.drop (k + 1) := by
  rw [List.set_append_right _ _ (by rw [marks_len]; omega), marks_len, Nat.sub_self, List.drop_eq_getElem_cons h, List.set_cons_zero]
  unfold marks
  rw [List.range_succ, List.map_append, List.append_assoc]
  rfl

end Go.Proofs.Ytooghbejbjfakaa
