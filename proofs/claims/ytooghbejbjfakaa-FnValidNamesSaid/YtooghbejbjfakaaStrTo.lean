/-
  A copy of a slice of strings (toStringS).
-/
import Derived.Test.YtooghbejbjfakaaRowOf
namespace Go.Proofs.Ytooghbejbjfakaa
open Go.RowKit
set_option linter.unusedVariables false

/-- How far the copy has come: the first k cells are the strings, the rest are empty. -/
def copied (ss : List ByteArray) (k : Nat) : List Value := (strV ss).take k ++ List.replicate (ss.length - k) (.string ⟨#[]⟩)
theorem copied_zero (ss : List ByteArray) : copied ss 0 = List.replicate ss.length (.string ⟨#[]⟩) := by simp [copied]
theorem copied_all (ss : List ByteArray) : copied ss ss.length = strV ss := by
  unfold copied
  rw [List.take_of_length_le (by simp [strV])]
  simp
theorem copied_set (ss : List ByteArray) (k : Nat) (hk : k < ss.length) : (copied ss k).set k (.string ss[k]) = copied ss (k + 1) := by
  unfold copied
  have hl : ((strV ss).take k).length = k := by simp [strV]; omega
  rw [List.set_append_right _ _ (by omega), hl, Nat.sub_self, show ss.length - k = (ss.length - (k + 1)) + 1 by omega, List.replicate_succ, List.set_cons_zero,
    List.take_succ_eq_append_getElem (show k < (strV ss).length by simp [strV]; exact hk), List.append_assoc]
  simp [strV]
theorem copied_len (ss : List ByteArray) (k : Nat) (hk : k ≤ ss.length) : (copied ss k).length = ss.length := by simp [copied, strV]; omega

end Go.Proofs.Ytooghbejbjfakaa
