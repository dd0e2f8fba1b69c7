/-
  The table of powers of ten in a world that grows; quoted texts.
-/
import Derived.Test.YtooghbejbjfakaaDoorFmt
namespace Go.Proofs.YtooghbejbjfakaaDoor
open Go.RowKit
set_option linter.unusedVariables false

def PowOk (w : World) : Prop := Pow w ∧ 1 < w.heap.size
theorem PowOk.later {w w' : World} (h : PowOk w) (hb : Below w.heap.size w w') : PowOk w' := ⟨h.1.below hb h.2, Nat.lt_of_lt_of_le h.2 hb.size⟩
set_option maxHeartbeats 400000 in
theorem quoted_any (q : ByteArray) (w : World) (h : q.size ≤ 2000000000000) : Calls Tryd.prog 21 #[.string q] w fun e w' => ∃ r, e = .returned (.string r) ∧ r = ⟨#[34]⟩ ++ q ++ ⟨#[34]⟩ ∧ r.size = q.size + 2 ∧ Below w.heap.size w w' := by
  go_enter Tryd.func21, Tryd.ntmps21
  go_wp2_with fail
  go_ret
  exact ⟨_, rfl, rfl, by rw [ByteArray.size_append, ByteArray.size_append]; show 1 + q.size + 1 = q.size + 2; omega, Below.refl _ _⟩
end Go.Proofs.YtooghbejbjfakaaDoor
