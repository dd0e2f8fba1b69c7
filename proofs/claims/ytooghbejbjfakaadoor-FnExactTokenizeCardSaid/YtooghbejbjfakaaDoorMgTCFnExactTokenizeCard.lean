/-
  At every text the program's Tokenize answers as the model's, and its answer owns its memory (the law FnExactTokenize). Conditions: the listed library variables hold what their initialisers lay, which the card ties to the program's text.
-/
import Derived.Test.YtooghbejbjfakaaDoorCards
import Derived.Test.YtooghbejbjfakaaDoorTie
import Derived.Test.YtooghbejbjfakaaDoorMgT16

namespace Go.Proofs.YtooghbejbjfakaaDoor.fnExactTokenize
open Go.ChangeShapes Go.WideShapes Go.ChangeAt Go.RowKit
set_option linter.unusedVariables false

theorem plain (f : FuncId) (fn : Func) (hf : Tryd.pinned.checked.prog.funcNamed "loop.example/g00510/laws.FnExactTokenize" = some f) (hfn : Tryd.pinned.checked.prog.funcs[f]? = some fn) :
    true = Tryd.pinned.checked.prog.looks [] ∧ ∀ (j : Nat) t, fn.params[j]? = some t → Tryd.pinned.checked.prog.wantsStandIn t = false := by
  obtain rfl : f = 5 := Option.some.inj ((show Tryd.prog.funcNamed "loop.example/g00510/laws.FnExactTokenize" = some 5 by kernel_rfl).symm.trans hf) |>.symm
  obtain rfl : fn = Tryd.f5 := (Option.some.inj (Tryd.func5.symm.trans hfn)).symm
  refine ⟨by kernel_rfl, fun j t ht => ?_⟩
  rw [Tryd.params5] at ht
  have hm : t ∈ [9] := by simpa using Array.mem_of_getElem? ht
  have hall : ([9].all fun u => !Tryd.prog.wantsStandIn u) = true := by kernel_rfl
  exact (show Tryd.prog.wantsStandIn t = false by simpa using List.all_eq_true.1 hall t hm)

theorem k1 : OpenClaim.wfByText (OpenSpec.ofChange Rows.fnExactTokenizeSpec) Rows.fnExactTokenizeRow = true := by kernel_rfl
theorem k2 : Tryd.pinned.checked.prog.mainIs = some (Rows.fnExactTokenizeCard.stood.harness.1, Rows.fnExactTokenizeCard.stood.harness.2.toList) := by kernel_rfl
theorem k3 : false = OpenClaim.goesBy Rows.fnExactTokenizeRow Tryd.pinned.checked.prog := by kernel_rfl
theorem card : Rows.FnExactTokenizeCardSaid :=
  Claim7.holds_tied_plain_at .later [] _ _ _ _ said (fun _ h => by cases h) k1 (fun _ h => by cases h) fnExactTokenize_row_tie rfl ⟨rfl, rfl⟩ k2 rfl plain k3
#print axioms card
end Go.Proofs.YtooghbejbjfakaaDoor.fnExactTokenize
