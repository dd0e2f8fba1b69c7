/-
  At every token the program's FormatToken answers as the model's (the law FnExactFormatToken). Conditions: the listed library variables hold what their initialisers lay, which the card ties to the program's text.
-/
import Derived.Test.YtooghbejbjfakaaDoorCards
import Derived.Test.YtooghbejbjfakaaDoorTie
import Derived.Test.YtooghbejbjfakaaDoorFnExactFormatTokenSaid
namespace Go.Proofs.YtooghbejbjfakaaDoor.fnExactFormatToken
open Go.ChangeShapes Go.WideShapes Go.ChangeAt Go.RowKit
set_option linter.unusedVariables false

theorem plain (f : FuncId) (fn : Func) (hf : Tryd.pinned.checked.prog.funcNamed "loop.example/g00510/laws.FnExactFormatToken" = some f) (hfn : Tryd.pinned.checked.prog.funcs[f]? = some fn) :
    true = Tryd.pinned.checked.prog.looks [] ∧ ∀ (j : Nat) t, fn.params[j]? = some t → Tryd.pinned.checked.prog.wantsStandIn t = false := by
  obtain rfl : f = 3 := Option.some.inj ((show Tryd.prog.funcNamed "loop.example/g00510/laws.FnExactFormatToken" = some 3 by kernel_rfl).symm.trans hf) |>.symm
  obtain rfl : fn = Tryd.f3 := (Option.some.inj (Tryd.func3.symm.trans hfn)).symm
  refine ⟨by kernel_rfl, fun j t ht => ?_⟩
  rw [Tryd.params3] at ht
  have hm : t ∈ [23] := by simpa using Array.mem_of_getElem? ht
  have hall : ([23].all fun u => !Tryd.prog.wantsStandIn u) = true := by kernel_rfl
  exact (show Tryd.prog.wantsStandIn t = false by simpa using List.all_eq_true.1 hall t hm)

theorem k1 : OpenClaim.wfByText (OpenSpec.ofChange Rows.fnExactFormatTokenSpec) Rows.fnExactFormatTokenRow = true := by kernel_rfl
theorem k2 : Tryd.pinned.checked.prog.mainIs = some (Rows.fnExactFormatTokenCard.stood.harness.1, Rows.fnExactFormatTokenCard.stood.harness.2.toList) := by kernel_rfl
theorem k3 : false = OpenClaim.goesBy Rows.fnExactFormatTokenRow Tryd.pinned.checked.prog := by kernel_rfl
theorem card : Rows.FnExactFormatTokenCardSaid :=
  Claim7.holds_tied_plain_at .later [] _ _ _ _ said (fun _ h => by cases h) k1 (fun _ h => by cases h) fnExactFormatToken_row_tie rfl ⟨rfl, rfl⟩ k2 rfl plain k3
#print axioms card
end Go.Proofs.YtooghbejbjfakaaDoor.fnExactFormatToken
