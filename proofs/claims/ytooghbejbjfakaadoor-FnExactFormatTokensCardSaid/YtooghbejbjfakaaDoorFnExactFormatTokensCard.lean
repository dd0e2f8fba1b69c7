/-
  At every list of tokens the program's FormatTokens answers as the model's and changes no argument (the law FnExactFormatTokens). Conditions: the listed library variables hold what their initialisers lay, which the card ties to the program's text.
-/
import Derived.Test.YtooghbejbjfakaaDoorCards
import Derived.Test.YtooghbejbjfakaaDoorTie
import Derived.Test.YtooghbejbjfakaaDoorFnExactFormatTokensSaid
namespace Go.Proofs.YtooghbejbjfakaaDoor.fnExactFormatTokens
open Go.ChangeShapes Go.WideShapes Go.ChangeAt Go.RowKit
set_option linter.unusedVariables false

theorem plain (f : FuncId) (fn : Func) (hf : Tryd.pinned.checked.prog.funcNamed "loop.example/g00510/laws.FnExactFormatTokens" = some f) (hfn : Tryd.pinned.checked.prog.funcs[f]? = some fn) :
    true = Tryd.pinned.checked.prog.looks [] ∧ ∀ (j : Nat) t, fn.params[j]? = some t → Tryd.pinned.checked.prog.wantsStandIn t = false := by
  obtain rfl : f = 4 := Option.some.inj ((show Tryd.prog.funcNamed "loop.example/g00510/laws.FnExactFormatTokens" = some 4 by kernel_rfl).symm.trans hf) |>.symm
  obtain rfl : fn = Tryd.f4 := (Option.some.inj (Tryd.func4.symm.trans hfn)).symm
  refine ⟨by kernel_rfl, fun j t ht => ?_⟩
  rw [Tryd.params4] at ht
  have hm : t ∈ [29] := by simpa using Array.mem_of_getElem? ht
  have hall : ([29].all fun u => !Tryd.prog.wantsStandIn u) = true := by kernel_rfl
  exact (show Tryd.prog.wantsStandIn t = false by simpa using List.all_eq_true.1 hall t hm)

theorem k1 : OpenClaim.wfByText (OpenSpec.ofChange Rows.fnExactFormatTokensSpec) Rows.fnExactFormatTokensRow = true := by kernel_rfl
theorem k2 : Tryd.pinned.checked.prog.mainIs = some (Rows.fnExactFormatTokensCard.stood.harness.1, Rows.fnExactFormatTokensCard.stood.harness.2.toList) := by kernel_rfl
theorem k3 : false = OpenClaim.goesBy Rows.fnExactFormatTokensRow Tryd.pinned.checked.prog := by kernel_rfl
theorem card : Rows.FnExactFormatTokensCardSaid :=
  Claim7.holds_tied_plain_at .later [] _ _ _ _ said (fun _ h => by cases h) k1 (fun _ h => by cases h) fnExactFormatTokens_row_tie rfl ⟨rfl, rfl⟩ k2 rfl plain k3
#print axioms card
end Go.Proofs.YtooghbejbjfakaaDoor.fnExactFormatTokens
