/-
  At every three values, valid or not, the program's WhereEqual answers as the model's, changes no argument, and its answer owns its memory (the law FnExactWhereEqual). Conditions: the listed library variables hold what their initialisers lay, which the card ties to the program's text.
-/
import Derived.Test.YtdnneilbgekccaaGreatDoorCards
import Derived.Test.YtdnneilbgekccaaGreatDoorTie
import Derived.Test.YtdnneilbgekccaaGreatDoorMg45

namespace Go.Proofs.YtdnneilbgekccaaGreatDoor.fnExactWhereEqual
open Go.ChangeShapes Go.WideShapes Go.ChangeAt Go.RowKit
set_option linter.unusedVariables false

theorem plain (f : FuncId) (fn : Func) (hf : Tryz.pinned.checked.prog.funcNamed "loop.example/g00510/laws.FnExactWhereEqual" = some f) (hfn : Tryz.pinned.checked.prog.funcs[f]? = some fn) :
    true = Tryz.pinned.checked.prog.looks [] ∧ ∀ (j : Nat) t, fn.params[j]? = some t → Tryz.pinned.checked.prog.wantsStandIn t = false := by
  obtain rfl : f = 8 := Option.some.inj ((show Tryz.prog.funcNamed "loop.example/g00510/laws.FnExactWhereEqual" = some 8 by kernel_rfl).symm.trans hf) |>.symm
  obtain rfl : fn = Tryz.f8 := (Option.some.inj (Tryz.func8.symm.trans hfn)).symm
  refine ⟨by kernel_rfl, fun j t ht => ?_⟩
  rw [Tryz.params8] at ht
  have hm : t ∈ [51, 51, 51] := by simpa using Array.mem_of_getElem? ht
  have hall : ([51, 51, 51].all fun u => !Tryz.prog.wantsStandIn u) = true := by kernel_rfl
  exact (show Tryz.prog.wantsStandIn t = false by simpa using List.all_eq_true.1 hall t hm)

theorem k1 : OpenClaim.wfByText (OpenSpec.ofChange Rows.fnExactWhereEqualSpec) Rows.fnExactWhereEqualRow = true := by kernel_rfl
theorem k2 : Tryz.pinned.checked.prog.mainIs = some (Rows.fnExactWhereEqualCard.stood.harness.1, Rows.fnExactWhereEqualCard.stood.harness.2.toList) := by kernel_rfl
theorem k3 : false = OpenClaim.goesBy Rows.fnExactWhereEqualRow Tryz.pinned.checked.prog := by kernel_rfl
theorem card : Rows.FnExactWhereEqualCardSaid :=
  Claim7.holds_tied_plain_at .later [] _ _ _ _ said (fun _ h => by cases h) k1 (fun _ h => by cases h) fnExactWhereEqual_row_tie rfl ⟨rfl, rfl⟩ k2 rfl plain k3
#print axioms card
end Go.Proofs.YtdnneilbgekccaaGreatDoor.fnExactWhereEqual
