/-
  Whatever the law's bytes: where on a drawn table answers as the model's; what it answers, where it is no error, has only rows of the table with that cell, and asked again it answers itself (the law FnTables). Conditions: the listed library variables hold what their initialisers lay, which the card ties to the program's text.
-/
import Derived.Test.YtjhmeaofbheonabGreatDoorCards
import Derived.Test.YtjhmeaofbheonabGreatDoorTie
import Derived.Test.YtjhmeaofbheonabGreatDoorMgT39

namespace Go.Proofs.YtjhmeaofbheonabGreatDoor.fnTables
open Go.ChangeShapes Go.WideShapes Go.ChangeAt Go.RowKit
set_option linter.unusedVariables false

theorem plain (f : FuncId) (fn : Func) (hf : Tryz.pinned.checked.prog.funcNamed "loop.example/g00510/laws.FnTables" = some f) (hfn : Tryz.pinned.checked.prog.funcs[f]? = some fn) :
    true = Tryz.pinned.checked.prog.looks [] ∧ ∀ (j : Nat) t, fn.params[j]? = some t → Tryz.pinned.checked.prog.wantsStandIn t = false := by
  obtain rfl : f = 3 := Option.some.inj ((show Tryz.prog.funcNamed "loop.example/g00510/laws.FnTables" = some 3 by kernel_rfl).symm.trans hf) |>.symm
  obtain rfl : fn = Tryz.f3 := (Option.some.inj (Tryz.func3.symm.trans hfn)).symm
  refine ⟨by kernel_rfl, fun j t ht => ?_⟩
  rw [Tryz.params3] at ht
  have hm : t ∈ [22] := by simpa using Array.mem_of_getElem? ht
  have hall : ([22].all fun u => !Tryz.prog.wantsStandIn u) = true := by kernel_rfl
  exact (show Tryz.prog.wantsStandIn t = false by simpa using List.all_eq_true.1 hall t hm)

theorem k1 : OpenClaim.wfByText (OpenSpec.ofChange Rows.fnTablesSpec) Rows.fnTablesRow = true := by kernel_rfl
theorem k2 : Tryz.pinned.checked.prog.mainIs = some (Rows.fnTablesCard.stood.harness.1, Rows.fnTablesCard.stood.harness.2.toList) := by kernel_rfl
theorem k3 : false = OpenClaim.goesBy Rows.fnTablesRow Tryz.pinned.checked.prog := by kernel_rfl
theorem card : Rows.FnTablesCardSaid :=
  Claim7.holds_tied_plain_at .later [] _ _ _ _ said (fun _ h => by cases h) k1 (fun _ h => by cases h) fnTables_row_tie rfl ⟨rfl, rfl⟩ k2 rfl plain k3
#print axioms card
end Go.Proofs.YtjhmeaofbheonabGreatDoor.fnTables
