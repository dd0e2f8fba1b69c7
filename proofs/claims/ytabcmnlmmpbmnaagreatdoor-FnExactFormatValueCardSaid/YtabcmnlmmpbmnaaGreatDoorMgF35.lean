/-
  Texts that the proof rests on, put together: EnvOf.
-/
import Derived.Test.YtabcmnlmmpbmnaaGreatDoorMgF34
import Derived.Lib.LaidTab
import Derived.Stop.LaidErr
/-
  What the listed library variables give the walks: the table of powers of ten, the two sentinel errors.
-/

namespace Go.Proofs.YtabcmnlmmpbmnaaGreatDoor
open Go.RowKit
set_option linter.unusedVariables false

theorem tabType : (Tryz.prog.globals[1]?).map (·.type) = some 204 := by kernel_rfl
theorem tabCells : Tryz.prog.cellsOf 204 = 20 := by kernel_rfl
theorem u64Cells : Tryz.prog.cellsOf 192 = 1 := by kernel_rfl
theorem synType : (Tryz.prog.globals[4]?).map (·.type) = some 163 := by kernel_rfl
theorem rngType : (Tryz.prog.globals[5]?).map (·.type) = some 163 := by kernel_rfl
theorem errCells : Tryz.prog.cellsOf 236 = 1 := by kernel_rfl
theorem strCells : Tryz.prog.cellsOf 9 = 1 := by kernel_rfl
theorem starStr : "*" ++ "errors.errorString" = "*errors.errorString" := by decide
theorem errRow (u : TypeId) (h : Tryz.prog.typeName? 3 u = some "*errors.errorString") : u = 234 :=
  typeName_ptr_named (nm := "errors.errorString") (by rw [starStr]; kernel_rfl) (by kernel_rfl) (by decide) u (by rw [starStr]; exact h)

end Go.Proofs.YtabcmnlmmpbmnaaGreatDoor
