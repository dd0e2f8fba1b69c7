/-
  Texts that the proof rests on, put together: EnvOf.
-/
import Derived.Test.YtddjkhabcbcnmaaGreatDoorMgValueTextCard22
import Derived.Lib.LaidTab
import Derived.Stop.LaidErr
/-
  What the listed library variables give the walks: the table of powers of ten, the two sentinel errors.
-/

namespace Go.Proofs.YtddjkhabcbcnmaaGreatDoor
open Go.RowKit
set_option linter.unusedVariables false

theorem tabType : (Tryz.prog.globals[1]?).map (·.type) = some 206 := by kernel_rfl
theorem tabCells : Tryz.prog.cellsOf 206 = 20 := by kernel_rfl
theorem u64Cells : Tryz.prog.cellsOf 194 = 1 := by kernel_rfl
theorem synType : (Tryz.prog.globals[4]?).map (·.type) = some 165 := by kernel_rfl
theorem rngType : (Tryz.prog.globals[5]?).map (·.type) = some 165 := by kernel_rfl
theorem errCells : Tryz.prog.cellsOf 237 = 1 := by kernel_rfl
theorem strCells : Tryz.prog.cellsOf 9 = 1 := by kernel_rfl
theorem starStr : "*" ++ "errors.errorString" = "*errors.errorString" := by decide
theorem errRow (u : TypeId) (h : Tryz.prog.typeName? 3 u = some "*errors.errorString") : u = 235 :=
  typeName_ptr_named (nm := "errors.errorString") (by rw [starStr]; kernel_rfl) (by kernel_rfl) (by decide) u (by rw [starStr]; exact h)

theorem var_lt' {P : Program} {w : World} {n : String} {g : Nat} {cs : Array Value} (hg : P.globalNamed n = some g) (h : w.var? P n = some cs) : g < w.heap.size := by
  unfold World.var? at h
  simp only [hg, Option.bind_some] at h
  rcases Nat.lt_or_ge g w.heap.size with h' | h'
  · exact h'
  · simp [Array.getElem?_eq_none h'] at h

/-- From the list, whatever stands ahead of it. -/
theorem env_of {W : World} (h : laidMet Tryz.prog (("internal/strconv.uint64pow10", Rows.laid_internal_strconv_uint64pow10) :: ("strconv.ErrRange", Rows.laid_strconv_ErrRange) :: ("strconv.ErrSyntax", Rows.laid_strconv_ErrSyntax) :: []) W) : Env W := by
  have hp : Pow W := Lib.tabIs_of_head gPow tabType Tryz.underlying206 Tryz.underlying194 u64Cells tabCells (show laidMet Tryz.prog (("internal/strconv.uint64pow10", Lib.tabData .u64 Lib.pow10Tab) :: _) W from h)
  obtain ⟨a0, s0, hv0, -, -, -⟩ := laid_sentinel h.tail gRng rngType Tryz.underlying165 errRow Tryz.underlying235 Tryz.underlying237 rfl rfl Tryz.underlying9 errCells strCells
  obtain ⟨a1, s1, hv1, -, -, -⟩ := laid_sentinel h.tail.tail gSyn synType Tryz.underlying165 errRow Tryz.underlying235 Tryz.underlying237 rfl rfl Tryz.underlying9 errCells strCells
  exact ⟨hp, ⟨_, _, hv1⟩, ⟨_, _, hv0⟩, var_lt' gPow hp, var_lt' gSyn hv1, var_lt' gRng hv0⟩
end Go.Proofs.YtddjkhabcbcnmaaGreatDoor
