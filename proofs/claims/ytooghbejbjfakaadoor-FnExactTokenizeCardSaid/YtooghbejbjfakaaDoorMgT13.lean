/-
  Texts that the proof rests on, put together: EnvOf.
-/
import Derived.Test.YtooghbejbjfakaaDoorMgT11
import Derived.Lib.LaidTab
import Derived.Stop.LaidErr
/-
  What the listed library variables give the walks: the table of powers of ten, the two sentinel errors.
-/

namespace Go.Proofs.YtooghbejbjfakaaDoor
open Go.RowKit
set_option linter.unusedVariables false

theorem tabType : (Tryd.prog.globals[1]?).map (·.type) = some 88 := by kernel_rfl
theorem tabCells : Tryd.prog.cellsOf 88 = 20 := by kernel_rfl
theorem u64Cells : Tryd.prog.cellsOf 75 = 1 := by kernel_rfl
theorem synType : (Tryd.prog.globals[2]?).map (·.type) = some 65 := by kernel_rfl
theorem rngType : (Tryd.prog.globals[3]?).map (·.type) = some 65 := by kernel_rfl
theorem errCells : Tryd.prog.cellsOf 111 = 1 := by kernel_rfl
theorem strCells : Tryd.prog.cellsOf 9 = 1 := by kernel_rfl
theorem starStr : "*" ++ "errors.errorString" = "*errors.errorString" := by decide
theorem errRow (u : TypeId) (h : Tryd.prog.typeName? 3 u = some "*errors.errorString") : u = 109 :=
  typeName_ptr_named (nm := "errors.errorString") (by rw [starStr]; kernel_rfl) (by kernel_rfl) (by decide) u (by rw [starStr]; exact h)

theorem var_lt' {P : Program} {w : World} {n : String} {g : Nat} {cs : Array Value} (hg : P.globalNamed n = some g) (h : w.var? P n = some cs) : g < w.heap.size := by
  unfold World.var? at h
  simp only [hg, Option.bind_some] at h
  rcases Nat.lt_or_ge g w.heap.size with h' | h'
  · exact h'
  · simp [Array.getElem?_eq_none h'] at h

/-- From the list, whatever stands ahead of it. -/
theorem env_of {W : World} (h : laidMet Tryd.prog (("internal/strconv.uint64pow10", Rows.laid_internal_strconv_uint64pow10) :: ("strconv.ErrRange", Rows.laid_strconv_ErrRange) :: ("strconv.ErrSyntax", Rows.laid_strconv_ErrSyntax) :: []) W) : Env W := by
  have hp : Pow W := Lib.tabIs_of_head gPow tabType Tryd.underlying88 Tryd.underlying75 u64Cells tabCells (show laidMet Tryd.prog (("internal/strconv.uint64pow10", Lib.tabData .u64 Lib.pow10Tab) :: _) W from h)
  obtain ⟨a0, s0, hv0, -, -, -⟩ := laid_sentinel h.tail gRng rngType Tryd.underlying65 errRow Tryd.underlying109 Tryd.underlying111 rfl rfl Tryd.underlying9 errCells strCells
  obtain ⟨a1, s1, hv1, -, -, -⟩ := laid_sentinel h.tail.tail gSyn synType Tryd.underlying65 errRow Tryd.underlying109 Tryd.underlying111 rfl rfl Tryd.underlying9 errCells strCells
  exact ⟨hp, ⟨_, _, hv1⟩, ⟨_, _, hv0⟩, var_lt' gPow hp, var_lt' gSyn hv1, var_lt' gRng hv0⟩
end Go.Proofs.YtooghbejbjfakaaDoor
