/-
  What the listed library variables give the walks: the table of powers of ten.
-/
import Derived.Test.YtooghbejbjfakaaDoorQuot
import Derived.Lib.LaidTab
import Derived.Stop.LaidErr
namespace Go.Proofs.YtooghbejbjfakaaDoor
open Go.RowKit
set_option linter.unusedVariables false

theorem tabTypeP : (Tryd.prog.globals[1]?).map (·.type) = some 88 := by kernel_rfl
theorem tabCellsP : Tryd.prog.cellsOf 88 = 20 := by kernel_rfl
theorem u64CellsP : Tryd.prog.cellsOf 75 = 1 := by kernel_rfl
theorem var_ltP {P : Program} {w : World} {n : String} {g : Nat} {cs : Array Value} (hg : P.globalNamed n = some g) (h : w.var? P n = some cs) : g < w.heap.size := by
  unfold World.var? at h
  simp only [hg, Option.bind_some] at h
  rcases Nat.lt_or_ge g w.heap.size with h' | h'
  · exact h'
  · simp [Array.getElem?_eq_none h'] at h
theorem pow_of {W : World} {l : _} (h : laidMet Tryd.prog (("internal/strconv.uint64pow10", Rows.laid_internal_strconv_uint64pow10) :: l) W) : PowOk W := by
  have hp : Pow W := Lib.tabIs_of_head (rest := l) gPow tabTypeP Tryd.underlying88 Tryd.underlying75 u64CellsP tabCellsP (show laidMet Tryd.prog (("internal/strconv.uint64pow10", Lib.tabData .u64 Lib.pow10Tab) :: l) W from h)
  exact ⟨hp, var_ltP gPow hp⟩
end Go.Proofs.YtooghbejbjfakaaDoor
