/-
  The program's FormatInt and the law that holds it against the model's, at every int: both return the decimal numeral; nothing that was there is written.
-/
import Derived.Test.YtooghbejbjfakaaDoorSpecFmt
import Derived.Test.YtooghbejbjfakaaDoorShelf
import Derived.WalkSmall
namespace Go.Proofs.YtooghbejbjfakaaDoor
open Go.RowKit
set_option linter.unusedVariables false

theorem below_grow_drewN (w : World) (k : Nat) (os : Array Obj) : Below w.heap.size w (Sort.grow (w.drewN k) os) := by
  refine ⟨rfl, rfl, rfl, ?_, fun i hi => ?_⟩
  · show w.heap.size ≤ (w.heap ++ os).size
    simp
  · show (w.heap ++ os)[i]? = w.heap[i]?
    rw [Array.getElem?_append, if_pos hi]

/-- What the numeral's contracts ask of a world: the library's table of powers of ten. -/
def Pow (w : World) : Prop := Lib.TabIs Tryd.prog w "internal/strconv.uint64pow10" .u64 Lib.pow10Tab
theorem gPow : Tryd.prog.globalNamed "internal/strconv.uint64pow10" = some 1 := by kernel_rfl
theorem Pow.below {w w' : World} {B : Nat} (h : Pow w) (hb : Below B w w') (hB : 1 < B) : Pow w' := var?_below hb gPow hB h

/-- impl.FormatInt, at every int. -/
theorem implFmt_any (n : Int) (w : World) (h0 : -9223372036854775808 ≤ n) (h1 : n ≤ 9223372036854775807) (hp : Pow w) :
    Calls Tryd.prog 20 #[.int .i64 n] w fun e w' => e = .returned (.string ⟨(Go.Lib.itoa n).toArray⟩) ∧ Below w.heap.size w w' := by
  go_enter Tryd.func20, Tryd.ntmps20
  go_wp2_with (go_at_call 28; refine (Tryd.strconv_Itoa n h0 h1 _ hp).mono ?_; rintro e w' ⟨rfl, k, os, rfl⟩)
  go_ret
  exact ⟨rfl, below_grow_drewN w k os⟩

end Go.Proofs.YtooghbejbjfakaaDoor
