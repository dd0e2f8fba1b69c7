/-
  Now and then, drawn from the cursor (l1Once).
-/
import Derived.Test.YtooghbejbjfakaaDrawBelow
namespace Go.Proofs.Ytooghbejbjfakaa
open Go.RowKit
set_option linter.unusedVariables false

/-- What it does: a truth value, the cursor's own block written, nothing else. -/
def DrawnB (B blk : Nat) (w : World) (e : Ending) (w' : World) : Prop := ∃ b : Bool, e = .returned (.bool b) ∧ w.grownBy w' (some blk) ∧ Cur w' B blk

set_option maxHeartbeats 400000 in
set_option maxRecDepth 100000 in
theorem once_any (w : World) (B blk : Nat) (n : Int) (h : Cur w B blk) (hn : 1 ≤ n) (hn2 : n ≤ 4294967296) :
    Calls Try.prog 35 #[.pointer (some ⟨blk, 0, none⟩), .int .i64 n] w (DrawnB B blk w) := by
  have HH := Lib.hid h
  clear h
  go_enter Try.func35, Try.ntmps35
  go_wp2_with fail
  refine (below_pos _ B blk _ HH.out hn hn2).mono ?_
  rintro e w1 ⟨x, hx0, hx1, rfl, hg1, hc1⟩
  have HG := Lib.hid (And.intro hg1 hc1)
  clear hg1 hc1
  go_wp2_with fail
  go_ret
  exact ⟨_, rfl, HG.out.1, HG.out.2⟩
end Go.Proofs.Ytooghbejbjfakaa
