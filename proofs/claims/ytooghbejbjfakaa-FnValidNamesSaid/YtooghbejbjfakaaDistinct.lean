/-
  AllDistinct, the model's and the program's.
-/
import Derived.Test.YtooghbejbjfakaaHas
import Derived.Test.YtooghbejbjfakaaStrSz
import Derived.Test.YtooghbejbjfakaaStrTo
import Derived.Test.YtooghbejbjfakaaStrEq
namespace Go.Proofs.Ytooghbejbjfakaa
open Go.RowKit
set_option linter.unusedVariables false

/-- A row that is owned is no longer than its capacity. -/
theorem own_capS {w : World} {base : Nat} {e : TypeId} {g : Addr} {n c : Nat} {xs : List Value} (h : w.ownsRow base e 1 (.slice (some g) n c) n xs) : n ≤ c := by
  rcases h.2 with ⟨e, _⟩ | ⟨g', cap', cur', e, _, _, hcc, _⟩
  · cases e
  · injection e with e1 e2 e3
    omega

theorem sortB_len (ss : List ByteArray) : (sortB ss).length = (sortN (ss.map nb)).length := by simp [sortB]
theorem sortB_le (ss : List ByteArray) : (sortB ss).length ≤ ss.length := by
  rw [sortB_len]
  have := sortN_length (ss.map nb)
  simpa using this

theorem slice_upto (a : Option Addr) (n c k : Nat) (h : k ≤ c) (W : World) :
    (Instr.slice 33 (.slice a n c) none (some (.int .i64 (k : Int))) none).run Try.prog W = .ok (.slice a k c) W := by
  rw [run_slice_h (P := Try.prog) (w := W) 33 a n c (by kernel_rfl) .i64 (k : Int) (by omega) (by omega)]
  have hs : (sizeOf (Try.prog.elem 33)).run Try.prog W = .ok 1 W := by kernel_rfl
  rw [hs]
  cases a with
  | none => simp [Result.andThen, sliced]
  | some x => cases x; simp [Result.andThen, sliced, Addr.add]

end Go.Proofs.Ytooghbejbjfakaa
