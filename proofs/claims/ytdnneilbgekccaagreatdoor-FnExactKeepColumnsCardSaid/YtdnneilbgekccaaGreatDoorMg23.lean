/-
  Texts that the proof rests on, put together: RowsOf.
-/
import Derived.Test.YtdnneilbgekccaaGreatDoorMg22
import Derived.Test.YtdnneilbgekccaaGreatDoorMg11
import Derived.Test.YtdnneilbgekccaaGreatDoorMg14
import Derived.Test.YtdnneilbgekccaaGreatDoorMg16
/-
  Lists of numbers made rows, the program's. (Written by gentab2.py out of genrd.py's text.)
-/

namespace Go.Proofs.YtdnneilbgekccaaGreatDoor
open Go.RowKit
set_option linter.unusedVariables false

theorem cellN_int7 : ∀ d : Dt, ∃ n, cellN d = .int n := by
  intro d
  unfold cellN
  split
  · exact ⟨_, rfl⟩
  · exact ⟨0, rfl⟩
theorem cells_ints7 : ∀ l : List Dt, ∃ ns : List Int, l.map cellN = ns.map .int ∧ ns.length = l.length
  | [] => ⟨[], rfl, rfl⟩
  | x :: l => by
    obtain ⟨n, h⟩ := cellN_int7 x
    obtain ⟨ns, h2, h3⟩ := cells_ints7 l
    exact ⟨n :: ns, by simp [h, h2], by simp [h3]⟩
theorem toRow_form7 (d : Dt) : ∃ ns : List Int, toRow d = .agg [.lst (ns.map .int), .lst []] := by
  unfold toRow
  split
  · obtain ⟨ns, h, _⟩ := cells_ints7 ‹List Dt›
    exact ⟨ns, by rw [h]⟩
  · exact ⟨[], rfl⟩
theorem toRow_val7 (k n s : Int) (t : ByteArray) (l c r : List Dt) : toRow (.agg [.int k, .int n, .int s, .str t, .lst l, .lst c, .lst r]) = .agg [.lst (l.map cellN), .lst []] := rfl
theorem intV_take7 (ns : List Int) (k : Nat) (h : k < ns.length) : intV (ns.take k) ++ [.int .i64 ns[k]] = intV (ns.take (k + 1)) := by
  unfold intV; rw [List.take_succ_eq_append_getElem h, List.map_append]; rfl
end Go.Proofs.YtdnneilbgekccaaGreatDoor
