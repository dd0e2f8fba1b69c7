/-
  Texts that the proof rests on, put together: NodV, LevV.
-/
import Derived.Test.YtabcmnlmmpbmnaaGreatMgS22
import Derived.Test.YtabcmnlmmpbmnaaGreatMgS10
import Derived.Deep.RegionHeld3
import Derived.Deep.CutRange
import Derived.Deep.LoopGhost
/-
  The functions that tell what is inside a node; the iterator that yields the nodes of a tree: its contract. (Written by gen10n.py.)
-/

namespace Go.Proofs.YtabcmnlmmpbmnaaGreat
open Go.RowKit
set_option linter.unusedVariables false

set_option maxHeartbeats 400000 in
set_option maxRecDepth 100000 in
theorem vinside_at (k n s : Int) (t : ByteArray) (A4 A5 A6 : Option Addr) (m4 q4 m5 q5 m6 q6 : Nat) (w : World) :
    Calls Tryz.prog 209 #[.agg #[.int .i64 k, .int .i64 n, .int .i64 s, .string t, .slice A4 m4 q4, .slice A5 m5 q5, .slice A6 m6 q6]] w fun e w' => e = .returned (.slice A4 m4 q4) ∧ Below w.heap.size w w' := by
  go_enter Tryz.func209, Tryz.ntmps209
  go_wp2_with fail
  go_ret
  exact ⟨rfl, (Below.refl _ _).alloc (Nat.le_refl _) _⟩

end Go.Proofs.YtabcmnlmmpbmnaaGreat

/-
  countLevels: the depth of a tree, level by level. (Written by gen10n.py.)
-/

namespace Go.Proofs.YtabcmnlmmpbmnaaGreat
open Go.RowKit
set_option linter.unusedVariables false

mutual
def Dt.dep : Dt → Nat
  | .agg [_, _, _, _, .lst l, _, _] => 1 + deps l
  | _ => 0
def deps : List Dt → Nat
  | [] => 0
  | x :: xs => max x.dep (deps xs)
end
def kids : Dt → List Dt
  | .agg [_, _, _, _, .lst l, _, _] => l
  | _ => []
theorem dep_mk (k n s : Int) (t : ByteArray) (l c r : List Dt) : Dt.dep (.agg [.int k, .int n, .int s, .str t, .lst l, .lst c, .lst r]) = 1 + deps l := by simp only [Dt.dep]
theorem IsVal.dep {d : Dt} (h : IsVal d) : d.dep = 1 + deps (kids d) := by
  cases h
  simp only [Dt.dep, kids]
theorem deps_append : ∀ us vs : List Dt, deps (us ++ vs) = max (deps us) (deps vs)
  | [], vs => by simp [deps]
  | u :: us, vs => by simp only [List.cons_append, deps, deps_append us vs]; omega
theorem deps_take (xs : List Dt) (k : Nat) (hk : k < xs.length) : deps (xs.take (k + 1)) = max (deps (xs.take k)) xs[k].dep := by
  rw [List.take_succ_eq_append_getElem hk, deps_append]
  simp [deps]
end Go.Proofs.YtabcmnlmmpbmnaaGreat
