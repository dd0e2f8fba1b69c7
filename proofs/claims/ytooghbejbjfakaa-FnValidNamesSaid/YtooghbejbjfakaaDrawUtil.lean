/-
  What all draws share: which values stand in a literal list; what a draw leaves alone.
-/
import Derived.Test.YtooghbejbjfakaaDrawNew
import Derived.Test.YtooghbejbjfakaaDrawPick
import Derived.Test.YtooghbejbjfakaaDrawOnce
namespace Go.Proofs.Ytooghbejbjfakaa
open Go.RowKit
set_option linter.unusedVariables false

theorem ints_mem (L : List Int) (lo hi : Int) (h : ∀ x ∈ L, lo ≤ x ∧ x ≤ hi) {k : Nat} {v : Value} (hv : (L.map (Value.int .i64)).toArray[k]? = some v) : ∃ x, lo ≤ x ∧ x ≤ hi ∧ v = .int .i64 x := by
  rw [List.getElem?_toArray, List.getElem?_map] at hv
  obtain ⟨x, hx, rfl⟩ := Option.map_eq_some_iff.1 hv
  have := h x (List.mem_of_getElem? hx)
  exact ⟨x, this.1, this.2, rfl⟩
theorem strs_mem (L : List (List UInt8)) (m : Nat) (h : ∀ x ∈ L, x.length ≤ m) {k : Nat} {v : Value} (hv : (L.map fun l => Value.string ⟨l.toArray⟩).toArray[k]? = some v) : ∃ l ∈ L, l.length ≤ m ∧ v = .string ⟨l.toArray⟩ := by
  rw [List.getElem?_toArray, List.getElem?_map] at hv
  obtain ⟨x, hx, rfl⟩ := Option.map_eq_some_iff.1 hv
  exact ⟨x, List.mem_of_getElem? hx, h x (List.mem_of_getElem? hx), rfl⟩

theorem below_of_cur {w w1 w2 : World} {blk : Nat} (h1 : Below w.heap.size w w1) (hblk : w.heap.size ≤ blk) (hg : w1.grownBy w2 (some blk)) : Below w.heap.size w w2 :=
  h1.grown hg h1.size fun k hk => by injection hk with hk; omega

end Go.Proofs.Ytooghbejbjfakaa
