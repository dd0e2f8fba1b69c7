/-
  The laws FnExactSortNames and FnExactWithout: what they ask of the answer's memory too. (Written by genlaw.py.)
-/
import Derived.Test.YtooghbejbjfakaaWithout
import Derived.Test.YtooghbejbjfakaaStrMark
import Derived.Test.YtooghbejbjfakaaObjs
namespace Go.Proofs.Ytooghbejbjfakaa
open Go.RowKit
set_option linter.unusedVariables false

theorem own_slice {w : World} {base : Nat} {e : TypeId} {v : Value} {n : Nat} {xs : List Value} (h : w.ownsRow base e 1 v n xs) : ∃ A c, v = .slice A n c := by
  rcases h.2 with ⟨rfl, rfl⟩ | ⟨g, cap, cur, rfl, _⟩
  · exact ⟨_, _, rfl⟩
  · exact ⟨_, _, rfl⟩

theorem sz_of_tot {ss : List ByteArray} {m : Nat} (h : ss.length + tot ss ≤ m) (k : Nat) (hk : k < ss.length) : (ss[k]).size ≤ m := by
  have h1 : ss[k].size ≤ tot ss := by
    have : ∀ (l : List Nat) (x : Nat), x ∈ l → x ≤ l.sum := by
      intro l
      induction l with
      | nil => simp
      | cons a l ih =>
        intro x hx
        rcases List.mem_cons.1 hx with rfl | hx
        · simp
        · have := ih x hx; simp; omega
    exact this _ _ (List.mem_map.2 ⟨ss[k], List.getElem_mem _, rfl⟩)
  omega

end Go.Proofs.Ytooghbejbjfakaa
