/-
  Texts that the proof rests on, put together: SortMath, SetMath.
-/
import Derived.Test.YtjhmeaofbheonabGreatDoorMgT8
import Derived.Test.YtjhmeaofbheonabGreatDoorMgT14
import Derived.Shelf.SlSortCmp.InsertionK
import Derived.Shelf.SlSortCmp.KitK
/-
  Origins as sets: plain mathematics. (Written by gen8m.py.)
-/

namespace Go.Proofs.YtjhmeaofbheonabGreatDoor
open Go.RowKit Go.Lib Go.Sort
set_option linter.unusedVariables false

theorem olt_irr (x : Int × Int) : ¬ OLt x x := by unfold OLt; omega
theorem olt_tr {x y z : Int × Int} (h : OLt x y) (h' : OLt y z) : OLt x z := by unfold OLt at *; omega
/-- Two lists that ascend and have the same members are one. -/
theorem asc_ext : ∀ {a b : List (Int × Int)}, a.Pairwise OLt → b.Pairwise OLt → (∀ o, o ∈ a ↔ o ∈ b) → a = b
  | [], [], _, _, _ => rfl
  | [], y :: b, _, _, h => absurd ((h y).2 (by simp)) (by simp)
  | x :: a, [], _, _, h => absurd ((h x).1 (by simp)) (by simp)
  | x :: a, y :: b, ha, hb, h => by
    rw [List.pairwise_cons] at ha hb
    have e : x = y := by
      rcases List.mem_cons.1 ((h x).1 (by simp)) with e | hx
      · exact e
      · rcases List.mem_cons.1 ((h y).2 (by simp)) with e | hy
        · exact e.symm
        · exact (olt_irr _ (olt_tr (ha.1 y hy) (hb.1 x hx))).elim
    subst e
    rw [asc_ext ha.2 hb.2 fun o => ⟨fun ho => ?_, fun ho => ?_⟩]
    · rcases List.mem_cons.1 ((h o).1 (by simp [ho])) with e | h1
      · subst e; exact (olt_irr _ (ha.1 _ ho)).elim
      · exact h1
    · rcases List.mem_cons.1 ((h o).2 (by simp [ho])) with e | h1
      · subst e; exact (olt_irr _ (hb.1 _ ho)).elim
      · exact h1
/-- The members of l, ascending, each once. -/
def IsSetO (l out : List (Int × Int)) : Prop := out.Pairwise OLt ∧ ∀ o, o ∈ out ↔ o ∈ l
theorem IsSetO.one {l l' a b : List (Int × Int)} (h : IsSetO l a) (h' : IsSetO l' b) (hm : ∀ o, o ∈ l ↔ o ∈ l') : a = b :=
  asc_ext h.1 h'.1 fun o => by rw [h.2, h'.2, hm]
/-! ### putO by a loop -/
/-! ### neighbours that are equal dropped -/
end Go.Proofs.YtjhmeaofbheonabGreatDoor
