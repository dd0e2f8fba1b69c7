/-
  Texts that the proof rests on, put together: Set.
-/
import Derived.Test.YtdnneilbgekccabRows
import Derived.WalkKit
import Derived.Maps.OwnOps
import Derived.Maps.OwnSet
import Derived.Maps.Views
/-
  Sets of texts kept in a map[string]bool that the call made: what is stored, what is looked up.
-/

namespace Go.Proofs.Ytdnneilbgekccab
open Go.RowKit Go.Maps
set_option linter.unusedVariables false

/-- Block b is a set of at most n texts: those of L. -/
def IsSet (w : World) (b n : Nat) (L : List (List UInt8)) : Prop :=
  ∃ D : DataW Unit, w.ownsMap Try.prog 9 (plainElem Try.prog 4) b n D ∧ ∀ s : List UInt8, D.atKey (.string s) (.lit (.bool false)) = .lit (.bool (decide (s ∈ L)))

theorem IsSet.made (w : World) : IsSet (w.alloc (.map #[] 0)) w.heap.size 0 [] :=
  ⟨.map [], World.ownsMap_made w _ _ _, fun s => by simp [DataW.atKey]⟩
theorem IsSet.kept {w w' : World} {b n : Nat} {L : List (List UInt8)} {row : Option Nat} (h : IsSet w b n L) (hg : w.grownBy w' row) (hne : some b ≠ row) : IsSet w' b n L := by
  obtain ⟨D, h1, h2⟩ := h
  exact ⟨D, h1.kept hg hne, h2⟩
theorem IsSet.alloc {w : World} {b n : Nat} {L : List (List UInt8)} (h : IsSet w b n L) (o : Obj) : IsSet (w.alloc o) b n L := by
  obtain ⟨D, h1, h2⟩ := h
  exact ⟨D, h1.alloc o, h2⟩
theorem IsSet.lt {w : World} {b n : Nat} {L : List (List UInt8)} (h : IsSet w b n L) : b < w.heap.size := by
  obtain ⟨D, h1, h2⟩ := h
  exact h1.lt

variable {ops : Array Oper} {rest : List Oper} {o : Oper} {a : Act} {Q : Exit → Act → World → Prop}

end Go.Proofs.Ytdnneilbgekccab
