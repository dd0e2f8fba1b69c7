/-
  Texts that the proof rests on, put together: Set.
-/
import Derived.Test.YtabcmnlmmpbmnaaGreatRows
import Derived.WalkKit
import Derived.Maps.OwnOps
import Derived.Maps.OwnSet
import Derived.Maps.Views
/-
  Sets of texts kept in a map[string]bool that the call made: what is stored, what is looked up.
-/

namespace Go.Proofs.YtabcmnlmmpbmnaaGreat
open Go.RowKit Go.Maps
set_option linter.unusedVariables false

theorem keyS : Keyed Tryz.prog 9 := string_keyed Tryz.underlying9

/-- Block b is a set of at most n texts: those of L. -/
def IsSet (w : World) (b n : Nat) (L : List (List UInt8)) : Prop :=
  ∃ D : DataW Unit, w.ownsMap Tryz.prog 9 (plainElem Tryz.prog 4) b n D ∧ ∀ s : List UInt8, D.atKey (.string s) (.lit (.bool false)) = .lit (.bool (decide (s ∈ L)))

theorem IsSet.made (w : World) : IsSet (w.alloc (.map #[] 0)) w.heap.size 0 [] :=
  ⟨.map [], World.ownsMap_made w _ _ _, fun s => by simp [DataW.atKey]⟩
theorem IsSet.kept {w w' : World} {b n : Nat} {L : List (List UInt8)} {row : Option Nat} (h : IsSet w b n L) (hg : w.grownBy w' row) (hne : some b ≠ row) : IsSet w' b n L := by
  obtain ⟨D, h1, h2⟩ := h
  exact ⟨D, h1.kept hg hne, h2⟩
theorem IsSet.alloc {w : World} {b n : Nat} {L : List (List UInt8)} (h : IsSet w b n L) (o : Obj) : IsSet (w.alloc o) b n L := by
  obtain ⟨D, h1, h2⟩ := h
  exact ⟨D, h1.alloc o, h2⟩
theorem IsSet.lt {w : World} {b n : Nat} {L : List (List UInt8)} (h : IsSet w b n L) : b < w.heap.size := by
  obtain ⟨D, h1, h2⟩ := h
  exact h1.lt

theorem IsSet.store {w : World} {b n : Nat} {L : List (List UInt8)} (h : IsSet w b n L) (hn : n < maxLen) {s : ByteArray} (hs : s.size ≤ maxLen) :
    ∃ w', (Instr.mapUpdate 204 (.map (some b)) (.string s) (.bool true)).run Tryz.prog w = .ok () w' ∧ IsSet w' b (n + 1) (s.data.toList :: L) ∧ w.grownBy w' (some b) := by
  obtain ⟨D, h1, h2⟩ := h
  have hm := h1.isMap
  obtain ⟨w', hrun, h3, h4⟩ := h1.update keyS Tryz.underlying204 hn (Go.WideMaps.keyOf_string_mk Tryz.underlying9 hs) (plainElem_bool Tryz.underlying4 true)
  refine ⟨w', hrun, ⟨_, h3, fun z => ?_⟩, h4⟩
  by_cases e : z = s.data.toList
  · subst e
    rw [atKey_put_same hm (by simp [WideAt.IsKeyLit])]
    simp
  · rw [atKey_put_other (by simpa using e), h2]
    simp [e]

set_option maxRecDepth 100000 in
theorem IsSet.look {w : World} {b n : Nat} {L : List (List UInt8)} (h : IsSet w b n L) {s : ByteArray} (hs : s.size ≤ maxLen) :
    (Instr.lookup 204 (.map (some b)) (.string s) false).run Tryz.prog w = .ok (.bool (decide (s.data.toList ∈ L))) w := by
  obtain ⟨D, h1, h2⟩ := h
  obtain ⟨v, ps, hrun, hv⟩ := h1.lookup keyS Tryz.underlying204 (z := .bool false) (by kernel_rfl) (plainElem_bool Tryz.underlying4 false) (Go.WideMaps.keyOf_string_mk Tryz.underlying9 hs)
  rw [h2] at hv
  unfold plainElem at hv
  rw [Tryz.underlying4] at hv
  cases v <;> simp at hv
  rw [hrun, hv.1]

variable {ops : Array Oper} {rest : List Oper} {o : Oper} {a : Act} {Q : Exit → Act → World → Prop}

theorem wpList_insert_set (w : World) (hg : o.guard = none) (m x v : Operand) (hop : o.op = Op.insert 204 m x v)
    (b n : Nat) (L : List (List UInt8)) (hm : a.eval m = .map (some b)) (h : IsSet w b n L) (hn : n < maxLen) (s : ByteArray) (hx : a.eval x = .string s) (hv : a.eval v = .bool true) (hs : s.size ≤ maxLen)
    (hK : ∀ w', IsSet w' b (n + 1) (s.data.toList :: L) → w.grownBy w' (some b) → wpList Tryz.prog ops Q rest (a.put o.dst undef) w') :
    wpList Tryz.prog ops Q (o :: rest) a w := by
  refine wpList_plain hg fun K' hK' => ?_
  obtain ⟨w', hrun, r1, r2⟩ := h.store hn hs
  unfold Oper.wp
  simp [execOp, hop, hm, hx, hv, hrun, Result.andThen]
  exact hK' _ _ (hK w' r1 r2)

theorem wpList_look_set (w : World) (hg : o.guard = none) (m x : Operand) (hop : o.op = Op.lookup 204 m x false)
    (b n : Nat) (L : List (List UInt8)) (hm : a.eval m = .map (some b)) (h : IsSet w b n L) (s : ByteArray) (hx : a.eval x = .string s) (hs : s.size ≤ maxLen)
    (hK : wpList Tryz.prog ops Q rest (a.put o.dst (.bool (decide (s.data.toList ∈ L)))) w) :
    wpList Tryz.prog ops Q (o :: rest) a w := by
  refine wpList_plain hg fun K' hK' => ?_
  have hrun := h.look hs
  unfold Oper.wp
  simp [execOp, hop, hm, hx, hrun, Result.andThen]
  exact hK' _ _ hK
end Go.Proofs.YtabcmnlmmpbmnaaGreat
