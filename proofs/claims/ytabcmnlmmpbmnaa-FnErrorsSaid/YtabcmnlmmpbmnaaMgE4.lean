/-
  Texts that the proof rests on, put together: Set.
-/
import Derived.Test.YtabcmnlmmpbmnaaRows
import Derived.WalkKit
import Derived.Maps.OwnOps
import Derived.Maps.OwnSet
import Derived.Maps.Views
/-
  Sets of texts kept in a map[string]bool that the call made: what is stored, what is looked up.
-/

namespace Go.Proofs.Ytabcmnlmmpbmnaa
open Go.RowKit Go.Maps
set_option linter.unusedVariables false

theorem keyS : Keyed Try.prog 9 := string_keyed Try.underlying9

/-- Block b is a set of at most n texts: those of L. -/
def IsSet (w : World) (b n : Nat) (L : List (List UInt8)) : Prop :=
  ∃ D : DataW Unit, w.ownsMap Try.prog 9 (plainElem Try.prog 4) b n D ∧ ∀ s : List UInt8, D.atKey (.string s) (.lit (.bool false)) = .lit (.bool (decide (s ∈ L)))

theorem IsSet.made (w : World) : IsSet (w.alloc (.map #[] 0)) w.heap.size 0 [] :=
  ⟨.map [], World.ownsMap_made w _ _ _, fun s => by simp [DataW.atKey]⟩
theorem IsSet.alloc {w : World} {b n : Nat} {L : List (List UInt8)} (h : IsSet w b n L) (o : Obj) : IsSet (w.alloc o) b n L := by
  obtain ⟨D, h1, h2⟩ := h
  exact ⟨D, h1.alloc o, h2⟩
theorem IsSet.lt {w : World} {b n : Nat} {L : List (List UInt8)} (h : IsSet w b n L) : b < w.heap.size := by
  obtain ⟨D, h1, h2⟩ := h
  exact h1.lt

theorem IsSet.store {w : World} {b n : Nat} {L : List (List UInt8)} (h : IsSet w b n L) (hn : n < maxLen) {s : ByteArray} (hs : s.size ≤ maxLen) :
    ∃ w', (Instr.mapUpdate 90 (.map (some b)) (.string s) (.bool true)).run Try.prog w = .ok () w' ∧ IsSet w' b (n + 1) (s.data.toList :: L) ∧ w.grownBy w' (some b) := by
  obtain ⟨D, h1, h2⟩ := h
  have hm := h1.isMap
  obtain ⟨w', hrun, h3, h4⟩ := h1.update keyS Try.underlying90 hn (Go.WideMaps.keyOf_string_mk Try.underlying9 hs) (plainElem_bool Try.underlying4 true)
  refine ⟨w', hrun, ⟨_, h3, fun z => ?_⟩, h4⟩
  by_cases e : z = s.data.toList
  · subst e
    rw [atKey_put_same hm (by simp [WideAt.IsKeyLit])]
    simp
  · rw [atKey_put_other (by simpa using e), h2]
    simp [e]

set_option maxRecDepth 100000 in
theorem IsSet.look {w : World} {b n : Nat} {L : List (List UInt8)} (h : IsSet w b n L) {s : ByteArray} (hs : s.size ≤ maxLen) :
    (Instr.lookup 90 (.map (some b)) (.string s) false).run Try.prog w = .ok (.bool (decide (s.data.toList ∈ L))) w := by
  obtain ⟨D, h1, h2⟩ := h
  obtain ⟨v, ps, hrun, hv⟩ := h1.lookup keyS Try.underlying90 (z := .bool false) (by kernel_rfl) (plainElem_bool Try.underlying4 false) (Go.WideMaps.keyOf_string_mk Try.underlying9 hs)
  rw [h2] at hv
  unfold plainElem at hv
  rw [Try.underlying4] at hv
  cases v <;> simp at hv
  rw [hrun, hv.1]

variable {ops : Array Oper} {rest : List Oper} {o : Oper} {a : Act} {Q : Exit → Act → World → Prop}

theorem wpList_insert_set (w : World) (hg : o.guard = none) (m x v : Operand) (hop : o.op = Op.insert 90 m x v)
    (b n : Nat) (L : List (List UInt8)) (hm : a.eval m = .map (some b)) (h : IsSet w b n L) (hn : n < maxLen) (s : ByteArray) (hx : a.eval x = .string s) (hv : a.eval v = .bool true) (hs : s.size ≤ maxLen)
    (hK : ∀ w', IsSet w' b (n + 1) (s.data.toList :: L) → w.grownBy w' (some b) → wpList Try.prog ops Q rest (a.put o.dst undef) w') :
    wpList Try.prog ops Q (o :: rest) a w := by
  refine wpList_plain hg fun K' hK' => ?_
  obtain ⟨w', hrun, r1, r2⟩ := h.store hn hs
  unfold Oper.wp
  simp [execOp, hop, hm, hx, hv, hrun, Result.andThen]
  exact hK' _ _ (hK w' r1 r2)

theorem wpList_look_set (w : World) (hg : o.guard = none) (m x : Operand) (hop : o.op = Op.lookup 90 m x false)
    (b n : Nat) (L : List (List UInt8)) (hm : a.eval m = .map (some b)) (h : IsSet w b n L) (s : ByteArray) (hx : a.eval x = .string s) (hs : s.size ≤ maxLen)
    (hK : wpList Try.prog ops Q rest (a.put o.dst (.bool (decide (s.data.toList ∈ L)))) w) :
    wpList Try.prog ops Q (o :: rest) a w := by
  refine wpList_plain hg fun K' hK' => ?_
  have hrun := h.look hs
  unfold Oper.wp
  simp [execOp, hop, hm, hx, hrun, Result.andThen]
  exact hK' _ _ hK
end Go.Proofs.Ytabcmnlmmpbmnaa
