/-
  A list of texts that a call builds by appending, and that nothing else changes.
-/
import Derived.Test.YtooghbejbjfakaaDoorStep
import Derived.Test.YtooghbejbjfakaaDoorOw
import Derived.Test.YtooghbejbjfakaaDoorMem
namespace Go.Proofs.YtooghbejbjfakaaDoor
open Go.RowKit
set_option linter.unusedVariables false

def RowS (w : World) (v : Value) (ss : List ByteArray) (wr : World) : Prop := wr.ownsRow w.heap.size 9 1 v ss.length (strV ss) ∧ Below w.heap.size w wr
section
variable {w wr w2 : World} {v v' : Value} {ss : List ByteArray} {s : ByteArray}
theorem RowS.later (h : RowS w v ss wr) (hb : Below wr.heap.size wr w2) : RowS w v ss w2 := ⟨own_keep h.1 fun b hb' => hb.block b (h.1.lt b hb').2, h.2.trans (hb.mono h.2.size)⟩
theorem RowS.bel (h : RowS w v ss wr) : Below w.heap.size w wr := h.2
theorem RowS.app {o : Obj} (h : RowS w v ss wr) (ho : w2.ownsRow w.heap.size 9 1 v' (ss.length + 1) (strV ss ++ [.string s])) (hg : (wr.alloc o).grownBy w2 v.ownBlock) : RowS w v' (ss ++ [s]) w2 :=
  ⟨by simpa [strV] using ho, Below.grown (h.2.alloc h.2.size o) hg (by have := h.2.size; simp; omega) fun k hk => (h.1.lt k hk).1⟩
theorem RowS.nil (w : World) : RowS w (.slice none 0 0) [] w := ⟨⟨by simp [strV], .inl ⟨rfl, rfl⟩⟩, Below.refl _ _⟩
theorem RowS.lit (hb : Below w.heap.size w wr) : RowS w (.slice (some ⟨wr.heap.size, 0, none⟩) 0 0) [] (wr.alloc (.cells #[] 9)) :=
  ⟨own_base0 (World.ownsRow_lit wr #[] 0 (Nat.le_refl _) (Nat.zero_le _) (by simp)) hb.size, hb.alloc hb.size _⟩
theorem RowS.form (h : RowS w v ss wr) : ∃ A c, v = .slice A ss.length c ∧ ss.length ≤ c ∧ RowOf wr wr.heap.size A (strV ss) := by
  obtain ⟨A, c, rfl⟩ := own_slice h.1
  exact ⟨A, c, rfl, (own_cap h.1).1, RowOf.own h.1⟩
theorem RowS.own (h : RowS w v ss wr) : wr.ownsRow w.heap.size 9 1 v ss.length (strV ss) := h.1
end
end Go.Proofs.YtooghbejbjfakaaDoor
