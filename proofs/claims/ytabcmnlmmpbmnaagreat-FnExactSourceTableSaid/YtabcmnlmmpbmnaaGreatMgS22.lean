/-
  Texts that the proof rests on, put together: SeqD, NodMV.
-/
import Derived.Test.YtabcmnlmmpbmnaaGreatMgS10
import Derived.RangeFuncNested
import Derived.RangeFuncBound
import Derived.RangeFuncCalls
import Derived.RangeFuncLeaves
import Derived.OwnWalkIn
import Derived.TacticsInMore
import Derived.LoopNIn
import Derived.LoopIn
import Derived.Test.YtabcmnlmmpbmnaaGreatMgS5
/-
  A range over a function whose iterator walks data by cells of its own: what the iterator and the rounds promise each other, and the law of the statement.
-/

namespace Go.Proofs.YtabcmnlmmpbmnaaGreat
open Go.RowKit
set_option linter.unusedVariables false

/-- Every block stays that is not of Y. -/
structure KeepsBut (Y : Nat → Prop) (W W' : World) : Prop where
  os : W'.os = W.os
  tape : W'.tape = W.tape
  output : W'.output = W.output
  size : W.heap.size ≤ W'.heap.size
  block : ∀ k, k < W.heap.size → ¬ Y k → W'.heap[k]? = W.heap[k]?
theorem KeepsBut.refl (Y : Nat → Prop) (W : World) : KeepsBut Y W W := ⟨rfl, rfl, rfl, Nat.le_refl _, fun _ _ _ => rfl⟩
theorem KeepsBut.trans {Y : Nat → Prop} {A B C : World} (h : KeepsBut Y A B) (k : KeepsBut Y B C) : KeepsBut Y A C :=
  ⟨k.os.trans h.os, k.tape.trans h.tape, k.output.trans h.output, Nat.le_trans h.size k.size, fun i hi hy => (k.block i (Nat.lt_of_lt_of_le hi h.size) hy).trans (h.block i hi hy)⟩
theorem KeepsBut.of_below {Y : Nat → Prop} {A B : World} (h : Below A.heap.size A B) : KeepsBut Y A B := ⟨h.os, h.tape, h.output, h.size, fun i hi _ => h.block i hi⟩
theorem KeepsBut.alloc {Y : Nat → Prop} {A B : World} (h : KeepsBut Y A B) (o : Obj) : KeepsBut Y A (B.alloc o) := h.trans (.of_below ((Below.refl _ _).alloc (Nat.le_refl _) _))
theorem KeepsBut.drew {Y : Nat → Prop} {A B : World} (h : KeepsBut Y A B) : KeepsBut Y A B.drew := h.trans (.of_below (Below.refl _ _).drew)
theorem KeepsBut.setCell {Y : Nat → Prop} {A B : World} (h : KeepsBut Y A B) (a : Addr) (v : Value) (ha : A.heap.size ≤ a.block ∨ Y a.block) : KeepsBut Y A (B.setCell a v) := by
  have h1 := ((Below.refl 0 B).setCell (p := a) (Nat.zero_le _) v).size
  refine ⟨h.os, h.tape, h.output, Nat.le_trans h.size h1, fun i hi hy => (Below.heap_setCell B a v i ?_).trans (h.block i hi hy)⟩
  rcases ha with ha | ha
  · omega
  · intro e
    subst e
    exact hy ha
theorem KeepsBut.imp {Y Y' : Nat → Prop} {A B : World} (h : KeepsBut Y A B) (hi : ∀ k, Y k → Y' k) : KeepsBut Y' A B := ⟨h.os, h.tape, h.output, h.size, fun k hk hy => h.block k hk fun h' => hy (hi k h')⟩
theorem KeepsBut.below {Y : Nat → Prop} {A B : World} {N : Nat} (h : KeepsBut Y A B) (hN : N ≤ A.heap.size) (hY : ∀ k, Y k → N ≤ k) : Below N A B :=
  ⟨h.os, h.tape, h.output, h.size, fun k hk => h.block k (by omega) fun hy => by have := hY k hy; omega⟩
theorem KeepsBut.cell {Y : Nat → Prop} {A B : World} (h : KeepsBut Y A B) {p : Addr} (hp : p.block < A.heap.size) (hY : ¬ Y p.block) : B.cell? p = A.cell? p := World.cell?_of_block (h.block _ hp hY)
/-- A box that lies as a value's cells. -/
theorem box_new {e : TypeId} {s : Nat} (w : World) (vs : Array Value) (hs : vs.size = s) : (w.alloc (.cells vs e)).ownsRow w.heap.size e s (.slice (some ⟨w.heap.size, 0, none⟩) 1 1) 1 vs.toList ∧ Below w.heap.size w (w.alloc (.cells vs e)) ∧ (w.alloc (.cells vs e)).heap.size = w.heap.size + 1 :=
  ⟨World.ownsRow_lit w vs 1 (Nat.le_refl _) (by unfold maxLen; omega) (by omega), (Below.refl _ _).alloc (Nat.le_refl _) _, by simp⟩
section
variable {F : Fence} {n : Nat} {P : Program}
end
end Go.Proofs.YtabcmnlmmpbmnaaGreat

/-
  Trees of one type: what is inside a node, and the nodes in the order in which the iterator yields them. (Written by gen10n.py.)
-/

namespace Go.Proofs.YtabcmnlmmpbmnaaGreat
open Go.RowKit
set_option linter.unusedVariables false

def vkids : Dt → List Dt
  | .agg [_, _, _, _, .lst l, _, _] => l
  | _ => []
mutual
def Dt.vnods : Dt → List Dt
  | .agg [a, b, c, d, .lst l, f, g] => .agg [a, b, c, d, .lst l, f, g] :: vnodsL l
  | _ => []
def vnodsL : List Dt → List Dt
  | [] => []
  | x :: xs => vnodsL xs ++ x.vnods
end
theorem vnodsL_append : ∀ us vs : List Dt, vnodsL (us ++ vs) = vnodsL vs ++ vnodsL us
  | [], vs => by simp [vnodsL]
  | u :: us, vs => by simp only [List.cons_append, vnodsL, vnodsL_append us vs, List.append_assoc]
theorem IsVal.nods {d : Dt} (h : IsVal d) : d.vnods = d :: vnodsL (vkids d) := by
  cases h
  simp only [Dt.vnods, vkids]
theorem vnodsL_one (d : Dt) : vnodsL [d] = d.vnods := by simp [vnodsL]
theorem vnodsL_last {us : List Dt} {x : Dt} (h : IsVal x) : vnodsL (us ++ [x]) = x :: vnodsL (us ++ vkids x) := by
  rw [vnodsL_append, vnodsL_append, vnodsL_one, h.nods]
  rfl
theorem IsVal.kidsIs {d : Dt} (h : IsVal d) : ∀ y ∈ vkids d, IsVal y := by
  cases h
  assumption
theorem vnodsL_len : ∀ xs : List Dt, (∀ x ∈ xs, IsVal x) → xs.length ≤ (vnodsL xs).length
  | [], _ => Nat.zero_le _
  | x :: xs, h => by
    have h1 := vnodsL_len xs fun y hy => h y (by simp [hy])
    simp only [vnodsL, List.length_append, List.length_cons, (h x (by simp)).nods]
    omega
theorem vnodsL_le : ∀ xs : List Dt, (∀ x ∈ xs, x.vnods.length ≤ 1 + x.wt) → (vnodsL xs).length ≤ xs.length + wts xs
  | [], _ => by simp [vnodsL]
  | x :: xs, h => by
    have h1 := h x (by simp)
    have h2 := vnodsL_le xs fun y hy => h y (by simp [hy])
    simp only [vnodsL, List.length_append, wts, List.length_cons]
    omega
theorem vnods_len {d : Dt} (h : IsVal d) : d.vnods.length ≤ 1 + d.wt := by
  induction h with
  | mk k n s t l cc r hl hr ih =>
    have h1 := vnodsL_le l ih
    simp only [Dt.vnods, List.length_cons, Dt.wt, wts]
    omega
theorem vnodsL_all : ∀ xs : List Dt, (∀ x ∈ xs, ∀ y ∈ x.vnods, IsVal y) → ∀ y ∈ vnodsL xs, IsVal y
  | [], _, y, hy => by simp [vnodsL] at hy
  | x :: xs, h, y, hy => by
    simp only [vnodsL, List.mem_append] at hy
    rcases hy with hy | hy
    · exact vnodsL_all xs (fun z hz => h z (by simp [hz])) y hy
    · exact h x (by simp) y hy
theorem IsVal.all {d : Dt} (h : IsVal d) : ∀ y ∈ d.vnods, IsVal y := by
  induction h with
  | mk k n s t l cc r hl hr ih =>
    intro y hy
    simp only [Dt.vnods, List.mem_cons] at hy
    rcases hy with rfl | hy
    · exact IsVal.mk k n s t l cc r hl hr
    · exact vnodsL_all l ih y hy
end Go.Proofs.YtabcmnlmmpbmnaaGreat
