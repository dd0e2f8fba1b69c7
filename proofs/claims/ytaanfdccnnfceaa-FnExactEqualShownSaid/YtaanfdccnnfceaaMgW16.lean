/-
  Texts that the proof rests on, put together: NodMV.
-/
import Derived.Test.YtaanfdccnnfceaaMgW5
import Derived.Test.YtaanfdccnnfceaaMgW15
/-
  Trees of one type: what is inside a node, and the nodes in the order in which the iterator yields them. (Written by gen10n.py.)
-/

namespace Go.Proofs.Ytaanfdccnnfceaa
open Go.RowKit
set_option linter.unusedVariables false

def vkids : Dt → List Dt
  | .agg [_, _, _, _, .lst l, _, _] => l
  | _ => []
mutual
def Dt.vnods : Dt → List Dt
  | .agg [a, b, c, d, .lst l, f, g] => .agg [a, b, c, d, .lst l, f, g] :: vnodsL l
  | _ => []
def vnodsL : List Dt → List Dt
  | [] => []
  | x :: xs => vnodsL xs ++ x.vnods
end
theorem vnodsL_append : ∀ us vs : List Dt, vnodsL (us ++ vs) = vnodsL vs ++ vnodsL us
  | [], vs => by simp [vnodsL]
  | u :: us, vs => by simp only [List.cons_append, vnodsL, vnodsL_append us vs, List.append_assoc]
theorem IsVal.nods {d : Dt} (h : IsVal d) : d.vnods = d :: vnodsL (vkids d) := by
  cases h
  simp only [Dt.vnods, vkids]
theorem vnodsL_one (d : Dt) : vnodsL [d] = d.vnods := by simp [vnodsL]
theorem vnodsL_last {us : List Dt} {x : Dt} (h : IsVal x) : vnodsL (us ++ [x]) = x :: vnodsL (us ++ vkids x) := by
  rw [vnodsL_append, vnodsL_append, vnodsL_one, h.nods]
  rfl
theorem IsVal.kidsIs {d : Dt} (h : IsVal d) : ∀ y ∈ vkids d, IsVal y := by
  cases h
  assumption
theorem vnodsL_len : ∀ xs : List Dt, (∀ x ∈ xs, IsVal x) → xs.length ≤ (vnodsL xs).length
  | [], _ => Nat.zero_le _
  | x :: xs, h => by
    have h1 := vnodsL_len xs fun y hy => h y (by simp [hy])
    simp only [vnodsL, List.length_append, List.length_cons, (h x (by simp)).nods]
    omega
theorem vnodsL_le : ∀ xs : List Dt, (∀ x ∈ xs, x.vnods.length ≤ 1 + x.wt) → (vnodsL xs).length ≤ xs.length + wts xs
  | [], _ => by simp [vnodsL]
  | x :: xs, h => by
    have h1 := h x (by simp)
    have h2 := vnodsL_le xs fun y hy => h y (by simp [hy])
    simp only [vnodsL, List.length_append, wts, List.length_cons]
    omega
theorem vnods_len {d : Dt} (h : IsVal d) : d.vnods.length ≤ 1 + d.wt := by
  induction h with
  | mk k n s t l cc r hl hr ih =>
    have h1 := vnodsL_le l ih
    simp only [Dt.vnods, List.length_cons, Dt.wt, wts]
    omega
theorem vnodsL_all : ∀ xs : List Dt, (∀ x ∈ xs, ∀ y ∈ x.vnods, IsVal y) → ∀ y ∈ vnodsL xs, IsVal y
  | [], _, y, hy => by simp [vnodsL] at hy
  | x :: xs, h, y, hy => by
    simp only [vnodsL, List.mem_append] at hy
    rcases hy with hy | hy
    · exact vnodsL_all xs (fun z hz => h z (by simp [hz])) y hy
    · exact h x (by simp) y hy
theorem IsVal.all {d : Dt} (h : IsVal d) : ∀ y ∈ d.vnods, IsVal y := by
  induction h with
  | mk k n s t l cc r hl hr ih =>
    intro y hy
    simp only [Dt.vnods, List.mem_cons] at hy
    rcases hy with rfl | hy
    · exact IsVal.mk k n s t l cc r hl hr
    · exact vnodsL_all l ih y hy
end Go.Proofs.Ytaanfdccnnfceaa
