/-
  Tables taken apart; the place of a column.
-/
import Derived.Test.YtcdklpflgafokaaSz
import Derived.Test.YtcdklpflgafokaaHas
namespace Go.Proofs.Ytcdklpflgafokaa
open Go.RowKit
set_option linter.unusedVariables false

/-! ### tables taken apart -/
def Dt.co : Dt → List ByteArray
  | .agg [_, _, _, _, _, .lst c, _] => c.map fun x => match x with | .str s => s | _ => ⟨#[]⟩
  | _ => []
def Dt.rw : Dt → List Dt
  | .agg [_, _, _, _, _, _, .lst r] => r
  | _ => []
theorem co_mk (k n s : Dt) (t l : Dt) (c : List ByteArray) (r : Dt) : Dt.co (.agg [k, n, s, t, l, .lst (c.map .str), r]) = c := by
  simp only [Dt.co, List.map_map]
  conv => rhs; rw [← List.map_id c]
  rfl
theorem rw_mk (k n s t l c : Dt) (r : List Dt) : Dt.rw (.agg [k, n, s, t, l, c, .lst r]) = r := rfl
/-- A row's cells and origins. -/
def Dt.ce : Dt → List Int
  | .agg [.lst ns, _] => ns.map fun x => match x with | .int n => n | _ => 0
  | _ => []
def Dt.fr : Dt → List Dt
  | .agg [_, .lst os] => os
  | _ => []
theorem ce_mk (ns : List Int) (o : Dt) : Dt.ce (.agg [.lst (ns.map .int), o]) = ns := by
  simp only [Dt.ce, List.map_map]
  conv => rhs; rw [← List.map_id ns]
  rfl
theorem fr_mk (n : Dt) (os : List Dt) : Dt.fr (.agg [n, .lst os]) = os := rfl
def Dt.at (r : Dt) (k : Nat) : Int := (r.ce[k]?).getD 0
/-- The place of a column. -/
theorem idxFrom_or (x : ByteArray) : ∀ (zs : List ByteArray) (i : Nat), (Lib.idxFromS zs x i = -1 ∧ x ∉ zs) ∨ ∃ k, k < zs.length ∧ Lib.idxFromS zs x i = ((i + k : Nat) : Int) ∧ x ∈ zs
  | [], i => .inl ⟨rfl, by simp⟩
  | z :: zs, i => by
    unfold Lib.idxFromS
    by_cases h : z = x
    · exact .inr ⟨0, by simp, by rw [if_pos h]; rfl, by simp [h]⟩
    · rw [if_neg h]
      rcases idxFrom_or x zs (i + 1) with ⟨h1, h2⟩ | ⟨k, h1, h2, h3⟩
      · exact .inl ⟨h1, by simp only [List.mem_cons, not_or]; exact ⟨fun e => h e.symm, h2⟩⟩
      · exact .inr ⟨k + 1, by simpa using h1, by rw [h2]; congr 1; omega, by simp [h3]⟩
theorem idx_or (cc : List ByteArray) (s : ByteArray) : (Lib.idxOfS cc s = -1 ∧ s ∉ cc) ∨ ∃ k, k < cc.length ∧ Lib.idxOfS cc s = ((k : Nat) : Int) ∧ s ∈ cc := by
  rcases idxFrom_or s cc 0 with h | ⟨k, h1, h2, h3⟩
  · exact .inl h
  · exact .inr ⟨k, h1, by rw [Nat.zero_add] at h2; exact h2, h3⟩
def pos (cc : List ByteArray) (s : ByteArray) : Nat := (Lib.idxOfS cc s).toNat
end Go.Proofs.Ytcdklpflgafokaa
