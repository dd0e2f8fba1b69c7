/-
  SizeOf, the program's and the model's.
-/
import Derived.Test.YtcdklpflgafokaaStk
namespace Go.Proofs.Ytcdklpflgafokaa
open Go.RowKit
set_option linter.unusedVariables false

def rsz1 : Dt → Nat
  | .agg [.lst a, .lst b] => a.length + b.length
  | _ => 0
def rsz : List Dt → Nat
  | [] => 0
  | x :: xs => rsz1 x + rsz xs
mutual
def Dt.vsz : Dt → Nat
  | .agg [_, _, _, .str t, .lst l, .lst c, .lst r] => 1 + t.size + c.length + rsz r + vszs l
  | _ => 0
def vszs : List Dt → Nat
  | [] => 0
  | x :: xs => x.vsz + vszs xs
end
theorem vszs_append : ∀ us vs : List Dt, vszs (us ++ vs) = vszs us + vszs vs
  | [], vs => by simp [vszs]
  | u :: us, vs => by simp only [List.cons_append, vszs, vszs_append us vs]; omega
theorem rsz_append : ∀ us vs : List Dt, rsz (us ++ vs) = rsz us + rsz vs
  | [], vs => by simp [rsz]
  | u :: us, vs => by simp only [List.cons_append, rsz, rsz_append us vs]; omega
theorem vsz_mk (k n s : Int) (t : ByteArray) (l c r : List Dt) : Dt.vsz (.agg [.int k, .int n, .int s, .str t, .lst l, .lst c, .lst r]) = 1 + t.size + c.length + rsz r + vszs l := by simp only [Dt.vsz]
theorem rsz_le : ∀ r : List Dt, (∀ x ∈ r, IsRow x) → rsz r ≤ wts r
  | [], _ => by simp [rsz, wts]
  | x :: xs, h => by
    obtain ⟨ns, os, rfl, hos⟩ := h x (by simp)
    have := rsz_le xs fun y hy => h y (by simp [hy])
    simp only [rsz, rsz1, wts, Dt.wt, wts_ints, wts_orgs os hos]
    omega
theorem vszs_of : ∀ xs : List Dt, (∀ x ∈ xs, x.vsz ≤ 1 + x.wt) → vszs xs ≤ xs.length + wts xs
  | [], _ => by simp [vszs]
  | x :: xs, h => by
    have h1 := h x (by simp)
    have h2 := vszs_of xs fun y hy => h y (by simp [hy])
    simp only [vszs, wts, List.length_cons]
    omega
theorem vsz_le {d : Dt} (h : IsVal d) : d.vsz ≤ 1 + d.wt := by
  induction h with
  | mk k n s t l c r hl hr ih =>
    rw [vsz_mk]
    have h1 := vszs_of l ih
    have h2 := rsz_le r hr
    simp only [Dt.wt, wts, wts_strs]
    simp only [List.length_map]
    omega
theorem vsz_pos {d : Dt} (h : IsVal d) : 1 ≤ d.vsz := by cases h; rw [vsz_mk]; omega
theorem vszs_len {xs : List Dt} (h : ∀ x ∈ xs, IsVal x) : xs.length ≤ vszs xs := by
  induction xs with
  | nil => simp
  | cons x xs ih =>
    have h1 := vsz_pos (h x (by simp))
    have h2 := ih fun y hy => h y (by simp [hy])
    simp only [vszs, List.length_cons]
    omega

theorem vszs_take (xs : List Dt) (k : Nat) (hk : k < xs.length) : vszs (xs.take (k + 1)) = vszs (xs.take k) + xs[k].vsz ∧ vszs (xs.take (k + 1)) ≤ vszs xs := by
  have h := vszs_append (xs.take (k + 1)) (xs.drop (k + 1))
  rw [List.take_append_drop] at h
  refine ⟨?_, by omega⟩
  rw [List.take_succ_eq_append_getElem hk, vszs_append]
  simp [vszs]
theorem rsz_take (xs : List Dt) (k : Nat) (hk : k < xs.length) : rsz (xs.take (k + 1)) = rsz (xs.take k) + rsz1 xs[k] ∧ rsz (xs.take (k + 1)) ≤ rsz xs := by
  have h := rsz_append (xs.take (k + 1)) (xs.drop (k + 1))
  rw [List.take_append_drop] at h
  refine ⟨?_, by omega⟩
  rw [List.take_succ_eq_append_getElem hk, rsz_append]
  simp [rsz]
/-- A box that lies as a value's cells. -/
theorem box_new {e : TypeId} {s : Nat} (w : World) (vs : Array Value) (hs : vs.size = s) : (w.alloc (.cells vs e)).ownsRow w.heap.size e s (.slice (some ⟨w.heap.size, 0, none⟩) 1 1) 1 vs.toList ∧ Below w.heap.size w (w.alloc (.cells vs e)) ∧ (w.alloc (.cells vs e)).heap.size = w.heap.size + 1 :=
  ⟨World.ownsRow_lit w vs 1 (Nat.le_refl _) (by unfold maxLen; omega) (by omega), (Below.refl _ _).alloc (Nat.le_refl _) _, by simp⟩

end Go.Proofs.Ytcdklpflgafokaa
