/-
  Texts that the proof rests on, put together: VMath.
-/
import Derived.Test.YtabcmnlmmpbmnaaMgE18
import Derived.Test.YtabcmnlmmpbmnaaMgE13
/-
  Which values are valid, said plainly, in the model's way and in the program's. (Written by genwithin.py.)
-/

namespace Go.Proofs.Ytabcmnlmmpbmnaa
open Go.RowKit
set_option linter.unusedVariables false

def Core (L : Prop) (k n s : Int) (t : ByteArray) (l : List Dt) (cc : List ByteArray) (r : List Dt) : Prop :=
  (k = 1 ∧ NumOk n ∧ s = 0 ∧ t = ⟨#[]⟩ ∧ l = [] ∧ cc = [] ∧ r = []) ∨
  (k = 2 ∧ VT t ∧ n = 0 ∧ s = 0 ∧ l = [] ∧ cc = [] ∧ r = []) ∨
  (k = 3 ∧ L ∧ n = 0 ∧ s = 0 ∧ t = ⟨#[]⟩ ∧ cc = [] ∧ r = []) ∨
  (k = 4 ∧ (NumOk n ∧ NumOk s) ∧ t = ⟨#[]⟩ ∧ l = [] ∧ cc = [] ∧ r = []) ∨
  (k = 5 ∧ TblOk cc r ∧ n = 0 ∧ s = 0 ∧ t = ⟨#[]⟩ ∧ l = []) ∨
  (k = 6 ∧ (1 ≤ n ∧ n ≤ 8) ∧ s = 0 ∧ t = ⟨#[]⟩ ∧ l = [] ∧ cc = [] ∧ r = [])
def isEl : Dt → Prop
  | .agg (.int k :: _) => k = 1 ∨ k = 2 ∨ k = 3
  | _ => False
mutual
def Dt.SV : Dt → Prop
  | .agg [.int k, .int n, .int s, .str t, .lst l, .lst c, .lst r] => ∃ cc : List ByteArray, c = cc.map .str ∧ Core (SVs l ∧ l.length ≤ 8 ∧ 1 + deps l ≤ 3) k n s t l cc r
  | _ => False
def SVs : List Dt → Prop
  | [] => True
  | x :: xs => (isEl x ∧ x.SV) ∧ SVs xs
end
def W : Nat → Dt → Prop
  | 0, _ => False
  | m + 1, d => match d with
    | .agg [.int k, .int n, .int s, .str t, .lst l, .lst c, .lst r] => ∃ cc : List ByteArray, c = cc.map .str ∧ Core (l.length ≤ 8 ∧ (l = [] ∨ 1 ≤ m) ∧ ∀ x ∈ l, isEl x ∧ W m x) k n s t l cc r
    | _ => False
theorem SV_mk (k n s : Int) (t : ByteArray) (l : List Dt) (cc : List ByteArray) (r : List Dt) : Dt.SV (.agg [.int k, .int n, .int s, .str t, .lst l, .lst (cc.map .str), .lst r]) ↔ Core (SVs l ∧ l.length ≤ 8 ∧ 1 + deps l ≤ 3) k n s t l cc r := by
  simp only [Dt.SV]
  constructor
  · rintro ⟨cc', e, h⟩
    rwa [strs_inj e]
  · intro h
    exact ⟨cc, rfl, h⟩
theorem W_mk (m : Nat) (k n s : Int) (t : ByteArray) (l : List Dt) (cc : List ByteArray) (r : List Dt) : W (m + 1) (.agg [.int k, .int n, .int s, .str t, .lst l, .lst (cc.map .str), .lst r]) ↔ Core (l.length ≤ 8 ∧ (l = [] ∨ 1 ≤ m) ∧ ∀ x ∈ l, isEl x ∧ W m x) k n s t l cc r := by
  simp only [W]
  constructor
  · rintro ⟨cc', e, h⟩
    rwa [strs_inj e]
  · intro h
    exact ⟨cc, rfl, h⟩
theorem SVs_all : ∀ l : List Dt, SVs l ↔ ∀ x ∈ l, isEl x ∧ x.SV
  | [] => by simp [SVs]
  | x :: xs => by simp [SVs, SVs_all xs]
theorem deps_le : ∀ (l : List Dt) (m : Nat), deps l ≤ m ↔ ∀ x ∈ l, x.dep ≤ m
  | [], m => by simp [deps]
  | x :: xs, m => by
    have := deps_le xs m
    simp only [deps, List.mem_cons, forall_eq_or_imp]
    rw [← this]
    omega
theorem dep_pos {d : Dt} (h : IsVal d) : 1 ≤ d.dep := by cases h; rw [dep_mk]; omega
theorem Core_imp {L L' : Prop} {k n s : Int} {t : ByteArray} {l : List Dt} {cc : List ByteArray} {r : List Dt} (hL : k = 3 → L → L') (h : Core L k n s t l cc r) : Core L' k n s t l cc r := by
  rcases h with h | h | h | h | h | h
  · exact .inl h
  · exact .inr (.inl h)
  · exact .inr (.inr (.inl ⟨h.1, hL h.1 h.2.1, h.2.2⟩))
  · exact .inr (.inr (.inr (.inl h)))
  · exact .inr (.inr (.inr (.inr (.inl h))))
  · exact .inr (.inr (.inr (.inr (.inr h))))
theorem Core_flat {L : Prop} {k n s : Int} {t : ByteArray} {l : List Dt} {cc : List ByteArray} {r : List Dt} (h : Core L k n s t l cc r) : (k = 3 ∧ L) ∨ l = [] := by
  rcases h with h | h | h | h | h | h
  · exact .inr h.2.2.2.2.1
  · exact .inr h.2.2.2.2.1
  · exact .inl ⟨h.1, h.2.1⟩
  · exact .inr h.2.2.2.1
  · exact .inr h.2.2.2.2.2
  · exact .inr h.2.2.2.2.1
theorem W_iff : ∀ (m : Nat), m ≤ 3 → ∀ d, IsVal d → (W m d ↔ d.SV ∧ d.dep ≤ m)
  | 0, _, d, hd => by
    have := dep_pos hd
    simp only [W, false_iff]
    intro h
    omega
  | m + 1, hm, d, hd => by
    cases hd with
    | mk k n s t l cc r hl hr =>
    rw [W_mk, SV_mk, dep_mk]
    have ih : ∀ x ∈ l, (W m x ↔ x.SV ∧ x.dep ≤ m) := fun x hx => W_iff m (by omega) x (hl x hx)
    constructor
    · intro h
      have hd : 1 + deps l ≤ m + 1 := by
        rcases Core_flat h with ⟨_, h1⟩ | h1
        · have := (deps_le l m).2 fun x hx => ((ih x hx).1 (h1.2.2 x hx).2).2
          omega
        · subst h1; simp [deps]
      exact ⟨Core_imp (fun _ h1 => ⟨(SVs_all l).2 fun x hx => ⟨(h1.2.2 x hx).1, ((ih x hx).1 (h1.2.2 x hx).2).1⟩, h1.1, by omega⟩) h, hd⟩
    · rintro ⟨h, hd⟩
      refine Core_imp (fun _ h1 => ⟨h1.2.1, ?_, fun x hx => ⟨((SVs_all l).1 h1.1 x hx).1, (ih x hx).2 ⟨((SVs_all l).1 h1.1 x hx).2, (deps_le l m).1 (by omega) x hx⟩⟩⟩) h
      cases l with
      | nil => exact .inl rfl
      | cons x xs =>
        have h2 := (deps_le (x :: xs) m).1 (by omega) x (by simp)
        have h3 := dep_pos (hl x (by simp))
        exact .inr (by omega)
theorem W3_iff {d : Dt} (hd : IsVal d) : W 3 d ↔ d.SV := by
  rw [W_iff 3 (Nat.le_refl _) d hd]
  refine ⟨fun h => h.1, fun h => ⟨h, ?_⟩⟩
  cases hd with
  | mk k n s t l cc r hl hr =>
  rw [SV_mk] at h
  rw [dep_mk]
  rcases Core_flat h with ⟨_, h1⟩ | h1
  · exact h1.2.2
  · subst h1; simp [deps]
end Go.Proofs.Ytabcmnlmmpbmnaa
