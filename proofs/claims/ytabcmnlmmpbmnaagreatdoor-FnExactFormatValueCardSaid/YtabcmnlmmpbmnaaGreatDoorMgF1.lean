/-
  Texts that the proof rests on, put together: SplitMath.
-/
import Derived.Lib.SplitLaws
import Derived.Lib.Split
import Derived.Lib.IndexBytes
/-
  Plain facts on cutting a text at a byte: no program in this text.
-/

namespace Go.Proofs.YtabcmnlmmpbmnaaGreatDoor
open Go.Lib
set_option linter.unusedVariables false

/-- A byte ahead of the first piece. -/
def hd (b : UInt8) : List (List UInt8) → List (List UInt8)
  | [] => [[b]]
  | x :: r => (b :: x) :: r
/-- The pieces of a text between the bytes c. -/
def pcs (c : UInt8) : List UInt8 → List (List UInt8)
  | [] => [[]]
  | b :: l => if b = c then [] :: pcs c l else hd b (pcs c l)
/-- Bytes ahead of the first piece. -/
def pre (p : List UInt8) : List (List UInt8) → List (List UInt8)
  | [] => [p]
  | x :: r => (p ++ x) :: r

theorem pcs_ne (c : UInt8) : ∀ l, pcs c l ≠ []
  | [] => by simp [pcs]
  | b :: l => by
    unfold pcs
    split
    · simp
    · cases h : pcs c l <;> simp [hd]
theorem pre_nil (c : UInt8) (l : List UInt8) : pre [] (pcs c l) = pcs c l := by
  cases h : pcs c l with
  | nil => exact absurd h (pcs_ne c l)
  | cons x r => rfl
theorem pre_hd (p : List UInt8) (b : UInt8) (c : UInt8) (l : List UInt8) : pre p (hd b (pcs c l)) = pre (p ++ [b]) (pcs c l) := by
  cases h : pcs c l with
  | nil => exact absurd h (pcs_ne c l)
  | cons x r => simp [hd, pre]

theorem index_cons_ne (b c : UInt8) (l : List UInt8) (h : ¬ b = c) : index (b :: l) [c] = if index l [c] = -1 then -1 else index l [c] + 1 := by
  rw [index_one, index_one]
  simp only [indexByte]
  rw [if_neg (by simpa using h)]
  simp
theorem index_cons_eq (c : UInt8) (l : List UInt8) : index (c :: l) [c] = 0 := by
  rw [index_one]
  simp [indexByte]

theorem splitK_cons_ne (b c : UInt8) (l : List UInt8) (h : ¬ b = c) (k : Nat) : splitK [c] 0 k (b :: l) = hd b (splitK [c] 0 k l) := by
  cases k with
  | zero => rfl
  | succ k =>
    unfold splitK
    rw [index_cons_ne b c l h]
    have hge := index_ge l [c]
    by_cases hm : index l [c] = -1
    · simp [hm, hd]
    · obtain ⟨i, hi⟩ : ∃ i : Nat, index l [c] = i := ⟨(index l [c]).toNat, by omega⟩
      rw [hi]
      have h1 : ¬ ((i : Int) = -1) := by omega
      have h2 : ¬ ((i : Int) + 1 = -1) := by omega
      have h3 : ((i : Int) + 1).toNat = i + 1 := by omega
      simp [h1, h2, h3, hd]

theorem split_pcs (c : UInt8) : ∀ l : List UInt8, split l [c] = pcs c l
  | [] => by simp [split, pcs, count_one, splitK]
  | b :: l => by
    have ih := split_pcs c l
    unfold split at ih ⊢
    unfold pcs
    by_cases h : b = c
    · subst h
      rw [if_pos rfl, count_cons_eq, Nat.add_comm, ← ih]
      simp only [splitK, index_cons_eq]
      simp
    · rw [if_neg h, count_cons_ne b c l h, splitK_cons_ne b c l h, ih]

/-- The pieces as strings. -/
def pcsB (c : UInt8) (l : List UInt8) : List ByteArray := (pcs c l).map fun x => ⟨x.toArray⟩

theorem splitB_pcs (c : UInt8) (s : ByteArray) : splitB ⟨#[c]⟩ 0 (countB s ⟨#[c]⟩) s = pcsB c s.data.toList := by
  have h := splitB_data ⟨#[c]⟩ 0 (countB s ⟨#[c]⟩) s
  have e : splitK (⟨#[c]⟩ : ByteArray).data.toList 0 (countB s ⟨#[c]⟩) s.data.toList = pcs c s.data.toList := split_pcs c s.data.toList
  rw [e] at h
  unfold pcsB
  rw [← h, List.map_map]
  have hid : ((fun x : List UInt8 => (⟨x.toArray⟩ : ByteArray)) ∘ fun x : ByteArray => x.data.toList) = id := by
    funext x
    apply ByteArray.ext
    simp
  rw [hid, List.map_id]

theorem countB_pcs (c : UInt8) (s : ByteArray) : countB s ⟨#[c]⟩ + 1 = (pcsB c s.data.toList).length := by
  rw [← splitB_pcs]
  exact (splitB_all ⟨#[c]⟩ (Nat.le_refl 1) 0 _ s rfl).symm

theorem pcs_drop_eq (c : UInt8) (l : List UInt8) (k : Nat) (hk : k < l.length) (h : l[k] = c) : pcs c (l.drop k) = [] :: pcs c (l.drop (k + 1)) := by
  rw [List.drop_eq_getElem_cons hk]
  simp only [pcs]
  rw [if_pos h]
theorem pcs_drop_ne (c : UInt8) (l : List UInt8) (k : Nat) (hk : k < l.length) (h : ¬ l[k] = c) : pcs c (l.drop k) = hd l[k] (pcs c (l.drop (k + 1))) := by
  rw [List.drop_eq_getElem_cons hk]
  simp only [pcs]
  rw [if_neg h]

theorem pcs_len (c : UInt8) : ∀ l, (pcs c l).length ≤ l.length + 1
  | [] => by simp [pcs]
  | b :: l => by
    have ih := pcs_len c l
    unfold pcs
    split
    · simp; omega
    · cases h : pcs c l with
      | nil => exact absurd h (pcs_ne c l)
      | cons x r => rw [h] at ih; simp [hd] at ih ⊢; omega
theorem pcsB_len (c : UInt8) (l : List UInt8) : (pcsB c l).length ≤ l.length + 1 := by unfold pcsB; rw [List.length_map]; exact pcs_len c l
end Go.Proofs.YtabcmnlmmpbmnaaGreatDoor
