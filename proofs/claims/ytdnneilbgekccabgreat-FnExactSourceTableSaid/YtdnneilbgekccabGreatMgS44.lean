/-
  Texts that the proof rests on, put together: SrtO, CmpF, SetI, UniI.
-/
import Derived.Test.YtdnneilbgekccabGreatMgS30
import Derived.Test.YtdnneilbgekccabGreatMgS35
import Derived.Test.YtdnneilbgekccabGreatMgS32
import Derived.Test.YtdnneilbgekccabGreatMgS12
import Derived.Lib.SliceRun
import Derived.Deep.RegionHeld3
import Derived.Test.YtdnneilbgekccabGreatMgS17
/-
  slices.SortFunc at origins. (Written by gen8.py.)
-/

namespace Go.Proofs.YtdnneilbgekccabGreat
open Go.RowKit Go.Lib Go.Sort
set_option linter.unusedVariables false
set_option linter.unusedSimpArgs false

theorem MSt.rowSet {w wx : World} {L : List Asn} {e : TypeId} {k g n c : Nat} {xs : List Value} (h : MSt w (rowA e k (.slice (some ⟨g, 0, none⟩) n c) n xs :: L) wx) (p : Nat) (us : List Value) :
    MSt w (rowA e k (.slice (some ⟨g, 0, none⟩) n c) n (setsAt xs p us) :: L) (wx.setCells g p us) := by
  have h1 := own_setCells us p wx xs h.row
  exact ⟨h.1.upd h1.2.size (fun b hb hf => h1.2.block b hb fun e => hf e.symm) (own_base0 h1.1 (Nat.zero_le _)) (rowA_loc _ _ _ _ _) (fun b hb => .inl hb) h.size,
    Below.grown h.2 h1.2 h.size fun k hk => (h.1.rowAt.lt k hk).1⟩
end Go.Proofs.YtdnneilbgekccabGreat

/-
  slices.CompactFunc at origins. (Written by gen8.py.)
-/

namespace Go.Proofs.YtdnneilbgekccabGreat
open Go.RowKit Go.Lib Go.Sort
set_option linter.unusedVariables false
set_option linter.unusedSimpArgs false

theorem cpt_take {l : List (Int × Int)} {p : Nat} (h : p + 1 < l.length) : cpt (l.take (p + 2)) = if l[p + 1] = l[p] then cpt (l.take (p + 1)) else cpt (l.take (p + 1)) ++ [l[p + 1]] := by
  have h1 : l.take (p + 2) = l.take p ++ [l[p], l[p + 1]] := by
    rw [show p + 2 = (p + 1) + 1 by omega, List.take_succ_eq_append_getElem h, List.take_succ_eq_append_getElem (by omega), List.append_assoc]
    rfl
  have h2 : l.take (p + 1) = l.take p ++ [l[p]] := List.take_succ_eq_append_getElem (by omega)
  rw [h1, h2, cpt_snoc]
/-- The loop's state: what stands in the row. -/
def CpI (l cur : List (Int × Int)) (m k : Nat) : Prop := cur.length = l.length ∧ k = (cpt (l.take m)).length ∧ cur.take k = cpt (l.take m) ∧ ∀ i, m ≤ i + 1 → cur[i]? = l[i]?
theorem CpI.start {l : List (Int × Int)} {p : Nat} (h : p + 1 < l.length) (hc : cpt (l.take (p + 1)) = l.take (p + 1)) (he : l[p + 1] = l[p]) : CpI l l (p + 2) (p + 1) := by
  have h1 := cpt_take h
  rw [if_pos he, hc] at h1
  exact ⟨rfl, by rw [h1, List.length_take]; omega, h1.symm, fun _ _ => rfl⟩
theorem CpI.skip {l cur : List (Int × Int)} {p k : Nat} (h : CpI l cur (p + 1) k) (hl : p + 1 < l.length) (he : l[p + 1] = l[p]) : CpI l cur (p + 2) k := by
  have h1 := cpt_take hl
  rw [if_pos he] at h1
  exact ⟨h.1, by rw [h1]; exact h.2.1, by rw [h1]; exact h.2.2.1, fun i hi => h.2.2.2 i (by omega)⟩
theorem CpI.put {l cur : List (Int × Int)} {p k : Nat} (h : CpI l cur (p + 1) k) (hl : p + 1 < l.length) (hk : k ≤ p) (he : ¬ l[p + 1] = l[p]) : CpI l (cur.set k l[p + 1]) (p + 2) (k + 1) := by
  have h1 := cpt_take hl
  rw [if_neg he] at h1
  refine ⟨by rw [List.length_set]; exact h.1, by rw [h1, List.length_append, ← h.2.1]; rfl, ?_, fun i hi => ?_⟩
  · have hkl : k < cur.length := by rw [h.1]; omega
    rw [h1, ← h.2.2.1, List.take_succ_eq_append_getElem (by rw [List.length_set]; exact hkl), List.take_set_of_le (Nat.le_refl _), List.getElem_set_self]
  · rw [List.getElem?_set_ne (by omega)]
    exact h.2.2.2 i (by omega)
theorem CpI.at {l cur : List (Int × Int)} {m k i : Nat} (h : CpI l cur m k) (hm : m ≤ i + 1) (hi : i < l.length) : ∃ hc : i < cur.length, cur[i] = l[i] := by
  have h1 := h.2.2.2 i hm
  have hc : i < cur.length := by rw [h.1]; exact hi
  rw [List.getElem?_eq_getElem hi, List.getElem?_eq_getElem hc] at h1
  exact ⟨hc, by injection h1⟩
end Go.Proofs.YtdnneilbgekccabGreat
