/-
  Texts that the proof rests on, put together: UseM.
-/
import Derived.Test.YtdnneilbgekccabMgR16
import Derived.Test.YtdnneilbgekccabMgR18
/-
  Places of rows. (Written by gen8.py.)
-/

namespace Go.Proofs.Ytdnneilbgekccab
open Go.RowKit Go.Lib Go.Sort
set_option linter.unusedVariables false
set_option linter.unusedSimpArgs false

open Classical in
/-- The places of the first j rows that use an origin. -/
noncomputable def usesTo (o : Int × Int) (rs : List Dt) : Nat → List Int
  | 0 => []
  | j + 1 => if o ∈ ((rs[j]?).getD (.int 0)).fr.map pr then usesTo o rs j ++ [(j : Int)] else usesTo o rs j
theorem usesTo_yes {o : Int × Int} {rs : List Dt} {j : Nat} (hj : j < rs.length) (h : o ∈ rs[j].fr.map pr) : usesTo o rs (j + 1) = usesTo o rs j ++ [(j : Int)] := by
  rw [usesTo, List.getElem?_eq_getElem hj]
  exact if_pos h
theorem usesTo_no {o : Int × Int} {rs : List Dt} {j : Nat} (hj : j < rs.length) (h : ¬ o ∈ rs[j].fr.map pr) : usesTo o rs (j + 1) = usesTo o rs j := by
  rw [usesTo, List.getElem?_eq_getElem hj]
  exact if_neg h
theorem usesTo_len (o : Int × Int) (rs : List Dt) : ∀ j, (usesTo o rs j).length ≤ j
  | 0 => by simp [usesTo]
  | j + 1 => by
    have h := usesTo_len o rs j
    rw [usesTo]
    split
    · rw [List.length_append]; simp; omega
    · omega
/-- A row of numbers of the call's own. -/
abbrev intA (v : Value) (l : List Int) : Asn := rowA 3 1 v l.length (intV l)
theorem MSt.intVl {w wx : World} {L : List Asn} {v : Value} {l : List Int} (h : MSt w (intA v l :: L) wx) : ∃ A c, v = .slice A l.length c := by
  obtain ⟨A, c, rfl⟩ := own_slice (MSt.row h)
  exact ⟨A, c, rfl⟩
theorem MSt.intOw {w wx : World} {L : List Asn} {v : Value} {l : List Int} (h : MSt w (intA v l :: L) wx) : MSt w (owA (.lst (l.map .int)) [v] v.ownBlock.toList :: L) wx :=
  MSt.close0 h (fun w' => OwL.ints w' l) (List.length_map _).symm
theorem MSt.intApp {w wx wy : World} {L : List Asn} {v v' : Value} {l : List Int} {x : Int} (h : MSt w (intA v l :: L) wx) (hg : wx.grownBy wy v.ownBlock) (ho : wy.ownsRow w.heap.size 3 1 v' (l.length + 1) (intV l ++ [.int .i64 x]))
    (hb : v'.ownBlock = v.ownBlock ∨ v'.ownBlock = some wx.heap.size) : MSt w (intA v' (l ++ [x]) :: L) wy := by
  have h1 := MSt.app h hg ho hb
  have e : intV l ++ [.int .i64 x] = intV (l ++ [x]) := by simp [intV]
  rw [e, show l.length + 1 = (l ++ [x]).length by simp] at h1
  exact h1
theorem MSt.box2 {w wx : World} {L : List Asn} {e : TypeId} {g : Nat} {a b : Value} (h : MSt w L wx) (ha : boxA e 2 g [a, b] ∈ L) : wx.cell? ⟨g, 0, none⟩ = some a ∧ wx.cell? ⟨g, 1, none⟩ = some b ∧ g < wx.heap.size := by
  have hb : wx.ownsRow 0 e 2 (.slice (some ⟨g, 0, none⟩) 1 1) 1 [a, b] := MSt.hasB h ha
  exact ⟨hb.cellAt 0 (by decide), hb.cellAt 1 (by decide), (hb.lt _ rfl).2⟩
end Go.Proofs.Ytdnneilbgekccab
