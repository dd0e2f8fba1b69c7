/-
  Texts that the proof rests on, put together: SrcM, UseM.
-/
import Derived.Test.YtooghbejbjfakaaGreatDoorMgO26
import Derived.Test.YtooghbejbjfakaaGreatDoorMgO19
import Derived.Test.YtooghbejbjfakaaGreatDoorMgO18
import Derived.Test.YtooghbejbjfakaaGreatDoorMgO29
import Derived.Maps.Views
import Derived.Deep.RegionLaw
import Derived.Deep.RegionHeld3
import Derived.Outline
/-
  What SourceTable answers. (Written by gentab.py.)
-/

namespace Go.Proofs.YtooghbejbjfakaaGreatDoor
open Go.RowKit Go.Maps
set_option linter.unusedVariables false
set_option linter.unusedSimpArgs false

/-- A row with one origin. -/
def srcRow (c i : Int) (r : Dt) : Dt := .agg [.lst (r.ce.map .int), .lst (orgsD [(c, i)])]
theorem srcRow_mk (c i : Int) (ns : List Int) (o : Dt) : srcRow c i (.agg [.lst (ns.map .int), o]) = .agg [.lst (ns.map .int), .lst (orgsD [(c, i)])] := by rw [srcRow, ce_mk]
/-- Rows, each with its place as origin. -/
def srcF (c : Int) : Nat → List Dt → List Dt
  | _, [] => []
  | i, r :: rs => srcRow c (i : Int) r :: srcF c (i + 1) rs
theorem srcF_len (c : Int) : ∀ (i : Nat) (l : List Dt), (srcF c i l).length = l.length
  | _, [] => rfl
  | i, r :: rs => by simp [srcF, srcF_len c (i + 1) rs]
theorem srcF_snoc (c : Int) : ∀ (i : Nat) (l : List Dt) (x : Dt), srcF c i (l ++ [x]) = srcF c i l ++ [srcRow c ((i + l.length : Nat) : Int) x]
  | i, [], x => by simp [srcF]
  | i, r :: rs, x => by
    simp only [List.cons_append, srcF, srcF_snoc c (i + 1) rs x, List.length_cons]
    rw [show i + 1 + rs.length = i + (rs.length + 1) by omega]
theorem srcF_next {c : Int} {rs : List Dt} {j : Nat} (hj : j < rs.length) : srcF c 0 (rs.take (j + 1)) = srcF c 0 (rs.take j) ++ [srcRow c (j : Int) rs[j]] := by
  rw [List.take_succ_eq_append_getElem hj, srcF_snoc, List.length_take, Nat.min_eq_left (by omega), Nat.zero_add]
open Classical in
/-- What SourceTable answers. -/
noncomputable def srcD (c : Int) (t : Dt) : Dt := if (t.kd = 5 ∧ t.SV) ∧ ¬ c < 0 then tblD t.co (srcF c 0 t.rw) else errD 4
theorem srcD_yes {t : Dt} {c : Int} (h : t.kd = 5 ∧ t.SV) (hc : ¬ c < 0) : srcD c t = tblD t.co (srcF c 0 t.rw) := if_pos ⟨h, hc⟩
theorem srcD_no {t : Dt} {c : Int} (h : ¬ ((t.kd = 5 ∧ t.SV) ∧ ¬ c < 0)) : srcD c t = errD 4 := if_neg h
theorem MSt.row2s {w wx : World} {L : List Asn} {a b : List Dt} {va vb : Value} {fa fb : List Nat} (h : MSt w (owA (.lst a) [va] fa :: owA (.lst b) [vb] fb :: L) wx) : MSt w (owA (.agg [.lst a, .lst b]) [va, vb] (fa ++ fb) :: L) wx :=
  h.alter fun o => (Objs.pair ((Objs.single o).swap.single.swap)).agg

end Go.Proofs.YtooghbejbjfakaaGreatDoor

/-
  Places of rows. (Written by gen8.py.)
-/

namespace Go.Proofs.YtooghbejbjfakaaGreatDoor
open Go.RowKit Go.Lib Go.Sort
set_option linter.unusedVariables false
set_option linter.unusedSimpArgs false

open Classical in
/-- The places of the first j rows that use an origin. -/
noncomputable def usesTo (o : Int × Int) (rs : List Dt) : Nat → List Int
  | 0 => []
  | j + 1 => if o ∈ ((rs[j]?).getD (.int 0)).fr.map pr then usesTo o rs j ++ [(j : Int)] else usesTo o rs j
theorem usesTo_yes {o : Int × Int} {rs : List Dt} {j : Nat} (hj : j < rs.length) (h : o ∈ rs[j].fr.map pr) : usesTo o rs (j + 1) = usesTo o rs j ++ [(j : Int)] := by
  rw [usesTo, List.getElem?_eq_getElem hj]
  exact if_pos h
theorem usesTo_no {o : Int × Int} {rs : List Dt} {j : Nat} (hj : j < rs.length) (h : ¬ o ∈ rs[j].fr.map pr) : usesTo o rs (j + 1) = usesTo o rs j := by
  rw [usesTo, List.getElem?_eq_getElem hj]
  exact if_neg h
theorem usesTo_len (o : Int × Int) (rs : List Dt) : ∀ j, (usesTo o rs j).length ≤ j
  | 0 => by simp [usesTo]
  | j + 1 => by
    have h := usesTo_len o rs j
    rw [usesTo]
    split
    · rw [List.length_append]; simp; omega
    · omega
/-- A row of numbers of the call's own. -/
abbrev intA (v : Value) (l : List Int) : Asn := rowA 3 1 v l.length (intV l)
theorem MSt.intVl {w wx : World} {L : List Asn} {v : Value} {l : List Int} (h : MSt w (intA v l :: L) wx) : ∃ A c, v = .slice A l.length c := by
  obtain ⟨A, c, rfl⟩ := own_slice (MSt.row h)
  exact ⟨A, c, rfl⟩
theorem MSt.intOw {w wx : World} {L : List Asn} {v : Value} {l : List Int} (h : MSt w (intA v l :: L) wx) : MSt w (owA (.lst (l.map .int)) [v] v.ownBlock.toList :: L) wx :=
  MSt.close0 h (fun w' => OwL.ints w' l) (List.length_map _).symm
theorem MSt.intApp {w wx wy : World} {L : List Asn} {v v' : Value} {l : List Int} {x : Int} (h : MSt w (intA v l :: L) wx) (hg : wx.grownBy wy v.ownBlock) (ho : wy.ownsRow w.heap.size 3 1 v' (l.length + 1) (intV l ++ [.int .i64 x]))
    (hb : v'.ownBlock = v.ownBlock ∨ v'.ownBlock = some wx.heap.size) : MSt w (intA v' (l ++ [x]) :: L) wy := by
  have h1 := MSt.app h hg ho hb
  have e : intV l ++ [.int .i64 x] = intV (l ++ [x]) := by simp [intV]
  rw [e, show l.length + 1 = (l ++ [x]).length by simp] at h1
  exact h1
theorem MSt.box2 {w wx : World} {L : List Asn} {e : TypeId} {g : Nat} {a b : Value} (h : MSt w L wx) (ha : boxA e 2 g [a, b] ∈ L) : wx.cell? ⟨g, 0, none⟩ = some a ∧ wx.cell? ⟨g, 1, none⟩ = some b ∧ g < wx.heap.size := by
  have hb : wx.ownsRow 0 e 2 (.slice (some ⟨g, 0, none⟩) 1 1) 1 [a, b] := MSt.hasB h ha
  exact ⟨hb.cellAt 0 (by decide), hb.cellAt 1 (by decide), (hb.lt _ rfl).2⟩
end Go.Proofs.YtooghbejbjfakaaGreatDoor
