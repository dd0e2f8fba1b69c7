/-
  Texts that the proof rests on, put together: SrcM.
-/
import Derived.Test.YtdnneilbgekccabGreatMgS33
import Derived.Test.YtdnneilbgekccabGreatMgS30
import Derived.Test.YtdnneilbgekccabGreatMgS29
import Derived.Test.YtdnneilbgekccabGreatMgS41
import Derived.Maps.Views
import Derived.Deep.RegionLaw
import Derived.Deep.RegionHeld3
import Derived.Outline
/-
  What SourceTable answers. (Written by gentab.py.)
-/

namespace Go.Proofs.YtdnneilbgekccabGreat
open Go.RowKit Go.Maps
set_option linter.unusedVariables false
set_option linter.unusedSimpArgs false

/-- A row with one origin. -/
def srcRow (c i : Int) (r : Dt) : Dt := .agg [.lst (r.ce.map .int), .lst (orgsD [(c, i)])]
theorem srcRow_mk (c i : Int) (ns : List Int) (o : Dt) : srcRow c i (.agg [.lst (ns.map .int), o]) = .agg [.lst (ns.map .int), .lst (orgsD [(c, i)])] := by rw [srcRow, ce_mk]
theorem isRow_srcRow (c i : Int) (r : Dt) : IsRow (srcRow c i r) := ⟨r.ce, orgsD [(c, i)], rfl, orgsD_org _⟩
/-- Rows, each with its place as origin. -/
def srcF (c : Int) : Nat → List Dt → List Dt
  | _, [] => []
  | i, r :: rs => srcRow c (i : Int) r :: srcF c (i + 1) rs
theorem srcF_len (c : Int) : ∀ (i : Nat) (l : List Dt), (srcF c i l).length = l.length
  | _, [] => rfl
  | i, r :: rs => by simp [srcF, srcF_len c (i + 1) rs]
theorem srcF_snoc (c : Int) : ∀ (i : Nat) (l : List Dt) (x : Dt), srcF c i (l ++ [x]) = srcF c i l ++ [srcRow c ((i + l.length : Nat) : Int) x]
  | i, [], x => by simp [srcF]
  | i, r :: rs, x => by
    simp only [List.cons_append, srcF, srcF_snoc c (i + 1) rs x, List.length_cons]
    rw [show i + 1 + rs.length = i + (rs.length + 1) by omega]
theorem srcF_next {c : Int} {rs : List Dt} {j : Nat} (hj : j < rs.length) : srcF c 0 (rs.take (j + 1)) = srcF c 0 (rs.take j) ++ [srcRow c (j : Int) rs[j]] := by
  rw [List.take_succ_eq_append_getElem hj, srcF_snoc, List.length_take, Nat.min_eq_left (by omega), Nat.zero_add]
theorem srcF_row (c : Int) : ∀ (i : Nat) (l : List Dt), ∀ x ∈ srcF c i l, IsRow x
  | _, [], x, h => by simp [srcF] at h
  | i, r :: rs, x, h => by
    rcases List.mem_cons.1 h with rfl | h
    · exact isRow_srcRow _ _ _
    · exact srcF_row c (i + 1) rs x h
open Classical in
/-- What SourceTable answers. -/
noncomputable def srcD (c : Int) (t : Dt) : Dt := if (t.kd = 5 ∧ t.SV) ∧ ¬ c < 0 then tblD t.co (srcF c 0 t.rw) else errD 4
theorem srcD_yes {t : Dt} {c : Int} (h : t.kd = 5 ∧ t.SV) (hc : ¬ c < 0) : srcD c t = tblD t.co (srcF c 0 t.rw) := if_pos ⟨h, hc⟩
theorem srcD_no {t : Dt} {c : Int} (h : ¬ ((t.kd = 5 ∧ t.SV) ∧ ¬ c < 0)) : srcD c t = errD 4 := if_neg h
theorem isVal_srcD {t : Dt} (c : Int) : IsVal (srcD c t) := by
  unfold srcD
  split
  · exact isVal_tblD _ _ (fun x hx => srcF_row c 0 t.rw x hx)
  · exact isVal_flatD _ _ _
theorem MSt.row2s {w wx : World} {L : List Asn} {a b : List Dt} {va vb : Value} {fa fb : List Nat} (h : MSt w (owA (.lst a) [va] fa :: owA (.lst b) [vb] fb :: L) wx) : MSt w (owA (.agg [.lst a, .lst b]) [va, vb] (fa ++ fb) :: L) wx :=
  h.alter fun o => (Objs.pair ((Objs.single o).swap.single.swap)).agg

end Go.Proofs.YtdnneilbgekccabGreat
