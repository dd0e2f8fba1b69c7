/-
  Texts that the proof rests on, put together: Orgs, OrgLaw.
-/
import Derived.Test.YtdnneilbgekccabGreatMgS29
import Derived.Test.YtdnneilbgekccabGreatMgS14
import Derived.Test.YtdnneilbgekccabGreatMgS18
import Derived.Test.YtdnneilbgekccabGreatMgS15
import Derived.Test.YtdnneilbgekccabGreatMgS9
import Derived.Test.YtdnneilbgekccabGreatMgS12
import Derived.Test.YtdnneilbgekccabGreatMgS5
/-
  Rows of origins. (Written by gen8.py.)
-/

namespace Go.Proofs.YtdnneilbgekccabGreat
open Go.RowKit Go.Lib Go.Sort
set_option linter.unusedVariables false
set_option linter.unusedSimpArgs false

/-- An origin as a datum. -/
def orgD (p : Int × Int) : Dt := .agg [.int p.1, .int p.2]
def orgsD (l : List (Int × Int)) : List Dt := l.map orgD
theorem isOrg_orgD (p : Int × Int) : IsOrg (orgD p) := ⟨p.1, p.2, rfl⟩
theorem orgsD_org (l : List (Int × Int)) : ∀ x ∈ orgsD l, IsOrg x := by
  intro x hx
  obtain ⟨p, _, rfl⟩ := List.mem_map.1 hx
  exact isOrg_orgD p
theorem orgsD_len (l : List (Int × Int)) : (orgsD l).length = l.length := List.length_map _
theorem orgs_rdl (w : World) (B : Nat) : ∀ l : List (Int × Int), RdL w B (orgsD l) (l.flatMap encO)
  | [] => by simp [orgsD, RdL]
  | x :: l => by
    have ih := orgs_rdl w B l
    unfold orgsD at ih ⊢
    rw [List.map_cons, List.flatMap_cons]
    simp only [RdL]
    refine ⟨encO x, _, rfl, ?_, ih⟩
    simp only [orgD, Rd, RdL]
    exact ⟨_, _, rfl, rfl, _, _, rfl, rfl, rfl⟩
theorem orgs_owl (w : World) (l : List (Int × Int)) : OwL w (orgsD l) (l.flatMap encO) [] := OwL.orgs_of (B := 0) (orgsD_org l) (orgs_rdl w 0 l) w
/-- Origins lie in a row below B. -/
abbrev OrgsR (w : World) (B : Nat) (A : Option Addr) (l : List (Int × Int)) : Prop := RowOf w B A (l.flatMap encO)
theorem row_newG8 (w : World) (cs : Array Value) (t : TypeId) (g : Nat) (hg : g = w.heap.size) : RowOf (w.alloc (.cells cs t)) (g + 1) (some ⟨g, 0, none⟩) cs.toList := by
  subst hg
  exact row_new w cs t
/-- A row of origins of the call's own. -/
abbrev orgA (v : Value) (l : List (Int × Int)) : Asn := rowA 77 2 v l.length (l.flatMap encO)
end Go.Proofs.YtdnneilbgekccabGreat
