/-
  Texts that the proof rests on, put together: Orgs.
-/
import Derived.Test.YtdnneilbgekccaaGreatDoorMg24
import Derived.Test.YtdnneilbgekccaaGreatDoorMg14
import Derived.Test.YtdnneilbgekccaaGreatDoorMg15
import Derived.Test.YtdnneilbgekccaaGreatDoorMg11
/-
  Rows of origins. (Written by gen8.py.)
-/

namespace Go.Proofs.YtdnneilbgekccaaGreatDoor
open Go.RowKit Go.Lib Go.Sort
set_option linter.unusedVariables false
set_option linter.unusedSimpArgs false

/-- An origin as a datum. -/
def orgD (p : Int × Int) : Dt := .agg [.int p.1, .int p.2]
def orgsD (l : List (Int × Int)) : List Dt := l.map orgD
theorem isOrg_orgD (p : Int × Int) : IsOrg (orgD p) := ⟨p.1, p.2, rfl⟩
theorem orgsD_org (l : List (Int × Int)) : ∀ x ∈ orgsD l, IsOrg x := by
  intro x hx
  obtain ⟨p, _, rfl⟩ := List.mem_map.1 hx
  exact isOrg_orgD p
theorem orgsD_len (l : List (Int × Int)) : (orgsD l).length = l.length := List.length_map _
theorem orgsD_pr : ∀ {os : List Dt}, (∀ x ∈ os, IsOrg x) → orgsD (os.map pr) = os
  | [], _ => rfl
  | x :: os, h => by
    obtain ⟨a, b, rfl⟩ := h x (by simp)
    have ih := orgsD_pr fun y hy => h y (List.mem_cons_of_mem _ hy)
    unfold orgsD at *
    rw [List.map_cons, List.map_cons, ih]
    rfl
theorem pr_orgsD (l : List (Int × Int)) : (orgsD l).map pr = l := by
  unfold orgsD
  rw [List.map_map]
  conv => rhs; rw [← List.map_id l]
  rfl
theorem rdl_orgs {w : World} {B : Nat} : ∀ {l : List (Int × Int)} {cs : List Value}, RdL w B (orgsD l) cs → cs = l.flatMap encO := by
  intro l cs h
  have h1 := h.orgsO (orgsD_org l)
  rw [pr_orgsD] at h1
  exact h1
theorem orgs_rdl (w : World) (B : Nat) : ∀ l : List (Int × Int), RdL w B (orgsD l) (l.flatMap encO)
  | [] => by simp [orgsD, RdL]
  | x :: l => by
    have ih := orgs_rdl w B l
    unfold orgsD at ih ⊢
    rw [List.map_cons, List.flatMap_cons]
    simp only [RdL]
    refine ⟨encO x, _, rfl, ?_, ih⟩
    simp only [orgD, Rd, RdL]
    exact ⟨_, _, rfl, rfl, _, _, rfl, rfl, rfl⟩
theorem orgs_owl (w : World) (l : List (Int × Int)) : OwL w (orgsD l) (l.flatMap encO) [] := OwL.orgs_of (B := 0) (orgsD_org l) (orgs_rdl w 0 l) w
/-- Origins lie in a row below B. -/
abbrev OrgsR (w : World) (B : Nat) (A : Option Addr) (l : List (Int × Int)) : Prop := RowOf w B A (l.flatMap encO)
theorem rd_orgs {w : World} {B : Nat} {l : List (Int × Int)} {A : Option Addr} {n c : Nat} (h : Rd w B (.lst (orgsD l)) [.slice A n c]) : n = l.length ∧ l.length ≤ c ∧ c ≤ maxLen ∧ OrgsR w B A l := by
  obtain ⟨h1, h2, h3⟩ := h.lst_len
  rw [orgsD_len] at h1 h2
  obtain ⟨cells, h4, h5, -⟩ := h.cells (k := 2) fun x hx => (orgsD_org l x hx).width
  rw [rdl_orgs h5] at h4
  exact ⟨h1, h2, h3, h4⟩
theorem rd_orgl {w : World} {B : Nat} {l : List (Int × Int)} {cs : List Value} (h : Rd w B (.lst (orgsD l)) cs) : ∃ A c, cs = [.slice A l.length c] ∧ l.length ≤ c ∧ c ≤ maxLen ∧ OrgsR w B A l := by
  have h1 := h
  simp only [Rd] at h1
  obtain ⟨A, c, _, rfl, -⟩ := h1
  obtain ⟨h2, h3, h4, h5⟩ := rd_orgs h
  rw [orgsD_len]
  exact ⟨A, c, rfl, h3, h4, h5⟩
theorem flatO_at : ∀ (l : List (Int × Int)) (j : Nat) (hj : j < l.length), (l.flatMap encO)[j * 2]? = some (.int .i64 l[j].1) ∧ (l.flatMap encO)[j * 2 + 1]? = some (.int .i64 l[j].2)
  | [], j, h => by simp at h
  | x :: l, 0, _ => by simp [encO]
  | x :: l, j + 1, h => by
    have ih := flatO_at l j (by simpa using h)
    rw [List.flatMap_cons, show (j + 1) * 2 = j * 2 + 2 by omega]
    exact ih
theorem orgs_at {w : World} {B : Nat} {A : Option Addr} {l : List (Int × Int)} (h : OrgsR w B A l) (j : Nat) (hj : j < l.length) :
    ∃ b o, A = some ⟨b, o, none⟩ ∧ b < B ∧ w.cell? ⟨b, o + j * 2, none⟩ = some (.int .i64 l[j].1) ∧ w.cell? ⟨b, o + j * 2 + 1, none⟩ = some (.int .i64 l[j].2) := by
  obtain ⟨h1, h2⟩ := flatO_at l j hj
  obtain ⟨b, o, e, hb, h3⟩ := h _ _ h1
  obtain ⟨b', o', e', hb', h4⟩ := h _ _ h2
  subst e
  simp only [Option.some.injEq, Addr.mk.injEq, and_true] at e'
  obtain ⟨rfl, rfl⟩ := e'
  exact ⟨b, o, rfl, hb, h3, by rw [Nat.add_assoc]; exact h4⟩
theorem row_newG8 (w : World) (cs : Array Value) (t : TypeId) (g : Nat) (hg : g = w.heap.size) : RowOf (w.alloc (.cells cs t)) (g + 1) (some ⟨g, 0, none⟩) cs.toList := by
  subst hg
  exact row_new w cs t
theorem encO_one (l : List (Int × Int)) : ∀ u ∈ l.flatMap encO, u.oneCell' = true := by
  intro u hu
  obtain ⟨x, _, hx⟩ := List.mem_flatMap.1 hu
  simp only [encO, List.mem_cons, List.not_mem_nil, or_false] at hx
  rcases hx with rfl | rfl <;> rfl
/-- A row of origins of the call's own. -/
abbrev orgA (v : Value) (l : List (Int × Int)) : Asn := rowA 109 2 v l.length (l.flatMap encO)
theorem MSt.orgR {w wx : World} {L : List Asn} {A : Option Addr} {n c : Nat} {l : List (Int × Int)} (h : MSt w (orgA (.slice A n c) l :: L) wx) (hn : n = l.length) : OrgsR wx wx.heap.size A l := by
  subst hn
  exact own_row (MSt.row h) fun b hb => ((MSt.row h).lt b hb).2
theorem MSt.orgV {w wx : World} {L : List Asn} {v : Value} {l : List (Int × Int)} (h : MSt w (orgA v l :: L) wx) : ∃ A c, v = .slice A l.length c ∧ l.length ≤ c ∧ c ≤ maxLen := by
  obtain ⟨A, c, rfl⟩ := own_slice (MSt.row h)
  exact ⟨A, c, rfl, own_cap (MSt.row h)⟩
theorem MSt.orgOw {w wx : World} {L : List Asn} {v : Value} {l : List (Int × Int)} (h : MSt w (orgA v l :: L) wx) : MSt w (owA (.lst (orgsD l)) [v] v.ownBlock.toList :: L) wx :=
  MSt.close0 h (fun w' => orgs_owl w' l) (orgsD_len l).symm
end Go.Proofs.YtdnneilbgekccaaGreatDoor
