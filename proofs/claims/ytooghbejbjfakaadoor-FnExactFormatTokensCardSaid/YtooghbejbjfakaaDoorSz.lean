/-
  What the laws' sz functions answer, at values, rows, origins, numbers and texts.
-/
import Derived.Test.YtooghbejbjfakaaDoorDt
namespace Go.Proofs.YtooghbejbjfakaaDoor
open Go.RowKit
set_option linter.unusedVariables false

def IsOrg (d : Dt) : Prop := ∃ a b : Int, d = .agg [.int a, .int b]
def IsRow (d : Dt) : Prop := ∃ (ns : List Int) (os : List Dt), d = .agg [.lst (ns.map .int), .lst os] ∧ ∀ x ∈ os, IsOrg x
inductive IsVal : Dt → Prop
  | mk (k n s : Int) (t : ByteArray) (l : List Dt) (c : List ByteArray) (r : List Dt) (hl : ∀ x ∈ l, IsVal x) (hr : ∀ x ∈ r, IsRow x) : IsVal (.agg [.int k, .int n, .int s, .str t, .lst l, .lst (c.map .str), .lst r])

theorem IsOrg.width {d : Dt} (h : IsOrg d) : d.width = 2 := by obtain ⟨a, b, rfl⟩ := h; rfl
theorem IsRow.width {d : Dt} (h : IsRow d) : d.width = 2 := by obtain ⟨a, b, rfl, _⟩ := h; rfl
theorem IsVal.width {d : Dt} (h : IsVal d) : d.width = 7 := by cases h; rfl

theorem wts_orgs : ∀ (os : List Dt), (∀ x ∈ os, IsOrg x) → wts os = 0
  | [], _ => rfl
  | o :: os, h => by
    obtain ⟨a, b, rfl⟩ := h o (by simp)
    simp only [wts, Dt.wt, wts_orgs os fun x hx => h x (by simp [hx])]

def SzR (m : Nat) (left r : Int) : Prop := (0 ≤ r → r + m ≤ left) ∧ r ≤ left

theorem Rd.agg_row {w : World} {B : Nat} {xs ys : List Dt} {cs : List Value} (h : Rd w B (.agg [.lst xs, .lst ys]) cs) :
    ∃ A c A' c', cs = [.slice A xs.length c, .slice A' ys.length c'] ∧ Rd w B (.lst xs) [.slice A xs.length c] ∧ Rd w B (.lst ys) [.slice A' ys.length c'] := by
  simp only [Rd, RdL] at h
  obtain ⟨c1, c2, rfl, ⟨A, c, cells, rfl, h1⟩, c3, c4, rfl, ⟨A', c', cells', rfl, h2⟩, rfl⟩ := h
  exact ⟨A, c, A', c', rfl, by simp only [Rd]; exact ⟨A, c, cells, rfl, h1⟩, by simp only [Rd]; exact ⟨A', c', cells', rfl, h2⟩⟩

theorem Rd.agg_val {w : World} {B : Nat} {k n s : Int} {t : ByteArray} {l : List Dt} {c : List Dt} {r : List Dt} {cs : List Value} (h : Rd w B (.agg [.int k, .int n, .int s, .str t, .lst l, .lst c, .lst r]) cs) :
    ∃ A1 c1 A2 c2 A3 c3, cs = [.int .i64 k, .int .i64 n, .int .i64 s, .string t, .slice A1 l.length c1, .slice A2 c.length c2, .slice A3 r.length c3] ∧
      Rd w B (.lst l) [.slice A1 l.length c1] ∧ Rd w B (.lst c) [.slice A2 c.length c2] ∧ Rd w B (.lst r) [.slice A3 r.length c3] := by
  simp only [Rd, RdL] at h
  obtain ⟨_, _, rfl, rfl, _, _, rfl, rfl, _, _, rfl, rfl, _, _, rfl, rfl, _, _, rfl, ⟨A1, c1, cl1, rfl, h1⟩, _, _, rfl, ⟨A2, c2, cl2, rfl, h2⟩, _, _, rfl, ⟨A3, c3, cl3, rfl, h3⟩, rfl⟩ := h
  exact ⟨A1, c1, A2, c2, A3, c3, rfl, by simp only [Rd]; exact ⟨A1, c1, cl1, rfl, h1⟩, by simp only [Rd]; exact ⟨A2, c2, cl2, rfl, h2⟩, by simp only [Rd]; exact ⟨A3, c3, cl3, rfl, h3⟩⟩

end Go.Proofs.YtooghbejbjfakaaDoor
