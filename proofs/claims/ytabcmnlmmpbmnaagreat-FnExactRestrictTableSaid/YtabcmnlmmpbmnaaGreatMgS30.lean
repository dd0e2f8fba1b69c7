/-
  Texts that the proof rests on, put together: OpenOrg.
-/
import Derived.Test.YtabcmnlmmpbmnaaGreatMgS8
import Derived.Test.YtabcmnlmmpbmnaaGreatMgS29
/-
  Arguments that are origins or lists of them, read.
-/

namespace Go.Proofs.YtabcmnlmmpbmnaaGreat
open Go.RowKit Go.ChangeShapes Go.WideShapes
set_option linter.unusedVariables false

theorem orgL_of {d : Dt} (h : d.HasT Tryz.prog 107) : ∃ p : Int × Int, d = orgP p := by
  obtain ⟨ds, rfl, g⟩ := h.agg Tryz.underlying107
  obtain ⟨a, _, rfl, h1, g⟩ := HasTs.cons g
  obtain ⟨b, _, rfl, h2, g⟩ := HasTs.cons g
  obtain rfl := HasTs.nil g
  obtain ⟨x, rfl⟩ := h1.int Tryz.underlying3
  obtain ⟨y, rfl⟩ := h2.int Tryz.underlying3
  exact ⟨(x, y), rfl⟩
def goodOrg : List TypeId := [3, 107, 51]
theorem goodOrg_all : goodOrg.all (goodT Tryz.prog goodOrg) = true := by kernel_rfl
def InOrgs (W : World) (v : Value) : Prop := ∃ (l : List (Int × Int)) (A : Option Addr) (c : Nat), l.length ≤ 9223372036854775807 ∧ v = .slice A l.length c ∧ Rd W W.heap.size (.lst (orgsD l)) [.slice A l.length c]
section
variable {H : Type} {enc : TypeId × Value → H} {W : World} {base : Nat} {spare : Nat → Bool} {held : Bool}
set_option maxRecDepth 100000 in
theorem open_orgs {r : Reach} {b0 : Nat} {v : Value} {d : DataW H} {p : List MemPlace} (hv : Value.okWide Tryz.prog W r b0 51 v) (h : DataW.Trod enc Tryz.prog W base spare held 51 v d p) : InOrgs W v := by
  obtain ⟨a, n, c, rfl⟩ := okWide_slice Tryz.underlying51 hv
  obtain ⟨fuel, hf⟩ := h
  obtain ⟨d, h1, h2⟩ := open_rd goodOrg_all fuel _ _ _ hf (by kernel_rfl)
  obtain ⟨xs, rfl, hx⟩ := h1.lst Tryz.underlying51
  have hxs : ∀ x ∈ xs, IsOrg x := fun x hm => by obtain ⟨p, rfl⟩ := orgL_of (hx.mem x hm); exact isOrg_orgP p
  have hxl := orgsD_pr hxs
  rw [← hxl] at h2
  have h3 := h2
  obtain ⟨A, c', e, hc1, hc2, h4⟩ := rd_orgl h3
  simp only [Value.cells] at e
  obtain ⟨rfl, rfl, rfl⟩ : a = A ∧ n = (xs.map pr).length ∧ c = c' := by simpa using e
  exact ⟨xs.map pr, a, c, by unfold maxLen at hc2; omega, rfl, h2⟩
end
end Go.Proofs.YtabcmnlmmpbmnaaGreat
