/-
  Texts that the proof rests on, put together: OpenOrg.
-/
import Derived.Test.YtdnneilbgekccabMgR8
import Derived.Test.YtdnneilbgekccabMgR18
/-
  Arguments that are origins or lists of them, read.
-/

namespace Go.Proofs.Ytdnneilbgekccab
open Go.RowKit Go.ChangeShapes Go.WideShapes
set_option linter.unusedVariables false

theorem orgL_of {d : Dt} (h : d.HasT Try.prog 46) : ∃ p : Int × Int, d = orgD p := by
  obtain ⟨ds, rfl, g⟩ := h.agg Try.underlying46
  obtain ⟨a, _, rfl, h1, g⟩ := HasTs.cons g
  obtain ⟨b, _, rfl, h2, g⟩ := HasTs.cons g
  obtain rfl := HasTs.nil g
  obtain ⟨x, rfl⟩ := h1.int Try.underlying3
  obtain ⟨y, rfl⟩ := h2.int Try.underlying3
  exact ⟨(x, y), rfl⟩
def goodOrg : List TypeId := [3, 46, 22]
theorem goodOrg_all : goodOrg.all (goodT Try.prog goodOrg) = true := by kernel_rfl
/-- What a law is told of an origin, or a list of origins, that came in. -/
def InOrg (W : World) (v : Value) : Prop := ∃ a b : Int, v = .agg #[.int .i64 a, .int .i64 b]
section
variable {H : Type} {enc : TypeId × Value → H} {W : World} {base : Nat} {spare : Nat → Bool} {held : Bool}
set_option maxRecDepth 100000 in
theorem open_org {r : Reach} {b0 : Nat} {v : Value} {d : DataW H} {p : List MemPlace} (hv : Value.okWide Try.prog W r b0 46 v) (h : DataW.Trod enc Try.prog W base spare held 46 v d p) : InOrg W v := by
  obtain ⟨cs, rfl, hs⟩ := okWide_struct Try.underlying46 hv
  obtain ⟨fuel, hf⟩ := h
  obtain ⟨d, h1, h2⟩ := open_rd goodOrg_all fuel _ _ _ hf (by kernel_rfl)
  obtain ⟨⟨x, y⟩, rfl⟩ := orgL_of h1
  simp only [orgD, Rd, RdL] at h2
  obtain ⟨_, _, e, rfl, _, _, rfl, rfl, rfl⟩ := h2
  exact ⟨x, y, by rw [← Array.toArray_toList (xs := cs)]; simp only [Value.cells] at e; rw [e]; rfl⟩
end
end Go.Proofs.Ytdnneilbgekccab
