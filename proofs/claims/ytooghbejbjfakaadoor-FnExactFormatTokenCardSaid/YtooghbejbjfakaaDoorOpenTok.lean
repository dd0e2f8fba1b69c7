/-
  Arguments that are tokens or lists of them, read.
-/
import Derived.Test.YtooghbejbjfakaaDoorOpen
import Derived.Test.YtooghbejbjfakaaDoorTokSz
namespace Go.Proofs.YtooghbejbjfakaaDoor
open Go.RowKit Go.ChangeShapes Go.WideShapes
set_option linter.unusedVariables false

theorem tok_of {d : Dt} (h : d.HasT Tryd.prog 23) : IsTok d := by
  obtain ⟨ds, rfl, g⟩ := h.agg Tryd.underlying23
  obtain ⟨a, _, rfl, h1, g⟩ := HasTs.cons g
  obtain ⟨b, _, rfl, h2, g⟩ := HasTs.cons g
  obtain ⟨c, _, rfl, h3, g⟩ := HasTs.cons g
  obtain ⟨d, _, rfl, h4, g⟩ := HasTs.cons g
  obtain rfl := HasTs.nil g
  obtain ⟨x, rfl⟩ := h1.int Tryd.underlying3
  obtain ⟨y, rfl⟩ := h2.int Tryd.underlying3
  obtain ⟨z, rfl⟩ := h3.int Tryd.underlying3
  obtain ⟨s, rfl⟩ := h4.str Tryd.underlying9
  exact ⟨x, y, z, s, rfl⟩
def goodTok : List TypeId := [3, 9, 23]
theorem goodTok_all : goodTok.all (goodT Tryd.prog goodTok) = true := by kernel_rfl
/-- What a law is told of a token that came in. -/
def InTok (W : World) (v : Value) : Prop := ∃ (a b c : Int) (s : ByteArray), (-9223372036854775808 ≤ b ∧ b ≤ 9223372036854775807) ∧ s.size ≤ 9223372036854775807 ∧ v = .agg #[.int .i64 a, .int .i64 b, .int .i64 c, .string s]
section
variable {H : Type} {enc : TypeId × Value → H} {W : World} {base : Nat} {spare : Nat → Bool} {held : Bool}
set_option maxRecDepth 100000 in
theorem open_tok {r : Reach} {b0 : Nat} {v : Value} {d : DataW H} {p : List MemPlace} (hv : Value.okWide Tryd.prog W r b0 23 v) (h : DataW.Trod enc Tryd.prog W base spare held 23 v d p) : InTok W v := by
  obtain ⟨cs, rfl, hs⟩ := okWide_struct Tryd.underlying23 hv
  obtain ⟨fuel, hf⟩ := h
  obtain ⟨d, h1, h2⟩ := open_rd goodTok_all fuel _ _ _ hf (by kernel_rfl)
  have hok := Dt.HasT.ok d _ h1
  obtain ⟨x, y, z, s, rfl⟩ := tok_of h1
  have e := Rd.ofToken h2
  simp only [Dt.Ok, Oks] at hok
  exact ⟨x, y, z, s, hok.2.1, hok.2.2.2.1, by rw [← Array.toArray_toList (xs := cs)]; simp only [Value.cells] at e; rw [e]⟩
end
end Go.Proofs.YtooghbejbjfakaaDoor
