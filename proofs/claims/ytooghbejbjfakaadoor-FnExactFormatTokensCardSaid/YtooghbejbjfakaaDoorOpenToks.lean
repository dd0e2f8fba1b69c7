/-
  Arguments that are lists of tokens, read.
-/
import Derived.Test.YtooghbejbjfakaaDoorOpenTok
namespace Go.Proofs.YtooghbejbjfakaaDoor
open Go.RowKit Go.ChangeShapes Go.WideShapes
set_option linter.unusedVariables false

def goodToks : List TypeId := [3, 9, 23, 29]
theorem goodToks_all : goodToks.all (goodT Tryd.prog goodToks) = true := by kernel_rfl
def InToks (W : World) (v : Value) : Prop := ∃ (xs : List Dt) (A : Option Addr) (c : Nat), (∀ x ∈ xs, IsTok x) ∧ Dt.Ok (.lst xs) ∧ v = .slice A xs.length c ∧ Rd W W.heap.size (.lst xs) [.slice A xs.length c]
section
variable {H : Type} {enc : TypeId × Value → H} {W : World} {base : Nat} {spare : Nat → Bool} {held : Bool}
set_option maxRecDepth 100000 in
theorem open_toks {r : Reach} {b0 : Nat} {v : Value} {d : DataW H} {p : List MemPlace} (hv : Value.okWide Tryd.prog W r b0 29 v) (h : DataW.Trod enc Tryd.prog W base spare held 29 v d p) : InToks W v := by
  obtain ⟨a, n, c, rfl⟩ := okWide_slice Tryd.underlying29 hv
  obtain ⟨fuel, hf⟩ := h
  obtain ⟨d, h1, h2⟩ := open_rd goodToks_all fuel _ _ _ hf (by kernel_rfl)
  have hok := Dt.HasT.ok d _ h1
  obtain ⟨xs, rfl, hx⟩ := h1.lst Tryd.underlying29
  obtain ⟨A, c', e, h3⟩ := Rd.lst_form h2
  simp [Value.cells] at e
  obtain ⟨rfl, rfl, rfl⟩ := e
  exact ⟨xs, _, _, fun x hx' => tok_of (hx.mem x hx'), hok, rfl, h3⟩
end
end Go.Proofs.YtooghbejbjfakaaDoor
