/-
  Arguments that are values (and lists of them), read.
-/
import Derived.Test.YtcdklpflgafokaaOpen
import Derived.Test.YtcdklpflgafokaaSz
namespace Go.Proofs.Ytcdklpflgafokaa
open Go.RowKit Go.ChangeShapes Go.WideShapes
set_option linter.unusedVariables false

theorem org_of {d : Dt} (h : d.HasT Try.prog 65) : IsOrg d := by
  obtain ⟨ds, rfl, g⟩ := h.agg Try.underlying65
  obtain ⟨a, _, rfl, h1, g⟩ := HasTs.cons g
  obtain ⟨b, _, rfl, h2, g⟩ := HasTs.cons g
  obtain rfl := HasTs.nil g
  obtain ⟨x, rfl⟩ := h1.int Try.underlying3
  obtain ⟨y, rfl⟩ := h2.int Try.underlying3
  exact ⟨x, y, rfl⟩
theorem row_of {d : Dt} (h : d.HasT Try.prog 50) : IsRow d := by
  obtain ⟨ds, rfl, g⟩ := h.agg Try.underlying50
  obtain ⟨a, _, rfl, h1, g⟩ := HasTs.cons g
  obtain ⟨b, _, rfl, h2, g⟩ := HasTs.cons g
  obtain rfl := HasTs.nil g
  obtain ⟨xs, rfl, hx⟩ := h1.lst Try.underlying47
  obtain ⟨ns, rfl⟩ := hx.ints Try.underlying3
  obtain ⟨ys, rfl, hy⟩ := h2.lst Try.underlying48
  exact ⟨ns, ys, rfl, fun x hx => org_of (hy.mem x hx)⟩
theorem val_of_n : ∀ (n : Nat) (d : Dt), SizeOf.sizeOf d ≤ n → d.HasT Try.prog 26 → IsVal d
  | 0, d, hn, _ => by cases d <;> simp at hn
  | n + 1, d, hn, h => by
    obtain ⟨ds, rfl, g⟩ := h.agg Try.underlying26
    obtain ⟨d0, _, rfl, h0, g⟩ := HasTs.cons g
    obtain ⟨d1, _, rfl, h1, g⟩ := HasTs.cons g
    obtain ⟨d2, _, rfl, h2, g⟩ := HasTs.cons g
    obtain ⟨d3, _, rfl, h3, g⟩ := HasTs.cons g
    obtain ⟨d4, _, rfl, h4, g⟩ := HasTs.cons g
    obtain ⟨d5, _, rfl, h5, g⟩ := HasTs.cons g
    obtain ⟨d6, _, rfl, h6, g⟩ := HasTs.cons g
    obtain rfl := HasTs.nil g
    obtain ⟨x0, rfl⟩ := h0.int Try.underlying3
    obtain ⟨x1, rfl⟩ := h1.int Try.underlying3
    obtain ⟨x2, rfl⟩ := h2.int Try.underlying3
    obtain ⟨x3, rfl⟩ := h3.str Try.underlying9
    obtain ⟨l, rfl, k4⟩ := h4.lst Try.underlying22
    obtain ⟨x5, rfl, k5⟩ := h5.lst Try.underlying23
    obtain ⟨n5, rfl⟩ := k5.strs Try.underlying9
    obtain ⟨x6, rfl, k6⟩ := h6.lst Try.underlying24
    refine IsVal.mk _ _ _ _ _ _ _ (fun x hx => val_of_n n x ?_ (k4.mem x hx)) fun x hx => row_of (k6.mem x hx)
    have := List.sizeOf_lt_of_mem hx
    simp at hn
    omega
theorem val_of {d : Dt} (h : d.HasT Try.prog 26) : IsVal d := val_of_n _ d (Nat.le_refl _) h

def goodVal : List TypeId := [3, 9, 47, 23, 65, 48, 50, 24, 26, 22]
theorem goodVal_all : goodVal.all (goodT Try.prog goodVal) = true := by kernel_rfl
/-- What a law is told of a value that came in. -/
def InVal (W : World) (v : Value) : Prop := ∃ d cs, IsVal d ∧ d.Ok ∧ v = .agg cs.toArray ∧ Rd W W.heap.size d cs
def InVals (W : World) (v : Value) : Prop := ∃ xs A c, (∀ x ∈ xs, IsVal x) ∧ Dt.Ok (.lst xs) ∧ v = .slice A xs.length c ∧ Rd W W.heap.size (.lst xs) [.slice A xs.length c]
section
variable {H : Type} {enc : TypeId × Value → H} {W : World} {base : Nat} {spare : Nat → Bool} {held : Bool}
set_option maxRecDepth 100000 in
theorem open_val {r : Reach} {b0 : Nat} {v : Value} {d : DataW H} {p : List MemPlace} (hv : Value.okWide Try.prog W r b0 26 v) (h : DataW.Trod enc Try.prog W base spare held 26 v d p) : InVal W v := by
  obtain ⟨cs, rfl, hs⟩ := okWide_struct Try.underlying26 hv
  obtain ⟨fuel, hf⟩ := h
  obtain ⟨d, h1, h2⟩ := open_rd goodVal_all fuel _ _ _ hf (by kernel_rfl)
  exact ⟨d, cs.toList, val_of h1, Dt.HasT.ok d _ h1, rfl, h2⟩
set_option maxRecDepth 100000 in
theorem open_vals {r : Reach} {b0 : Nat} {v : Value} {d : DataW H} {p : List MemPlace} (hv : Value.okWide Try.prog W r b0 22 v) (h : DataW.Trod enc Try.prog W base spare held 22 v d p) : InVals W v := by
  obtain ⟨a, n, c, rfl⟩ := okWide_slice Try.underlying22 hv
  obtain ⟨fuel, hf⟩ := h
  obtain ⟨d, h1, h2⟩ := open_rd goodVal_all fuel _ _ _ hf (by kernel_rfl)
  have hok := Dt.HasT.ok d _ h1
  obtain ⟨xs, rfl, hx⟩ := h1.lst Try.underlying22
  obtain ⟨A, c', e, h3⟩ := Rd.lst_form h2
  simp [Value.cells] at e
  obtain ⟨rfl, rfl, rfl⟩ := e
  exact ⟨xs, _, _, fun x hx' => val_of (hx.mem x hx'), hok, rfl, h3⟩
end
end Go.Proofs.Ytcdklpflgafokaa
