/-
  IsValidName, the model's and the program's; the laws FnExactIsReserved and FnExactIsValidName.
-/
import Derived.Test.YtigcfpgmhfdedaaWord
namespace Go.Proofs.Ytigcfpgmhfdedaa
open Go.RowKit
set_option linter.unusedVariables false

/-- A valid name. -/
def VN (l : Nm) : Prop := (Shape l ∧ l.length ≤ 8) ∧ l ∉ resB.map nb
instance (l : Nm) : Decidable (VN l) := inferInstanceAs (Decidable (_ ∧ _))

theorem nb_mk (l : Nm) : nb ⟨l.toArray⟩ = l := nb_bn l

set_option maxHeartbeats 800000 in
set_option maxRecDepth 100000 in
theorem implValid_any (l : Nm) (w : World) (hs : l.length ≤ 1048576) :
    Calls Try.prog 119 #[.string ⟨l.toArray⟩] w fun e w' => e = .returned (.bool (decide (VN l))) ∧ Below w.heap.size w w' := by
  obtain ⟨r, hr⟩ : ∃ r, r = decide (VN l) := ⟨_, rfl⟩
  rw [← hr]
  have HR := Lib.hid hr
  clear hr
  have hw := isWord_any l w hs
  have hres := implReserved_any ⟨l.toArray⟩ w hs
  rw [nb_mk] at hres
  by_cases h1 : Shape l ∧ l.length ≤ 8
  · rw [decide_eq_true h1] at hw
    obtain ⟨q, hq⟩ : ∃ q, q = decide (l ∈ resB.map nb) := ⟨_, rfl⟩
    rw [← hq] at hres
    have HQ := Lib.hid hq
    clear hq
    have hrq : r = !q := by
      rw [HR.out, HQ.out]
      by_cases h : l ∈ resB.map nb
      · rw [decide_eq_true h, decide_eq_false (fun e : VN l => e.2 h)]; rfl
      · rw [decide_eq_false h, decide_eq_true (show VN l from ⟨h1, h⟩)]; rfl
    subst hrq
    have H1 := Lib.hid h1
    clear h1
    go_enter Try.func119, Try.ntmps119
    go_wp2_with fail
    refine hw.mono ?_
    rintro e w1 ⟨rfl, rfl⟩
    go_wp2_with fail
    refine hres.mono ?_
    rintro e w2 ⟨rfl, hb⟩
    have HB := Lib.hid hb
    clear hb
    go_wp2_with fail
    go_ret
    exact ⟨rfl, HB.out⟩
  · rw [decide_eq_false h1] at hw
    have hrf : r = false := by rw [HR.out, decide_eq_false (fun e : VN l => h1 e.1)]
    subst hrf
    have H1 := Lib.hid h1
    clear h1
    go_enter Try.func119, Try.ntmps119
    go_wp2_with fail
    refine hw.mono ?_
    rintro e w1 ⟨rfl, rfl⟩
    go_wp2_with fail
    go_ret
    exact ⟨rfl, Below.refl _ _⟩

end Go.Proofs.Ytigcfpgmhfdedaa
