/-
  IsValidName, the model's and the program's; the laws FnExactIsReserved and FnExactIsValidName.
-/
import Derived.Test.YtooghbejbjfakaaWord
namespace Go.Proofs.Ytooghbejbjfakaa
open Go.RowKit
set_option linter.unusedVariables false

/-- A valid name. -/
def VN (l : Nm) : Prop := (Shape l ∧ l.length ≤ 8) ∧ l ∉ resB.map nb
instance (l : Nm) : Decidable (VN l) := inferInstanceAs (Decidable (_ ∧ _))

theorem nb_mk (l : Nm) : nb ⟨l.toArray⟩ = l := nb_bn l

set_option maxHeartbeats 800000 in
set_option maxRecDepth 100000 in
theorem implValid_any (l : Nm) (w : World) (hs : l.length ≤ 1048576) :
    Calls Try.prog 14 #[.string ⟨l.toArray⟩] w fun e w' => e = .returned (.bool (decide (VN l))) ∧ Below w.heap.size w w' := by
  obtain ⟨r, hr⟩ : ∃ r, r = decide (VN l) := ⟨_, rfl⟩
  rw [← hr]
  have HR := Lib.hid hr
  clear hr
  have hw := isWord_any l w hs
  have hres := implReserved_any ⟨l.toArray⟩ w hs
  rw [nb_mk] at hres
  by_cases h1 : Shape l ∧ l.length ≤ 8
  · rw [decide_eq_true h1] at hw
    obtain ⟨q, hq⟩ : ∃ q, q = decide (l ∈ resB.map nb) := ⟨_, rfl⟩
    rw [← hq] at hres
    have HQ := Lib.hid hq
    clear hq
    have hrq : r = !q := by
      rw [HR.out, HQ.out]
      by_cases h : l ∈ resB.map nb
      · rw [decide_eq_true h, decide_eq_false (fun e : VN l => e.2 h)]; rfl
      · rw [decide_eq_false h, decide_eq_true (show VN l from ⟨h1, h⟩)]; rfl
    subst hrq
    have H1 := Lib.hid h1
    clear h1
    go_enter Try.func14, Try.ntmps14
    go_wp2_with fail
    refine hw.mono ?_
    rintro e w1 ⟨rfl, rfl⟩
    go_wp2_with fail
    refine hres.mono ?_
    rintro e w2 ⟨rfl, hb⟩
    have HB := Lib.hid hb
    clear hb
    go_wp2_with fail
    go_ret
    exact ⟨rfl, HB.out⟩
  · rw [decide_eq_false h1] at hw
    have hrf : r = false := by rw [HR.out, decide_eq_false (fun e : VN l => h1 e.1)]
    subst hrf
    have H1 := Lib.hid h1
    clear h1
    go_enter Try.func14, Try.ntmps14
    go_wp2_with fail
    refine hw.mono ?_
    rintro e w1 ⟨rfl, rfl⟩
    go_wp2_with fail
    go_ret
    exact ⟨rfl, Below.refl _ _⟩

set_option maxHeartbeats 800000 in
set_option maxRecDepth 100000 in
theorem specValid_any (l : Nm) (w : World) (hs : l.length ≤ 1048576) :
    Calls Try.prog 13 #[.string ⟨l.toArray⟩] w fun e w' => e = .returned (.bool (decide (VN l))) ∧ Below w.heap.size w w' := by
  obtain ⟨r, hr⟩ : ∃ r, r = decide (VN l) := ⟨_, rfl⟩
  rw [← hr]
  have HR := Lib.hid hr
  clear hr
  have hw := specShape_any l w hs
  have hres := specReserved_any ⟨l.toArray⟩ w
  rw [nb_mk] at hres
  by_cases h1 : Shape l
  · rw [decide_eq_true h1] at hw
    by_cases h2 : (l.length : Int) ≤ 8
    · obtain ⟨q, hq⟩ : ∃ q, q = decide (l ∈ resB.map nb) := ⟨_, rfl⟩
      rw [← hq] at hres
      have HQ := Lib.hid hq
      clear hq
      have hrq : r = !q := by
        rw [HR.out, HQ.out]
        by_cases h : l ∈ resB.map nb
        · rw [decide_eq_true h, decide_eq_false (fun e : VN l => e.2 h)]; rfl
        · rw [decide_eq_false h, decide_eq_true (show VN l from ⟨⟨h1, by omega⟩, h⟩)]; rfl
      subst hrq
      have H1 := Lib.hid h1
      clear h1
      go_enter Try.func13, Try.ntmps13
      go_wp2_with fail
      refine hw.mono ?_
      rintro e w1 ⟨rfl, rfl⟩
      go_wp2_with fail
      refine hres.mono ?_
      rintro e w2 ⟨rfl, hb⟩
      have HB := Lib.hid hb
      clear hb
      go_wp2_with fail
      go_ret
      exact ⟨rfl, HB.out⟩
    · have hrf : r = false := by rw [HR.out, decide_eq_false (fun e : VN l => by have := e.1.2; omega)]
      subst hrf
      have H1 := Lib.hid h1
      clear h1
      go_enter Try.func13, Try.ntmps13
      go_wp2_with fail
      refine hw.mono ?_
      rintro e w1 ⟨rfl, rfl⟩
      go_wp2_with fail
      go_ret
      exact ⟨rfl, Below.refl _ _⟩
  · rw [decide_eq_false h1] at hw
    have hrf : r = false := by rw [HR.out, decide_eq_false (fun e : VN l => h1 e.1.1)]
    subst hrf
    have H1 := Lib.hid h1
    clear h1
    go_enter Try.func13, Try.ntmps13
    go_wp2_with fail
    refine hw.mono ?_
    rintro e w1 ⟨rfl, rfl⟩
    go_wp2_with fail
    go_ret
    exact ⟨rfl, Below.refl _ _⟩

set_option maxHeartbeats 400000 in
set_option maxRecDepth 100000 in
theorem fnExactIsValidName_walk (s : ByteArray) (w : World) (hsz : s.size ≤ 9223372036854775807) :
    Calls Try.prog 5 #[.string s] w fun e w' => e = .returned (.bool true) ∧ Below w.heap.size w w' := by
  by_cases hs : (1048576 : Int) < (s.size : Int)
  · go_enter Try.func5, Try.ntmps5
    go_wp2_with fail
    go_ret
    exact ⟨rfl, Below.refl _ _⟩
  · have h1 := fun w => specValid_any (nb s) w (show s.size ≤ 1048576 by omega)
    have h2 := fun w => implValid_any (nb s) w (show s.size ≤ 1048576 by omega)
    have hb : (⟨(nb s).toArray⟩ : ByteArray) = s := bn_nb s
    rw [hb] at h1 h2
    generalize decide (VN (nb s)) = r at h1 h2
    clear hb
    go_enter Try.func5, Try.ntmps5
    go_wp2_with fail
    refine (h1 _).mono ?_
    rintro e w1 ⟨rfl, hb1⟩
    go_wp2_with fail
    refine (h2 _).mono ?_
    rintro e w2 ⟨rfl, hb2⟩
    have hb := hb1.trans (hb2.mono hb1.size)
    have HB := Lib.hid hb
    clear hb hb1 hb2
    have hne : (r != r) = false := by cases r <;> rfl
    go_wp2_with fail
    go_ret
    exact ⟨rfl, HB.out⟩
end Go.Proofs.Ytooghbejbjfakaa
