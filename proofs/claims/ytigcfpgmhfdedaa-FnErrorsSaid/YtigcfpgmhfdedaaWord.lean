/-
  Which texts have the form of a name: the model's l2Shape and the program's isWord; IsValidName of both.
-/
import Derived.Test.YtigcfpgmhfdedaaReserved
namespace Go.Proofs.Ytigcfpgmhfdedaa
open Go.RowKit
set_option linter.unusedVariables false

def isL (b : UInt8) : Bool := decide ((97 : Int) ≤ (b.toNat : Int)) && decide ((b.toNat : Int) ≤ 122)
def isD (b : UInt8) : Bool := decide ((48 : Int) ≤ (b.toNat : Int)) && decide ((b.toNat : Int) ≤ 57)
/-- The bytes may stand in a name: a letter, or, behind the first place, a digit. -/
def okAt (l : Nm) (k : Nat) : Bool := isL (l.getD k 0) || (decide (k ≠ 0) && isD (l.getD k 0))
def Shape (l : Nm) : Prop := 0 < l.length ∧ ∀ k, k < l.length → okAt l k = true
instance (l : Nm) : Decidable (Shape l) := inferInstanceAs (Decidable (_ ∧ _))

theorem byte_of (l : List UInt8) (k : Nat) (h : k < (⟨l.toArray⟩ : ByteArray).size) : (⟨l.toArray⟩ : ByteArray)[k]'h = l.getD k 0 := by
  have h' : k < l.length := h
  rw [List.getD_eq_getElem?_getD, List.getElem?_eq_getElem h']
  rfl

set_option maxHeartbeats 400000 in
set_option maxRecDepth 100000 in
theorem letter_any (b : UInt8) (w : World) :
    Calls Try.prog 128 #[.int .u8 b.toNat] w fun e w' => e = .returned (.bool (isL b)) ∧ w' = w := by
  have hb : b.toNat < 256 := b.toNat_lt
  have hr : isL b = (decide ((97 : Int) ≤ (b.toNat : Int)) && decide ((b.toNat : Int) ≤ 122)) := rfl
  rw [hr]
  generalize b.toNat = k at *
  by_cases h1 : (97 : Int) ≤ (k : Int)
  · have e1 := decide_eq_true h1
    rw [e1]
    go_enter Try.func128, Try.ntmps128
    go_wp2_with fail
    go_ret
    simp
  · have e1 := decide_eq_false h1
    rw [e1]
    go_enter Try.func128, Try.ntmps128
    go_wp2_with fail
    go_ret
    simp

set_option maxHeartbeats 400000 in
set_option maxRecDepth 100000 in
theorem digit_any (b : UInt8) (w : World) :
    Calls Try.prog 129 #[.int .u8 b.toNat] w fun e w' => e = .returned (.bool (isD b)) ∧ w' = w := by
  have hb : b.toNat < 256 := b.toNat_lt
  have hr : isD b = (decide ((48 : Int) ≤ (b.toNat : Int)) && decide ((b.toNat : Int) ≤ 57)) := rfl
  rw [hr]
  generalize b.toNat = k at *
  by_cases h1 : (48 : Int) ≤ (k : Int)
  · have e1 := decide_eq_true h1
    rw [e1]
    go_enter Try.func129, Try.ntmps129
    go_wp2_with fail
    go_ret
    simp
  · have e1 := decide_eq_false h1
    rw [e1]
    go_enter Try.func129, Try.ntmps129
    go_wp2_with fail
    go_ret
    simp

theorem okAt_first (l : Nm) : okAt l 0 = isL (l.getD 0 0) := by simp [okAt]
theorem okAt_next (l : Nm) (k : Nat) (h : k ≠ 0) : okAt l k = (isL (l.getD k 0) || isD (l.getD k 0)) := by simp [okAt, h]

theorem ok_next {l : Nm} {k : Nat} (h : ∀ j, j < k → okAt l j = true) (hk : okAt l k = true) : ∀ j, j < k + 1 → okAt l j = true := by
  intro j hj
  by_cases e : j = k
  · subst e; exact hk
  · exact h j (by omega)

theorem shape_iff {l : Nm} (h1 : isL (l.getD 0 0) = true) (h2 : ∀ k, k < l.length → (isL (l.getD k 0) || isD (l.getD k 0)) = true) (h3 : 0 < l.length) : Shape l := by
  refine ⟨h3, fun k hk => ?_⟩
  by_cases e : k = 0
  · subst e; rw [okAt_first]; exact h1
  · rw [okAt_next l k e]; exact h2 k hk

set_option maxHeartbeats 1600000 in
set_option maxRecDepth 100000 in
theorem isWord_any (l : Nm) (w : World) (hs : l.length ≤ 1048576) :
    Calls Try.prog 122 #[.string ⟨l.toArray⟩] w fun e w' => e = .returned (.bool (decide (Shape l ∧ l.length ≤ 8))) ∧ w' = w := by
  obtain ⟨r, hr⟩ : ∃ r, r = decide (Shape l ∧ l.length ≤ 8) := ⟨_, rfl⟩
  rw [← hr]
  have HR := Lib.hid hr
  clear hr
  have no : ∀ {e : Bool}, ¬ (Shape l ∧ l.length ≤ 8) → e = false → Ending.returned (.bool e) = .returned (.bool r) := by
    intro e h he; rw [HR.out, he, decide_eq_false h]
  by_cases hz : l.length = 0
  · have hz' : ((l.length : Int) == 0) = true := by simp [hz]
    go_enter Try.func122, Try.ntmps122
    go_wp2_with fail
    go_ret
    exact ⟨no (fun h => by have := h.1.1; omega) rfl, rfl⟩
  · have hz' : ((l.length : Int) == 0) = false := by simp; exact fun e => hz (by simp [e])
    by_cases h8 : (8 : Int) < (l.length : Int)
    · go_enter Try.func122, Try.ntmps122
      go_wp2_with fail
      go_ret
      exact ⟨no (fun h => by have := h.2; omega) rfl, rfl⟩
    · have hlt' : 0 < (⟨l.toArray⟩ : ByteArray).size := Nat.pos_of_ne_zero hz
      have hby := byte_of l 0 hlt'
      have hlet := letter_any (l.getD 0 0) w
      obtain ⟨b, hb⟩ : ∃ b, b = l.getD 0 0 := ⟨_, rfl⟩
      rw [← hb] at hby hlet
      have hb256 : b.toNat < 256 := b.toNat_lt
      have HB := Lib.hid hb
      clear hb
      by_cases hlb : isL b = true
      · rw [hlb] at hlet
        go_enter Try.func122, Try.ntmps122
        go_wp2_with fail
        refine hlet.mono ?_
        rintro e w1 ⟨rfl, rfl⟩
        go_wp2_with fail
        go_loopw [20] (fun i wr => ∃ (k : Nat), k ≤ l.length ∧ i = .int .i64 k ∧ wr = w1 ∧ Hid (∀ j, j < k → (isL (l.getD j 0) || isD (l.getD j 0)) = true)) (fun i _ => l.length - (intOf i).toNat)
        case atStart => exact ⟨0, Nat.zero_le _, rfl, rfl, Lib.hid (by simp)⟩
        case round =>
          obtain ⟨k, hk, rfl, rfl, HE⟩ := hrel
          by_cases hlt : k < l.length
          · have hltk : k < (⟨l.toArray⟩ : ByteArray).size := hlt
            have hbk := byte_of l k hltk
            have hle := letter_any (l.getD k 0) wr
            have hdi := digit_any (l.getD k 0) wr
            obtain ⟨b1, hb1⟩ : ∃ b, b = l.getD k 0 := ⟨_, rfl⟩
            rw [← hb1] at hbk hle hdi
            have hb1256 : b1.toNat < 256 := b1.toNat_lt
            have HB1 := Lib.hid hb1
            clear hb1
            have nx : (isL b1 || isD b1) = true → ∀ j, j < k + 1 → (isL (l.getD j 0) || isD (l.getD j 0)) = true := by
              intro h j hj
              by_cases e : j = k
              · subst e; rw [← HB1.out]; exact h
              · exact HE.out j (by omega)
            have NX := Lib.hid nx
            clear nx
            by_cases hl1 : isL b1 = true
            · rw [hl1] at hle
              go_wp2_with fail
              refine hle.mono ?_
              rintro e w2 ⟨rfl, rfl⟩
              go_wp2_with fail
              exact ⟨⟨k + 1, by omega, by simp, trivial, Lib.hid (NX.out (by simp [hl1]))⟩, by simp [intOf]; omega⟩
            · rw [Bool.not_eq_true] at hl1
              rw [hl1] at hle
              go_wp2_with fail
              refine hle.mono ?_
              rintro e w2 ⟨rfl, rfl⟩
              go_wp2_with fail
              refine hdi.mono ?_
              rintro e w3 ⟨rfl, rfl⟩
              by_cases hd1 : isD b1 = true
              · go_wp2_with fail
                exact ⟨⟨k + 1, by omega, by simp, trivial, Lib.hid (NX.out (by simp [hd1]))⟩, by simp [intOf]; omega⟩
              · rw [Bool.not_eq_true] at hd1
                go_wp2_with fail
                go_ret
                refine ⟨no (fun h => ?_) rfl, rfl⟩
                have h1 := h.1.2 k hlt
                unfold okAt at h1
                rw [← HB1.out, hl1, hd1] at h1
                simp at h1
          · obtain rfl : k = l.length := by omega
            go_wp2_with fail
            go_ret
            refine ⟨?_, rfl⟩
            rw [HR.out, decide_eq_true ⟨shape_iff (by rw [← HB.out]; exact hlb) HE.out (by omega), by omega⟩]
            rfl
      · rw [Bool.not_eq_true] at hlb
        rw [hlb] at hlet
        go_enter Try.func122, Try.ntmps122
        go_wp2_with fail
        refine hlet.mono ?_
        rintro e w1 ⟨rfl, rfl⟩
        go_wp2_with fail
        go_ret
        refine ⟨no (fun h => ?_) rfl, rfl⟩
        have h1 := h.1.2 0 (by omega)
        rw [okAt_first, ← HB.out, hlb] at h1
        cases h1
end Go.Proofs.Ytigcfpgmhfdedaa
