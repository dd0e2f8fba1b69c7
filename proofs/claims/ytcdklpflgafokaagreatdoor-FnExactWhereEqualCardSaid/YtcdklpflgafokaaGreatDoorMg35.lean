/-
  Texts that the proof rests on, put together: Word, Valid, Distinct, TabPart.
-/
import Derived.Test.YtcdklpflgafokaaGreatDoorMg34
import Derived.Test.YtcdklpflgafokaaGreatDoorMg11
import Derived.Test.YtcdklpflgafokaaGreatDoorMg8
/-
  Which texts have the form of a name: the model's l2Shape and the program's isWord; IsValidName of both.
-/

namespace Go.Proofs.YtcdklpflgafokaaGreatDoor
open Go.RowKit
set_option linter.unusedVariables false

def isL (b : UInt8) : Bool := decide ((97 : Int) ≤ (b.toNat : Int)) && decide ((b.toNat : Int) ≤ 122)
def isD (b : UInt8) : Bool := decide ((48 : Int) ≤ (b.toNat : Int)) && decide ((b.toNat : Int) ≤ 57)
/-- The bytes may stand in a name: a letter, or, behind the first place, a digit. -/
def okAt (l : Nm) (k : Nat) : Bool := isL (l.getD k 0) || (decide (k ≠ 0) && isD (l.getD k 0))
def Shape (l : Nm) : Prop := 0 < l.length ∧ ∀ k, k < l.length → okAt l k = true
instance (l : Nm) : Decidable (Shape l) := inferInstanceAs (Decidable (_ ∧ _))

theorem byte_of (l : List UInt8) (k : Nat) (h : k < (⟨l.toArray⟩ : ByteArray).size) : (⟨l.toArray⟩ : ByteArray)[k]'h = l.getD k 0 := by
  have h' : k < l.length := h
  rw [List.getD_eq_getElem?_getD, List.getElem?_eq_getElem h']
  rfl

set_option maxHeartbeats 400000 in
set_option maxRecDepth 100000 in
theorem letter_any (b : UInt8) (w : World) :
    Calls Tryz.prog 195 #[.int .u8 b.toNat] w fun e w' => e = .returned (.bool (isL b)) ∧ w' = w := by
  have hb : b.toNat < 256 := b.toNat_lt
  have hr : isL b = (decide ((97 : Int) ≤ (b.toNat : Int)) && decide ((b.toNat : Int) ≤ 122)) := rfl
  rw [hr]
  generalize b.toNat = k at *
  by_cases h1 : (97 : Int) ≤ (k : Int)
  · have e1 := decide_eq_true h1
    rw [e1]
    go_enter Tryz.func195, Tryz.ntmps195
    go_wp2_with fail
    go_ret
    simp
  · have e1 := decide_eq_false h1
    rw [e1]
    go_enter Tryz.func195, Tryz.ntmps195
    go_wp2_with fail
    go_ret
    simp

set_option maxHeartbeats 400000 in
set_option maxRecDepth 100000 in
theorem digit_any (b : UInt8) (w : World) :
    Calls Tryz.prog 196 #[.int .u8 b.toNat] w fun e w' => e = .returned (.bool (isD b)) ∧ w' = w := by
  have hb : b.toNat < 256 := b.toNat_lt
  have hr : isD b = (decide ((48 : Int) ≤ (b.toNat : Int)) && decide ((b.toNat : Int) ≤ 57)) := rfl
  rw [hr]
  generalize b.toNat = k at *
  by_cases h1 : (48 : Int) ≤ (k : Int)
  · have e1 := decide_eq_true h1
    rw [e1]
    go_enter Tryz.func196, Tryz.ntmps196
    go_wp2_with fail
    go_ret
    simp
  · have e1 := decide_eq_false h1
    rw [e1]
    go_enter Tryz.func196, Tryz.ntmps196
    go_wp2_with fail
    go_ret
    simp

theorem okAt_first (l : Nm) : okAt l 0 = isL (l.getD 0 0) := by simp [okAt]
theorem okAt_next (l : Nm) (k : Nat) (h : k ≠ 0) : okAt l k = (isL (l.getD k 0) || isD (l.getD k 0)) := by simp [okAt, h]

theorem ok_next {l : Nm} {k : Nat} (h : ∀ j, j < k → okAt l j = true) (hk : okAt l k = true) : ∀ j, j < k + 1 → okAt l j = true := by
  intro j hj
  by_cases e : j = k
  · subst e; exact hk
  · exact h j (by omega)

set_option maxHeartbeats 1600000 in
set_option maxRecDepth 100000 in
theorem specShape_any (l : Nm) (w : World) (hs : l.length ≤ 1048576) :
    Calls Tryz.prog 117 #[.string ⟨l.toArray⟩] w fun e w' => e = .returned (.bool (decide (Shape l))) ∧ w' = w := by
  obtain ⟨r, hr⟩ : ∃ r, r = decide (Shape l) := ⟨_, rfl⟩
  rw [← hr]
  have HR := Lib.hid hr
  clear hr
  go_enter Tryz.func117, Tryz.ntmps117
  go_wp2_with fail
  go_loopw [3] (fun i wr => ∃ (k : Nat), k ≤ l.length ∧ i = .int .i64 k ∧ wr = w ∧ Hid (∀ j, j < k → okAt l j = true)) (fun i _ => l.length - (intOf i).toNat)
  case atStart => exact ⟨0, Nat.zero_le _, rfl, rfl, Lib.hid (by simp)⟩
  case round =>
    obtain ⟨k, hk, rfl, rfl, HE⟩ := hrel
    by_cases hlt : k < l.length
    · have hlt' : k < (⟨l.toArray⟩ : ByteArray).size := hlt
      have hby := byte_of l k hlt'
      have hok : okAt l k = (isL (l.getD k 0) || (decide (k ≠ 0) && isD (l.getD k 0))) := rfl
      generalize l.getD k 0 = b at hby hok
      have HO := Lib.hid hok
      clear hok
      have hb : b.toNat < 256 := b.toNat_lt
      have hL : isL b = (decide ((97 : Int) ≤ (b.toNat : Int)) && decide ((b.toNat : Int) ≤ 122)) := rfl
      have hD : isD b = (decide ((48 : Int) ≤ (b.toNat : Int)) && decide ((b.toNat : Int) ≤ 57)) := rfl
      have HL := Lib.hid hL
      have HD := Lib.hid hD
      clear hL hD
      by_cases h1 : (97 : Int) ≤ (b.toNat : Int)
      · by_cases h2 : (b.toNat : Int) ≤ 122
        · go_wp2_with fail
          refine ⟨⟨k + 1, by omega, by simp, trivial, Lib.hid (ok_next HE.out (by rw [HO.out, HL.out, decide_eq_true h1, decide_eq_true h2]; rfl))⟩, by simp [intOf]; omega⟩
        · have h3 : (48 : Int) ≤ (b.toNat : Int) := by omega
          have h4 : ¬ (b.toNat : Int) ≤ 57 := by omega
          have hno : ¬ okAt l k = true := by
            rw [HO.out, HL.out, HD.out, decide_eq_true h1, decide_eq_false h2, decide_eq_true h3, decide_eq_false h4]; simp
          by_cases h0 : k = 0
          · subst h0
            go_wp2_with fail
            go_ret
            refine ⟨?_, rfl⟩
            rw [HR.out, decide_eq_false (fun h : Shape l => absurd (h.2 _ hlt) (hno))]
            rfl
          · have h0' : ((k : Int) == 0) = false := by simp [h0]
            go_wp2_with fail
            go_ret
            refine ⟨?_, rfl⟩
            rw [HR.out, decide_eq_false (fun h : Shape l => absurd (h.2 _ hlt) (hno))]
            rfl
      · by_cases h3 : (48 : Int) ≤ (b.toNat : Int)
        · by_cases h4 : (b.toNat : Int) ≤ 57
          · by_cases h0 : k = 0
            · subst h0
              have hno : ¬ okAt l 0 = true := by
                rw [HO.out, HL.out, HD.out, decide_eq_false h1]; simp
              go_wp2_with fail
              go_ret
              refine ⟨?_, rfl⟩
              rw [HR.out, decide_eq_false (fun h : Shape l => absurd (h.2 _ hlt) (hno))]
              rfl
            · have h0' : ((k : Int) == 0) = false := by simp [h0]
              go_wp2_with fail
              refine ⟨⟨k + 1, by omega, by simp, trivial, Lib.hid (ok_next HE.out (by rw [HO.out, HL.out, HD.out, decide_eq_true h3, decide_eq_true h4]; simp [h0]))⟩, by simp [intOf]; omega⟩
          · have hno : ¬ okAt l k = true := by
              rw [HO.out, HL.out, HD.out, decide_eq_false h1, decide_eq_false h4]; simp
            by_cases h0 : k = 0
            · subst h0
              go_wp2_with fail
              go_ret
              refine ⟨?_, rfl⟩
              rw [HR.out, decide_eq_false (fun h : Shape l => absurd (h.2 _ hlt) (hno))]
              rfl
            · have h0' : ((k : Int) == 0) = false := by simp [h0]
              go_wp2_with fail
              go_ret
              refine ⟨?_, rfl⟩
              rw [HR.out, decide_eq_false (fun h : Shape l => absurd (h.2 _ hlt) (hno))]
              rfl
        · have hno : ¬ okAt l k = true := by
            rw [HO.out, HL.out, HD.out, decide_eq_false h1, decide_eq_false h3]; simp
          by_cases h0 : k = 0
          · subst h0
            go_wp2_with fail
            go_ret
            refine ⟨?_, rfl⟩
            rw [HR.out, decide_eq_false (fun h : Shape l => absurd (h.2 _ hlt) (hno))]
            rfl
          · have h0' : ((k : Int) == 0) = false := by simp [h0]
            go_wp2_with fail
            go_ret
            refine ⟨?_, rfl⟩
            rw [HR.out, decide_eq_false (fun h : Shape l => absurd (h.2 _ hlt) (hno))]
            rfl
    · obtain rfl : k = l.length := by omega
      go_wp2_with fail
      go_ret
      refine ⟨?_, rfl⟩
      have : (decide (Shape l)) = decide (0 < l.length) := by
        apply decide_eq_decide.2
        exact ⟨fun h => h.1, fun h => ⟨h, HE.out⟩⟩
      rw [HR.out, this]
      rfl

theorem shape_iff {l : Nm} (h1 : isL (l.getD 0 0) = true) (h2 : ∀ k, k < l.length → (isL (l.getD k 0) || isD (l.getD k 0)) = true) (h3 : 0 < l.length) : Shape l := by
  refine ⟨h3, fun k hk => ?_⟩
  by_cases e : k = 0
  · subst e; rw [okAt_first]; exact h1
  · rw [okAt_next l k e]; exact h2 k hk

set_option maxHeartbeats 1600000 in
set_option maxRecDepth 100000 in
theorem isWord_any (l : Nm) (w : World) (hs : l.length ≤ 1048576) :
    Calls Tryz.prog 168 #[.string ⟨l.toArray⟩] w fun e w' => e = .returned (.bool (decide (Shape l ∧ l.length ≤ 8))) ∧ w' = w := by
  obtain ⟨r, hr⟩ : ∃ r, r = decide (Shape l ∧ l.length ≤ 8) := ⟨_, rfl⟩
  rw [← hr]
  have HR := Lib.hid hr
  clear hr
  have no : ∀ {e : Bool}, ¬ (Shape l ∧ l.length ≤ 8) → e = false → Ending.returned (.bool e) = .returned (.bool r) := by
    intro e h he; rw [HR.out, he, decide_eq_false h]
  by_cases hz : l.length = 0
  · have hz' : ((l.length : Int) == 0) = true := by simp [hz]
    go_enter Tryz.func168, Tryz.ntmps168
    go_wp2_with fail
    go_ret
    exact ⟨no (fun h => by have := h.1.1; omega) rfl, rfl⟩
  · have hz' : ((l.length : Int) == 0) = false := by simp; exact fun e => hz (by simp [e])
    by_cases h8 : (8 : Int) < (l.length : Int)
    · go_enter Tryz.func168, Tryz.ntmps168
      go_wp2_with fail
      go_ret
      exact ⟨no (fun h => by have := h.2; omega) rfl, rfl⟩
    · have hlt' : 0 < (⟨l.toArray⟩ : ByteArray).size := Nat.pos_of_ne_zero hz
      have hby := byte_of l 0 hlt'
      have hlet := letter_any (l.getD 0 0) w
      obtain ⟨b, hb⟩ : ∃ b, b = l.getD 0 0 := ⟨_, rfl⟩
      rw [← hb] at hby hlet
      have hb256 : b.toNat < 256 := b.toNat_lt
      have HB := Lib.hid hb
      clear hb
      by_cases hlb : isL b = true
      · rw [hlb] at hlet
        go_enter Tryz.func168, Tryz.ntmps168
        go_wp2_with fail
        refine hlet.mono ?_
        rintro e w1 ⟨rfl, rfl⟩
        go_wp2_with fail
        go_loopw [20] (fun i wr => ∃ (k : Nat), k ≤ l.length ∧ i = .int .i64 k ∧ wr = w1 ∧ Hid (∀ j, j < k → (isL (l.getD j 0) || isD (l.getD j 0)) = true)) (fun i _ => l.length - (intOf i).toNat)
        case atStart => exact ⟨0, Nat.zero_le _, rfl, rfl, Lib.hid (by simp)⟩
        case round =>
          obtain ⟨k, hk, rfl, rfl, HE⟩ := hrel
          by_cases hlt : k < l.length
          · have hltk : k < (⟨l.toArray⟩ : ByteArray).size := hlt
            have hbk := byte_of l k hltk
            have hle := letter_any (l.getD k 0) wr
            have hdi := digit_any (l.getD k 0) wr
            obtain ⟨b1, hb1⟩ : ∃ b, b = l.getD k 0 := ⟨_, rfl⟩
            rw [← hb1] at hbk hle hdi
            have hb1256 : b1.toNat < 256 := b1.toNat_lt
            have HB1 := Lib.hid hb1
            clear hb1
            have nx : (isL b1 || isD b1) = true → ∀ j, j < k + 1 → (isL (l.getD j 0) || isD (l.getD j 0)) = true := by
              intro h j hj
              by_cases e : j = k
              · subst e; rw [← HB1.out]; exact h
              · exact HE.out j (by omega)
            have NX := Lib.hid nx
            clear nx
            by_cases hl1 : isL b1 = true
            · rw [hl1] at hle
              go_wp2_with fail
              refine hle.mono ?_
              rintro e w2 ⟨rfl, rfl⟩
              go_wp2_with fail
              exact ⟨⟨k + 1, by omega, by simp, trivial, Lib.hid (NX.out (by simp [hl1]))⟩, by simp [intOf]; omega⟩
            · rw [Bool.not_eq_true] at hl1
              rw [hl1] at hle
              go_wp2_with fail
              refine hle.mono ?_
              rintro e w2 ⟨rfl, rfl⟩
              go_wp2_with fail
              refine hdi.mono ?_
              rintro e w3 ⟨rfl, rfl⟩
              by_cases hd1 : isD b1 = true
              · go_wp2_with fail
                exact ⟨⟨k + 1, by omega, by simp, trivial, Lib.hid (NX.out (by simp [hd1]))⟩, by simp [intOf]; omega⟩
              · rw [Bool.not_eq_true] at hd1
                go_wp2_with fail
                go_ret
                refine ⟨no (fun h => ?_) rfl, rfl⟩
                have h1 := h.1.2 k hlt
                unfold okAt at h1
                rw [← HB1.out, hl1, hd1] at h1
                simp at h1
          · obtain rfl : k = l.length := by omega
            go_wp2_with fail
            go_ret
            refine ⟨?_, rfl⟩
            rw [HR.out, decide_eq_true ⟨shape_iff (by rw [← HB.out]; exact hlb) HE.out (by omega), by omega⟩]
            rfl
      · rw [Bool.not_eq_true] at hlb
        rw [hlb] at hlet
        go_enter Tryz.func168, Tryz.ntmps168
        go_wp2_with fail
        refine hlet.mono ?_
        rintro e w1 ⟨rfl, rfl⟩
        go_wp2_with fail
        go_ret
        refine ⟨no (fun h => ?_) rfl, rfl⟩
        have h1 := h.1.2 0 (by omega)
        rw [okAt_first, ← HB.out, hlb] at h1
        cases h1
end Go.Proofs.YtcdklpflgafokaaGreatDoor

/-
  IsValidName, the model's and the program's; the laws FnExactIsReserved and FnExactIsValidName.
-/

namespace Go.Proofs.YtcdklpflgafokaaGreatDoor
open Go.RowKit
set_option linter.unusedVariables false

/-- A valid name. -/
def VN (l : Nm) : Prop := (Shape l ∧ l.length ≤ 8) ∧ l ∉ resB.map nb
instance (l : Nm) : Decidable (VN l) := inferInstanceAs (Decidable (_ ∧ _))

theorem nb_mk (l : Nm) : nb ⟨l.toArray⟩ = l := nb_bn l

set_option maxHeartbeats 800000 in
set_option maxRecDepth 100000 in
theorem implValid_any (l : Nm) (w : World) (hs : l.length ≤ 1048576) :
    Calls Tryz.prog 126 #[.string ⟨l.toArray⟩] w fun e w' => e = .returned (.bool (decide (VN l))) ∧ Below w.heap.size w w' := by
  obtain ⟨r, hr⟩ : ∃ r, r = decide (VN l) := ⟨_, rfl⟩
  rw [← hr]
  have HR := Lib.hid hr
  clear hr
  have hw := isWord_any l w hs
  have hres := implReserved_any ⟨l.toArray⟩ w hs
  rw [nb_mk] at hres
  by_cases h1 : Shape l ∧ l.length ≤ 8
  · rw [decide_eq_true h1] at hw
    obtain ⟨q, hq⟩ : ∃ q, q = decide (l ∈ resB.map nb) := ⟨_, rfl⟩
    rw [← hq] at hres
    have HQ := Lib.hid hq
    clear hq
    have hrq : r = !q := by
      rw [HR.out, HQ.out]
      by_cases h : l ∈ resB.map nb
      · rw [decide_eq_true h, decide_eq_false (fun e : VN l => e.2 h)]; rfl
      · rw [decide_eq_false h, decide_eq_true (show VN l from ⟨h1, h⟩)]; rfl
    subst hrq
    have H1 := Lib.hid h1
    clear h1
    go_enter Tryz.func126, Tryz.ntmps126
    go_wp2_with fail
    refine hw.mono ?_
    rintro e w1 ⟨rfl, rfl⟩
    go_wp2_with fail
    refine hres.mono ?_
    rintro e w2 ⟨rfl, hb⟩
    have HB := Lib.hid hb
    clear hb
    go_wp2_with fail
    go_ret
    exact ⟨rfl, HB.out⟩
  · rw [decide_eq_false h1] at hw
    have hrf : r = false := by rw [HR.out, decide_eq_false (fun e : VN l => h1 e.1)]
    subst hrf
    have H1 := Lib.hid h1
    clear h1
    go_enter Tryz.func126, Tryz.ntmps126
    go_wp2_with fail
    refine hw.mono ?_
    rintro e w1 ⟨rfl, rfl⟩
    go_wp2_with fail
    go_ret
    exact ⟨rfl, Below.refl _ _⟩

set_option maxHeartbeats 800000 in
set_option maxRecDepth 100000 in
theorem specValid_any (l : Nm) (w : World) (hs : l.length ≤ 1048576) :
    Calls Tryz.prog 67 #[.string ⟨l.toArray⟩] w fun e w' => e = .returned (.bool (decide (VN l))) ∧ Below w.heap.size w w' := by
  obtain ⟨r, hr⟩ : ∃ r, r = decide (VN l) := ⟨_, rfl⟩
  rw [← hr]
  have HR := Lib.hid hr
  clear hr
  have hw := specShape_any l w hs
  have hres := specReserved_any ⟨l.toArray⟩ w
  rw [nb_mk] at hres
  by_cases h1 : Shape l
  · rw [decide_eq_true h1] at hw
    by_cases h2 : (l.length : Int) ≤ 8
    · obtain ⟨q, hq⟩ : ∃ q, q = decide (l ∈ resB.map nb) := ⟨_, rfl⟩
      rw [← hq] at hres
      have HQ := Lib.hid hq
      clear hq
      have hrq : r = !q := by
        rw [HR.out, HQ.out]
        by_cases h : l ∈ resB.map nb
        · rw [decide_eq_true h, decide_eq_false (fun e : VN l => e.2 h)]; rfl
        · rw [decide_eq_false h, decide_eq_true (show VN l from ⟨⟨h1, by omega⟩, h⟩)]; rfl
      subst hrq
      have H1 := Lib.hid h1
      clear h1
      go_enter Tryz.func67, Tryz.ntmps67
      go_wp2_with fail
      refine hw.mono ?_
      rintro e w1 ⟨rfl, rfl⟩
      go_wp2_with fail
      refine hres.mono ?_
      rintro e w2 ⟨rfl, hb⟩
      have HB := Lib.hid hb
      clear hb
      go_wp2_with fail
      go_ret
      exact ⟨rfl, HB.out⟩
    · have hrf : r = false := by rw [HR.out, decide_eq_false (fun e : VN l => by have := e.1.2; omega)]
      subst hrf
      have H1 := Lib.hid h1
      clear h1
      go_enter Tryz.func67, Tryz.ntmps67
      go_wp2_with fail
      refine hw.mono ?_
      rintro e w1 ⟨rfl, rfl⟩
      go_wp2_with fail
      go_ret
      exact ⟨rfl, Below.refl _ _⟩
  · rw [decide_eq_false h1] at hw
    have hrf : r = false := by rw [HR.out, decide_eq_false (fun e : VN l => h1 e.1.1)]
    subst hrf
    have H1 := Lib.hid h1
    clear h1
    go_enter Tryz.func67, Tryz.ntmps67
    go_wp2_with fail
    refine hw.mono ?_
    rintro e w1 ⟨rfl, rfl⟩
    go_wp2_with fail
    go_ret
    exact ⟨rfl, Below.refl _ _⟩

end Go.Proofs.YtcdklpflgafokaaGreatDoor

/-
  AllDistinct, the model's and the program's.
-/

namespace Go.Proofs.YtcdklpflgafokaaGreatDoor
open Go.RowKit
set_option linter.unusedVariables false

theorem sortB_len (ss : List ByteArray) : (sortB ss).length = (sortN (ss.map nb)).length := by simp [sortB]
theorem sortB_le (ss : List ByteArray) : (sortB ss).length ≤ ss.length := by
  rw [sortB_len]
  have := sortN_length (ss.map nb)
  simpa using this

theorem slice_upto (a : Option Addr) (n c k : Nat) (h : k ≤ c) (W : World) :
    (Instr.slice 25 (.slice a n c) none (some (.int .i64 (k : Int))) none).run Tryz.prog W = .ok (.slice a k c) W := by
  rw [run_slice_h (P := Tryz.prog) (w := W) 25 a n c (by kernel_rfl) .i64 (k : Int) (by omega) (by omega)]
  have hs : (sizeOf (Tryz.prog.elem 25)).run Tryz.prog W = .ok 1 W := by kernel_rfl
  rw [hs]
  cases a with
  | none => simp [Result.andThen, sliced]
  | some x => cases x; simp [Result.andThen, sliced, Addr.add]

set_option maxHeartbeats 400000 in
set_option maxRecDepth 100000 in
theorem implDistinct_any (A : Option Addr) (c : Nat) (ss : List ByteArray) (B : Nat) (w : World) (h : RowOf w B A (strV ss)) (hn : ss.length ≤ 1048576) :
    Calls Tryz.prog 125 #[.slice A ss.length c] w fun e w' => e = .returned (.bool (decide ((ss.map nb).Nodup))) ∧ Below w.heap.size w w' := by
  have hs := implSort_any A c ss B w h hn
  have hle := sortB_le ss
  have hr : decide ((ss.map nb).Nodup) = ((((sortB ss).length : Nat) : Int) == ((ss.length : Nat) : Int)) := by
    rw [sortB_len]
    have h1 := sortN_len (ss.map nb)
    rw [List.length_map] at h1
    rw [Bool.eq_iff_iff, decide_eq_true_iff, ← h1]
    simp
    omega
  rw [hr]
  unfold SortLeft at hs
  generalize sortB ss = ts at hs hle
  generalize ss.length = n at hs hle hn
  clear hr h
  go_enter Tryz.func125, Tryz.ntmps125
  go_wp2_with fail
  refine hs.mono ?_
  rintro e w1 ⟨A', c', rfl, hown, hb⟩
  have HB := Lib.hid hb
  clear hb hown
  go_wp2_with fail
  go_ret
  exact ⟨rfl, HB.out⟩

set_option maxHeartbeats 400000 in
set_option maxRecDepth 100000 in
theorem specDistinct_any (A : Option Addr) (c : Nat) (ss : List ByteArray) (B : Nat) (w : World) (h : RowOf w B A (strV ss)) (hc : ss.length ≤ c) (hn : ss.length ≤ 1048576) :
    Calls Tryz.prog 70 #[.slice A ss.length c] w fun e w' => e = .returned (.bool (decide ((ss.map nb).Nodup))) ∧ Below w.heap.size w w' := by
  go_enter Tryz.func70, Tryz.ntmps70
  go_wp2_with fail
  go_loopw [3] (fun i wr => ∃ (k n : Nat), k ≤ ss.length ∧ i = .int .i64 k ∧ wr = w.drewN n ∧ Hid (((ss.take k).map nb).Nodup)) (fun i _ => ss.length - (intOf i).toNat)
  case atStart => exact ⟨0, 0, Nat.zero_le _, rfl, rfl, Lib.hid (by simp)⟩
  case round =>
    obtain ⟨k, n, hk, rfl, rfl, HE⟩ := hrel
    by_cases hlt : k < ss.length
    · obtain ⟨b, o, rfl, _, hcell⟩ := h k _ (strV_get ss k hlt)
      have hcall : ∀ m, Calls Tryz.prog 119 #[.slice (some ⟨b, o, none⟩) (ss.take k).length c, .string ss[k]] (w.drewN (n + m)) fun e w' => e = .returned (.bool (decide (nb ss[k] ∈ (ss.take k).map nb))) ∧ ∃ m', w' = w.drewN (n + m') := fun m =>
        (has_any (some ⟨b, o, none⟩) c (ss.take k) ss[k] B (w.drewN (n + m)) (by
          intro j v hv
          have hj : j < k := by have := (List.getElem?_eq_some_iff.1 hv).1; simp [strV] at this; omega
          have hv' : (strV ss)[j]? = some v := by
            rw [strV, List.map_take, List.getElem?_take_of_lt hj] at hv
            exact hv
          exact h j v hv') (by simp; omega)).mono (fun e w' h => ⟨h.1, m, h.2⟩)
      rw [List.length_take, Nat.min_eq_left hk] at hcall
      obtain ⟨x, hx⟩ : ∃ x, x = ss[k] := ⟨_, rfl⟩
      rw [← hx] at hcell hcall
      have hnx : ((ss.take (k + 1)).map nb).Nodup ↔ ((ss.take k).map nb).Nodup ∧ nb x ∉ (ss.take k).map nb := by
        rw [List.take_succ_eq_append_getElem hlt, ← hx, List.map_append, List.nodup_append]
        constructor
        · rintro ⟨h1, h2, h3⟩
          exact ⟨h1, fun hm => h3 _ hm (nb x) (by simp) rfl⟩
        · rintro ⟨h1, h2⟩
          refine ⟨h1, by simp, ?_⟩
          intro a ha y hy e
          have hy' : y = nb x := by simpa using hy
          exact h2 (by rw [← hy', ← e]; exact ha)
      obtain ⟨q, hq⟩ : ∃ q, q = decide (nb x ∈ (ss.take k).map nb) := ⟨_, rfl⟩
      rw [← hq] at hcall
      have hsl := fun W => slice_upto (some ⟨b, o, none⟩) ss.length c k (by omega) W
      have HX := Lib.hid hx
      have HQ := Lib.hid hq
      have HN := Lib.hid hnx
      clear hx hq hnx
      go_wp2_with fail
      go_quiet (exact hcall _)
      go_wp2_with fail
      · rename_i hqt
        go_ret
        refine ⟨?_, below_drewN (below_drewN (Below.refl _ _) n) nq⟩
        have hm : nb x ∈ (ss.take k).map nb := of_decide_eq_true (HQ.out.symm.trans (by simpa using hqt))
        have hnd : ¬ (ss.map nb).Nodup := by
          intro hnd
          have h1 : ((ss.take (k + 1)).map nb).Nodup := by
            rw [List.map_take]; exact hnd.sublist (List.take_sublist _ _)
          exact (HN.out.1 h1).2 hm
        rw [decide_eq_false hnd]
        rfl
      · rename_i hqf
        refine ⟨⟨k + 1, _, by omega, by simp, rfl, Lib.hid (HN.out.2 ⟨HE.out, ?_⟩)⟩, by simp [intOf]; omega⟩
        exact of_decide_eq_false (HQ.out.symm.trans (by simpa using hqf))
    · obtain rfl : k = ss.length := by omega
      go_wp2_with fail
      go_ret
      refine ⟨?_, below_drewN (Below.refl _ _) n⟩
      have he := HE.out
      rw [List.take_length] at he
      rw [decide_eq_true he]
      rfl
end Go.Proofs.YtcdklpflgafokaaGreatDoor

/-
  Tables taken apart; the place of a column.
-/

namespace Go.Proofs.YtcdklpflgafokaaGreatDoor
open Go.RowKit
set_option linter.unusedVariables false

/-! ### tables taken apart -/
def Dt.co : Dt → List ByteArray
  | .agg [_, _, _, _, _, .lst c, _] => c.map fun x => match x with | .str s => s | _ => ⟨#[]⟩
  | _ => []
def Dt.rw : Dt → List Dt
  | .agg [_, _, _, _, _, _, .lst r] => r
  | _ => []
theorem co_mk (k n s : Dt) (t l : Dt) (c : List ByteArray) (r : Dt) : Dt.co (.agg [k, n, s, t, l, .lst (c.map .str), r]) = c := by
  simp only [Dt.co, List.map_map]
  conv => rhs; rw [← List.map_id c]
  rfl
theorem rw_mk (k n s t l c : Dt) (r : List Dt) : Dt.rw (.agg [k, n, s, t, l, c, .lst r]) = r := rfl
/-- A row's cells and origins. -/
def Dt.ce : Dt → List Int
  | .agg [.lst ns, _] => ns.map fun x => match x with | .int n => n | _ => 0
  | _ => []
def Dt.fr : Dt → List Dt
  | .agg [_, .lst os] => os
  | _ => []
theorem ce_mk (ns : List Int) (o : Dt) : Dt.ce (.agg [.lst (ns.map .int), o]) = ns := by
  simp only [Dt.ce, List.map_map]
  conv => rhs; rw [← List.map_id ns]
  rfl
def Dt.at (r : Dt) (k : Nat) : Int := (r.ce[k]?).getD 0
/-- The place of a column. -/
theorem idxFrom_or (x : ByteArray) : ∀ (zs : List ByteArray) (i : Nat), (Lib.idxFromS zs x i = -1 ∧ x ∉ zs) ∨ ∃ k, k < zs.length ∧ Lib.idxFromS zs x i = ((i + k : Nat) : Int) ∧ x ∈ zs
  | [], i => .inl ⟨rfl, by simp⟩
  | z :: zs, i => by
    unfold Lib.idxFromS
    by_cases h : z = x
    · exact .inr ⟨0, by simp, by rw [if_pos h]; rfl, by simp [h]⟩
    · rw [if_neg h]
      rcases idxFrom_or x zs (i + 1) with ⟨h1, h2⟩ | ⟨k, h1, h2, h3⟩
      · exact .inl ⟨h1, by simp only [List.mem_cons, not_or]; exact ⟨fun e => h e.symm, h2⟩⟩
      · exact .inr ⟨k + 1, by simpa using h1, by rw [h2]; congr 1; omega, by simp [h3]⟩
theorem idx_or (cc : List ByteArray) (s : ByteArray) : (Lib.idxOfS cc s = -1 ∧ s ∉ cc) ∨ ∃ k, k < cc.length ∧ Lib.idxOfS cc s = ((k : Nat) : Int) ∧ s ∈ cc := by
  rcases idxFrom_or s cc 0 with h | ⟨k, h1, h2, h3⟩
  · exact .inl h
  · exact .inr ⟨k, h1, by rw [Nat.zero_add] at h2; exact h2, h3⟩
def pos (cc : List ByteArray) (s : ByteArray) : Nat := (Lib.idxOfS cc s).toNat
end Go.Proofs.YtcdklpflgafokaaGreatDoor
