/-
  Texts that the proof rests on, put together: Box7, Text, Lead, StrSz, StrTo, StrEq, Sub, MarkNum.
-/
import Derived.Test.YtabcmnlmmpbmnaaGreatMgH5
import Derived.Test.YtabcmnlmmpbmnaaGreatMgH4
/-
  The seven cells of a value's box, all at once.
-/

namespace Go.Proofs.YtabcmnlmmpbmnaaGreat
open Go.RowKit
set_option linter.unusedVariables false

theorem box7 {w : World} {base g : Nat} {e : TypeId} {c0 c1 c2 c3 c4 c5 c6 : Value} (h : w.ownsRow base e 7 (.slice (some ⟨g, 0, none⟩) 1 1) 1 [c0, c1, c2, c3, c4, c5, c6]) :
    w.cell? ⟨g, 0, none⟩ = some c0 ∧ w.cell? ⟨g, 1, none⟩ = some c1 ∧ w.cell? ⟨g, 2, none⟩ = some c2 ∧ w.cell? ⟨g, 3, none⟩ = some c3 ∧ w.cell? ⟨g, 4, none⟩ = some c4 ∧ w.cell? ⟨g, 5, none⟩ = some c5 ∧ w.cell? ⟨g, 6, none⟩ = some c6 ∧ g < w.heap.size :=
  ⟨h.cellAt 0 (by decide), h.cellAt 1 (by decide), h.cellAt 2 (by decide), h.cellAt 3 (by decide), h.cellAt 4 (by decide), h.cellAt 5 (by decide), h.cellAt 6 (by decide), (h.lt _ rfl).2⟩
theorem box7z {w : World} {base g : Nat} {e : TypeId} {cs : List Value} (h : w.ownsRow base e 7 (.slice (some ⟨g, 0, none⟩) 1 1) 1 cs) :
    w.frozen? ⟨g, 0, none⟩ = false ∧ w.frozen? ⟨g, 1, none⟩ = false ∧ w.frozen? ⟨g, 2, none⟩ = false ∧ w.frozen? ⟨g, 3, none⟩ = false ∧ w.frozen? ⟨g, 4, none⟩ = false ∧ w.frozen? ⟨g, 5, none⟩ = false ∧ w.frozen? ⟨g, 6, none⟩ = false :=
  ⟨h.frozenAt 0, h.frozenAt 1, h.frozenAt 2, h.frozenAt 3, h.frozenAt 4, h.frozenAt 5, h.frozenAt 6⟩
end Go.Proofs.YtabcmnlmmpbmnaaGreat

/-
  IsValidText, the program's and the model's, and the law FnExactIsValidText.
-/

namespace Go.Proofs.YtabcmnlmmpbmnaaGreat
open Go.RowKit
set_option linter.unusedVariables false

/-- A truth value's answer, at a call that changes nothing. -/
def AnsP (P : Prop) (w : World) (e : Ending) (w' : World) : Prop := ∃ b : Bool, e = .returned (.bool b) ∧ (b = true ↔ P) ∧ w' = w
def okT (b : UInt8) : Prop := 32 ≤ b.toNat ∧ b.toNat ≤ 126 ∧ b.toNat ≠ 34
def okTs (s : ByteArray) (n : Nat) : Prop := ∀ k (h : k < s.size), k < n → okT s[k]
def VT (s : ByteArray) : Prop := s.size ≤ 20 ∧ okTs s s.size
theorem okTs_next {s : ByteArray} {k : Nat} (h : okTs s k) (hk : k < s.size) (hb : okT s[k]) : okTs s (k + 1) := by
  intro j hj hjk
  by_cases e : j = k
  · subst e; exact hb
  · exact h j hj (by omega)

set_option maxHeartbeats 1600000 in
set_option maxRecDepth 100000 in
theorem specText_any (s : ByteArray) (w : World) (hs : s.size ≤ 1048576) :
    Calls Tryz.prog 59 #[.string s] w (AnsP (VT s) w) := by
  go_enter Tryz.func59, Tryz.ntmps59
  go_wp2_with fail
  go_loopw [3] (fun i wr => ∃ (k : Nat), k ≤ s.size ∧ i = .int .i64 k ∧ wr = w ∧ Hid (okTs s k)) (fun i _ => s.size - (intOf i).toNat)
  case atStart => exact ⟨0, Nat.zero_le _, rfl, rfl, Lib.hid (by intro k _ h; omega)⟩
  case round =>
    obtain ⟨k, hk, rfl, rfl, HE⟩ := hrel
    by_cases hlt : k < s.size
    · obtain ⟨b, hby⟩ : ∃ b, s[k] = b := ⟨_, rfl⟩
      have hb : b.toNat < 256 := b.toNat_lt
      by_cases h1 : (b.toNat : Int) < 32
      · go_wp2_with fail
        go_ret
        refine ⟨false, rfl, ⟨(fun e => by cases e), fun h => ?_⟩, rfl⟩
        have := h.2 k hlt hlt
        rw [hby] at this
        have := this.1
        omega
      · by_cases h2 : (b.toNat : Int) > 126
        · go_wp2_with fail
          go_ret
          refine ⟨false, rfl, ⟨(fun e => by cases e), fun h => ?_⟩, rfl⟩
          have := h.2 k hlt hlt
          rw [hby] at this
          have := this.2.1
          omega
        · by_cases h3 : b.toNat = 34
          · have e34 : ((b.toNat : Int) == 34) = true := by simp; omega
            go_wp2_with fail
            go_ret
            refine ⟨false, rfl, ⟨(fun e => by cases e), fun h => ?_⟩, rfl⟩
            have := h.2 k hlt hlt
            rw [hby] at this
            exact absurd h3 this.2.2
          · have e34 : ((b.toNat : Int) == 34) = false := by simp; omega
            go_wp2_with fail
            exact ⟨⟨k + 1, by omega, by simp, trivial, Lib.hid (okTs_next HE.out hlt (by rw [hby]; exact ⟨by omega, by omega, h3⟩))⟩, by simp [intOf]; omega⟩
    · obtain rfl : k = s.size := by omega
      by_cases h20 : s.size ≤ 20
      · have h20' : (s.size : Int) ≤ 20 := by omega
        go_wp2_with fail
        go_ret
        exact ⟨true, by simp, by simp [VT, h20, HE.out], rfl⟩
      · have h20' : ¬ (s.size : Int) ≤ 20 := by omega
        go_wp2_with fail
        go_ret
        exact ⟨false, by simp, by simp [VT, h20], rfl⟩

set_option maxHeartbeats 1600000 in
set_option maxRecDepth 100000 in
theorem implText_any (s : ByteArray) (w : World) (hs : s.size ≤ 1048576) :
    Calls Tryz.prog 202 #[.string s] w (AnsP (VT s) w) := by
  by_cases h20 : 20 < s.size
  · go_enter Tryz.func202, Tryz.ntmps202
    go_wp2_with fail
    go_ret
    exact ⟨false, rfl, ⟨(fun e => by cases e), fun h => by have := h.1; omega⟩, rfl⟩
  · go_enter Tryz.func202, Tryz.ntmps202
    go_wp2_with fail
    go_loopw [9] (fun i wr => ∃ (k : Nat), k ≤ s.size ∧ i = .int .i64 k ∧ wr = w ∧ Hid (okTs s k)) (fun i _ => s.size - (intOf i).toNat)
    case atStart => exact ⟨0, Nat.zero_le _, rfl, rfl, Lib.hid (by intro k _ h; omega)⟩
    case round =>
      obtain ⟨k, hk, rfl, rfl, HE⟩ := hrel
      by_cases hlt : k < s.size
      · obtain ⟨b, hby⟩ : ∃ b, s[k] = b := ⟨_, rfl⟩
        have hb : b.toNat < 256 := b.toNat_lt
        by_cases h1 : (b.toNat : Int) < 32
        · go_wp2_with fail
          go_ret
          refine ⟨false, rfl, ⟨(fun e => by cases e), fun h => ?_⟩, rfl⟩
          have := h.2 k hlt hlt
          rw [hby] at this
          have := this.1
          omega
        · by_cases h2 : (b.toNat : Int) > 126
          · go_wp2_with fail
            go_ret
            refine ⟨false, rfl, ⟨(fun e => by cases e), fun h => ?_⟩, rfl⟩
            have := h.2 k hlt hlt
            rw [hby] at this
            have := this.2.1
            omega
          · by_cases h3 : b.toNat = 34
            · have e34 : ((b.toNat : Int) == 34) = true := by simp; omega
              go_wp2_with fail
              go_ret
              refine ⟨false, rfl, ⟨(fun e => by cases e), fun h => ?_⟩, rfl⟩
              have := h.2 k hlt hlt
              rw [hby] at this
              exact absurd h3 this.2.2
            · have e34 : ((b.toNat : Int) == 34) = false := by simp; omega
              go_wp2_with fail
              exact ⟨⟨k + 1, by omega, by simp, trivial, Lib.hid (okTs_next HE.out hlt (by rw [hby]; exact ⟨by omega, by omega, h3⟩))⟩, by simp [intOf]; omega⟩
      · obtain rfl : k = s.size := by omega
        go_wp2_with fail
        go_ret
        exact ⟨true, rfl, by simp [VT, HE.out]; omega, rfl⟩

end Go.Proofs.YtabcmnlmmpbmnaaGreat

/-
  Which texts have the form of a name: the model's l2Shape and the program's isWord; how far a text's bytes belong.
-/

namespace Go.Proofs.YtabcmnlmmpbmnaaGreat
open Go.RowKit
set_option linter.unusedVariables false

def isL (b : UInt8) : Bool := decide ((97 : Int) ≤ (b.toNat : Int)) && decide ((b.toNat : Int) ≤ 122)
def isD (b : UInt8) : Bool := decide ((48 : Int) ≤ (b.toNat : Int)) && decide ((b.toNat : Int) ≤ 57)
/-- The bytes may stand in a name: a letter, or, behind the first place, a digit. -/
def okAt (l : List UInt8) (k : Nat) : Bool := isL (l.getD k 0) || (decide (k ≠ 0) && isD (l.getD k 0))
def Shape (l : List UInt8) : Prop := 0 < l.length ∧ ∀ k, k < l.length → okAt l k = true
instance (l : List UInt8) : Decidable (Shape l) := inferInstanceAs (Decidable (_ ∧ _))

theorem byte_of (l : List UInt8) (k : Nat) (h : k < (⟨l.toArray⟩ : ByteArray).size) : (⟨l.toArray⟩ : ByteArray)[k]'h = l.getD k 0 := by
  have h' : k < l.length := h
  rw [List.getD_eq_getElem?_getD, List.getElem?_eq_getElem h']
  rfl

set_option maxHeartbeats 400000 in
set_option maxRecDepth 100000 in
theorem letter_any (b : UInt8) (w : World) :
    Calls Tryz.prog 233 #[.int .u8 b.toNat] w fun e w' => e = .returned (.bool (isL b)) ∧ w' = w := by
  have hb : b.toNat < 256 := b.toNat_lt
  have hr : isL b = (decide ((97 : Int) ≤ (b.toNat : Int)) && decide ((b.toNat : Int) ≤ 122)) := rfl
  rw [hr]
  generalize b.toNat = k at *
  by_cases h1 : (97 : Int) ≤ (k : Int)
  · have e1 := decide_eq_true h1
    rw [e1]
    go_enter Tryz.func233, Tryz.ntmps233
    go_wp2_with fail
    go_ret
    simp
  · have e1 := decide_eq_false h1
    rw [e1]
    go_enter Tryz.func233, Tryz.ntmps233
    go_wp2_with fail
    go_ret
    simp

set_option maxHeartbeats 400000 in
set_option maxRecDepth 100000 in
theorem digit_any (b : UInt8) (w : World) :
    Calls Tryz.prog 238 #[.int .u8 b.toNat] w fun e w' => e = .returned (.bool (isD b)) ∧ w' = w := by
  have hb : b.toNat < 256 := b.toNat_lt
  have hr : isD b = (decide ((48 : Int) ≤ (b.toNat : Int)) && decide ((b.toNat : Int) ≤ 57)) := rfl
  rw [hr]
  generalize b.toNat = k at *
  by_cases h1 : (48 : Int) ≤ (k : Int)
  · have e1 := decide_eq_true h1
    rw [e1]
    go_enter Tryz.func238, Tryz.ntmps238
    go_wp2_with fail
    go_ret
    simp
  · have e1 := decide_eq_false h1
    rw [e1]
    go_enter Tryz.func238, Tryz.ntmps238
    go_wp2_with fail
    go_ret
    simp

theorem okAt_first (l : List UInt8) : okAt l 0 = isL (l.getD 0 0) := by simp [okAt]
theorem okAt_next (l : List UInt8) (k : Nat) (h : k ≠ 0) : okAt l k = (isL (l.getD k 0) || isD (l.getD k 0)) := by simp [okAt, h]

theorem ok_next {l : List UInt8} {k : Nat} (h : ∀ j, j < k → okAt l j = true) (hk : okAt l k = true) : ∀ j, j < k + 1 → okAt l j = true := by
  intro j hj
  by_cases e : j = k
  · subst e; exact hk
  · exact h j (by omega)

set_option maxHeartbeats 1600000 in
set_option maxRecDepth 100000 in
theorem specShape_any (l : List UInt8) (w : World) (hs : l.length ≤ 1048576) :
    Calls Tryz.prog 188 #[.string ⟨l.toArray⟩] w fun e w' => e = .returned (.bool (decide (Shape l))) ∧ w' = w := by
  obtain ⟨r, hr⟩ : ∃ r, r = decide (Shape l) := ⟨_, rfl⟩
  rw [← hr]
  have HR := Lib.hid hr
  clear hr
  go_enter Tryz.func188, Tryz.ntmps188
  go_wp2_with fail
  go_loopw [3] (fun i wr => ∃ (k : Nat), k ≤ l.length ∧ i = .int .i64 k ∧ wr = w ∧ Hid (∀ j, j < k → okAt l j = true)) (fun i _ => l.length - (intOf i).toNat)
  case atStart => exact ⟨0, Nat.zero_le _, rfl, rfl, Lib.hid (by simp)⟩
  case round =>
    obtain ⟨k, hk, rfl, rfl, HE⟩ := hrel
    by_cases hlt : k < l.length
    · have hlt' : k < (⟨l.toArray⟩ : ByteArray).size := hlt
      have hby := byte_of l k hlt'
      have hok : okAt l k = (isL (l.getD k 0) || (decide (k ≠ 0) && isD (l.getD k 0))) := rfl
      generalize l.getD k 0 = b at hby hok
      have HO := Lib.hid hok
      clear hok
      have hb : b.toNat < 256 := b.toNat_lt
      have hL : isL b = (decide ((97 : Int) ≤ (b.toNat : Int)) && decide ((b.toNat : Int) ≤ 122)) := rfl
      have hD : isD b = (decide ((48 : Int) ≤ (b.toNat : Int)) && decide ((b.toNat : Int) ≤ 57)) := rfl
      have HL := Lib.hid hL
      have HD := Lib.hid hD
      clear hL hD
      by_cases h1 : (97 : Int) ≤ (b.toNat : Int)
      · by_cases h2 : (b.toNat : Int) ≤ 122
        · go_wp2_with fail
          refine ⟨⟨k + 1, by omega, by simp, trivial, Lib.hid (ok_next HE.out (by rw [HO.out, HL.out, decide_eq_true h1, decide_eq_true h2]; rfl))⟩, by simp [intOf]; omega⟩
        · have h3 : (48 : Int) ≤ (b.toNat : Int) := by omega
          have h4 : ¬ (b.toNat : Int) ≤ 57 := by omega
          have hno : ¬ okAt l k = true := by
            rw [HO.out, HL.out, HD.out, decide_eq_true h1, decide_eq_false h2, decide_eq_true h3, decide_eq_false h4]; simp
          by_cases h0 : k = 0
          · subst h0
            go_wp2_with fail
            go_ret
            refine ⟨?_, rfl⟩
            rw [HR.out, decide_eq_false (fun h : Shape l => absurd (h.2 _ hlt) (hno))]
            rfl
          · have h0' : ((k : Int) == 0) = false := by simp [h0]
            go_wp2_with fail
            go_ret
            refine ⟨?_, rfl⟩
            rw [HR.out, decide_eq_false (fun h : Shape l => absurd (h.2 _ hlt) (hno))]
            rfl
      · by_cases h3 : (48 : Int) ≤ (b.toNat : Int)
        · by_cases h4 : (b.toNat : Int) ≤ 57
          · by_cases h0 : k = 0
            · subst h0
              have hno : ¬ okAt l 0 = true := by
                rw [HO.out, HL.out, HD.out, decide_eq_false h1]; simp
              go_wp2_with fail
              go_ret
              refine ⟨?_, rfl⟩
              rw [HR.out, decide_eq_false (fun h : Shape l => absurd (h.2 _ hlt) (hno))]
              rfl
            · have h0' : ((k : Int) == 0) = false := by simp [h0]
              go_wp2_with fail
              refine ⟨⟨k + 1, by omega, by simp, trivial, Lib.hid (ok_next HE.out (by rw [HO.out, HL.out, HD.out, decide_eq_true h3, decide_eq_true h4]; simp [h0]))⟩, by simp [intOf]; omega⟩
          · have hno : ¬ okAt l k = true := by
              rw [HO.out, HL.out, HD.out, decide_eq_false h1, decide_eq_false h4]; simp
            by_cases h0 : k = 0
            · subst h0
              go_wp2_with fail
              go_ret
              refine ⟨?_, rfl⟩
              rw [HR.out, decide_eq_false (fun h : Shape l => absurd (h.2 _ hlt) (hno))]
              rfl
            · have h0' : ((k : Int) == 0) = false := by simp [h0]
              go_wp2_with fail
              go_ret
              refine ⟨?_, rfl⟩
              rw [HR.out, decide_eq_false (fun h : Shape l => absurd (h.2 _ hlt) (hno))]
              rfl
        · have hno : ¬ okAt l k = true := by
            rw [HO.out, HL.out, HD.out, decide_eq_false h1, decide_eq_false h3]; simp
          by_cases h0 : k = 0
          · subst h0
            go_wp2_with fail
            go_ret
            refine ⟨?_, rfl⟩
            rw [HR.out, decide_eq_false (fun h : Shape l => absurd (h.2 _ hlt) (hno))]
            rfl
          · have h0' : ((k : Int) == 0) = false := by simp [h0]
            go_wp2_with fail
            go_ret
            refine ⟨?_, rfl⟩
            rw [HR.out, decide_eq_false (fun h : Shape l => absurd (h.2 _ hlt) (hno))]
            rfl
    · obtain rfl : k = l.length := by omega
      go_wp2_with fail
      go_ret
      refine ⟨?_, rfl⟩
      have : (decide (Shape l)) = decide (0 < l.length) := by
        apply decide_eq_decide.2
        exact ⟨fun h => h.1, fun h => ⟨h, HE.out⟩⟩
      rw [HR.out, this]
      rfl

def isN (b : UInt8) : Bool := isL b || isD b
theorem lead_stop {p : UInt8 → Bool} : ∀ (l : List UInt8) (k : Nat), k < l.length → (∀ j, j < k → p (l.getD j 0) = true) → p (l.getD k 0) = false → (l.takeWhile p).length = k
  | [], k, hk, _, _ => by simp at hk
  | b :: l, 0, _, _, h => by
    rw [List.takeWhile_cons_of_neg (by simpa using h)]; rfl
  | b :: l, k + 1, hk, h, h' => by
    have h0 := h 0 (by omega)
    rw [List.takeWhile_cons_of_pos (by simpa using h0), List.length_cons, lead_stop l k (by simpa using hk) (fun j hj => by simpa using h (j + 1) (by omega)) (by simpa using h')]
theorem lead_all {p : UInt8 → Bool} : ∀ (l : List UInt8), (∀ j, j < l.length → p (l.getD j 0) = true) → (l.takeWhile p).length = l.length
  | [], _ => rfl
  | b :: l, h => by
    have h0 := h 0 (by simp)
    rw [List.takeWhile_cons_of_pos (by simpa using h0), List.length_cons, lead_all l (fun j hj => by simpa using h (j + 1) (by simpa using hj)), List.length_cons]
theorem lead_get {p : UInt8 → Bool} : ∀ (l : List UInt8) (j : Nat), j < (l.takeWhile p).length → p (l.getD j 0) = true
  | [], j, h => by simp at h
  | b :: l, j, h => by
    by_cases hb : p b = true
    · rw [List.takeWhile_cons_of_pos hb] at h
      cases j with
      | zero => simpa using hb
      | succ j => simpa using lead_get l j (by simpa using h)
    · rw [List.takeWhile_cons_of_neg hb] at h
      simp at h

set_option maxHeartbeats 400000 in
set_option maxRecDepth 100000 in
theorem nameByte_any (b : UInt8) (w : World) :
    Calls Tryz.prog 235 #[.int .u8 b.toNat] w fun e w' => e = .returned (.bool (isN b)) ∧ w' = w := by
  have hb : b.toNat < 256 := b.toNat_lt
  have hle := letter_any b w
  have hdi := digit_any b w
  by_cases h1 : isL b = true
  · rw [h1] at hle
    have hr : isN b = true := by simp [isN, h1]
    rw [hr]
    go_enter Tryz.func235, Tryz.ntmps235
    go_wp2_with fail
    refine hle.mono ?_
    rintro e w1 ⟨rfl, rfl⟩
    go_wp2_with fail
    go_ret
    exact ⟨rfl, rfl⟩
  · rw [Bool.not_eq_true] at h1
    rw [h1] at hle
    have hr : isN b = isD b := by simp [isN, h1]
    rw [hr]
    go_enter Tryz.func235, Tryz.ntmps235
    go_wp2_with fail
    refine hle.mono ?_
    rintro e w1 ⟨rfl, rfl⟩
    go_wp2_with fail
    refine hdi.mono ?_
    rintro e w2 ⟨rfl, rfl⟩
    go_wp2_with fail
    go_ret
    exact ⟨rfl, rfl⟩

set_option maxHeartbeats 1600000 in
set_option maxRecDepth 100000 in
theorem leadN_any (l : List UInt8) (w : World) (hs : l.length ≤ 1048576) :
    Calls Tryz.prog 234 #[.string ⟨l.toArray⟩, .func (.func 235) #[] #[]] w fun e w' => e = .returned (.int .i64 ((l.takeWhile isN).length : Int)) ∧ w' = w := by
  obtain ⟨r, hr⟩ : ∃ r, r = (l.takeWhile isN).length := ⟨_, rfl⟩
  rw [← hr]
  have HR := Lib.hid hr
  clear hr
  go_enter Tryz.func234, Tryz.ntmps234
  go_wp2_with fail
  go_loopw [8] (fun i wr => ∃ (k : Nat), k ≤ l.length ∧ i = .int .i64 k ∧ wr = w ∧ Hid (∀ j, j < k → isN (l.getD j 0) = true)) (fun i _ => l.length - (intOf i).toNat)
  case atStart => exact ⟨0, Nat.zero_le _, rfl, rfl, Lib.hid (by simp)⟩
  case round =>
    obtain ⟨k, hk, rfl, rfl, HE⟩ := hrel
    by_cases hlt : k < l.length
    · have hltk : k < (⟨l.toArray⟩ : ByteArray).size := hlt
      have hbk := byte_of l k hltk
      have hle := nameByte_any (l.getD k 0) wr
      obtain ⟨b1, hb1⟩ : ∃ b, b = l.getD k 0 := ⟨_, rfl⟩
      rw [← hb1] at hbk hle
      have hb1256 : b1.toNat < 256 := b1.toNat_lt
      have HB1 := Lib.hid hb1
      clear hb1
      by_cases hp : isN b1 = true
      · rw [hp] at hle
        go_wp2_with (go_at_call 235; refine hle.mono ?_; rintro e w2 ⟨rfl, rfl⟩)
        refine ⟨⟨k + 1, by omega, by simp, trivial, Lib.hid fun j hj => ?_⟩, by simp [intOf]; omega⟩
        by_cases e : j = k
        · subst e; rw [← HB1.out]; exact hp
        · exact HE.out j (by omega)
      · rw [Bool.not_eq_true] at hp
        rw [hp] at hle
        go_wp2_with (go_at_call 235; refine hle.mono ?_; rintro e w2 ⟨rfl, rfl⟩)
        go_ret
        have := lead_stop l k hlt HE.out (by rw [← HB1.out]; exact hp)
        exact ⟨by rw [HR.out, this]; rfl, rfl⟩
    · obtain rfl : k = l.length := by omega
      go_wp2_with fail
      go_ret
      have := lead_all l HE.out
      exact ⟨by rw [HR.out, this]; rfl, rfl⟩
theorem shape_iff {l : List UInt8} (h1 : isL (l.getD 0 0) = true) (h2 : ∀ k, k < l.length → (isL (l.getD k 0) || isD (l.getD k 0)) = true) (h3 : 0 < l.length) : Shape l := by
  refine ⟨h3, fun k hk => ?_⟩
  by_cases e : k = 0
  · subst e; rw [okAt_first]; exact h1
  · rw [okAt_next l k e]; exact h2 k hk

set_option maxHeartbeats 1600000 in
set_option maxRecDepth 100000 in
theorem isWord_any (l : List UInt8) (w : World) (hs : l.length ≤ 1048576) :
    Calls Tryz.prog 229 #[.string ⟨l.toArray⟩] w fun e w' => e = .returned (.bool (decide (Shape l ∧ l.length ≤ 8))) ∧ w' = w := by
  obtain ⟨r, hr⟩ : ∃ r, r = decide (Shape l ∧ l.length ≤ 8) := ⟨_, rfl⟩
  rw [← hr]
  have HR := Lib.hid hr
  clear hr
  have no : ∀ {e : Bool}, ¬ (Shape l ∧ l.length ≤ 8) → e = false → Ending.returned (.bool e) = .returned (.bool r) := by
    intro e h he; rw [HR.out, he, decide_eq_false h]
  by_cases hz : 0 < l.length
  · by_cases h8 : (l.length : Int) ≤ 8
    · have hlt' : 0 < (⟨l.toArray⟩ : ByteArray).size := hz
      have hby := byte_of l 0 hlt'
      have hlet := letter_any (l.getD 0 0) w
      obtain ⟨b, hb⟩ : ∃ b, b = l.getD 0 0 := ⟨_, rfl⟩
      rw [← hb] at hby hlet
      have hb256 : b.toNat < 256 := b.toNat_lt
      have HB := Lib.hid hb
      clear hb
      by_cases hlb : isL b = true
      · rw [hlb] at hlet
        have hld := leadN_any l w hs
        have hle : (l.takeWhile isN).length ≤ l.length := (List.takeWhile_prefix _).length_le
        obtain ⟨n, hn⟩ : ∃ n, n = (l.takeWhile isN).length := ⟨_, rfl⟩
        rw [← hn] at hld hle
        have HN := Lib.hid hn
        clear hn
        by_cases hnl : n = l.length
        · have he : ((n : Int) == (l.length : Int)) = true := by simp [hnl]
          go_enter Tryz.func229, Tryz.ntmps229
          go_wp2_with fail
          refine hlet.mono ?_
          rintro e w1 ⟨rfl, rfl⟩
          go_wp2_with fail
          refine hld.mono ?_
          rintro e w1 ⟨rfl, rfl⟩
          go_wp2_with fail
          go_ret
          refine ⟨?_, rfl⟩
          rw [HR.out, decide_eq_true ⟨shape_iff (by rw [← HB.out]; exact hlb) (fun k hk => lead_get l k (by rw [← HN.out, hnl]; exact hk)) hz, by omega⟩]
          simp
        · have he : ((n : Int) == (l.length : Int)) = false := by simp; omega
          go_enter Tryz.func229, Tryz.ntmps229
          go_wp2_with fail
          refine hlet.mono ?_
          rintro e w1 ⟨rfl, rfl⟩
          go_wp2_with fail
          refine hld.mono ?_
          rintro e w1 ⟨rfl, rfl⟩
          go_wp2_with fail
          go_ret
          refine ⟨no (fun h => ?_) (by simp), rfl⟩
          have h2 := lead_all l (p := isN) (fun j hj => by
            have h1 := h.1.2 j hj
            unfold okAt at h1
            unfold isN
            rcases hj0 : isL (l.getD j 0) with _ | _
            · rw [hj0] at h1; simp at h1; simp [h1.2]
            · rfl)
          rw [← HN.out] at h2
          exact hnl h2
      · rw [Bool.not_eq_true] at hlb
        rw [hlb] at hlet
        go_enter Tryz.func229, Tryz.ntmps229
        go_wp2_with fail
        refine hlet.mono ?_
        rintro e w1 ⟨rfl, rfl⟩
        go_wp2_with fail
        go_ret
        refine ⟨no (fun h => ?_) rfl, rfl⟩
        have h1 := h.1.2 0 (by omega)
        rw [okAt_first, ← HB.out, hlb] at h1
        cases h1
    · go_enter Tryz.func229, Tryz.ntmps229
      go_wp2_with fail
      go_ret
      exact ⟨no (fun h => by have := h.2; omega) rfl, rfl⟩
  · have hz' : ¬ (0 : Int) < (l.length : Int) := by omega
    go_enter Tryz.func229, Tryz.ntmps229
    go_wp2_with fail
    go_ret
    exact ⟨no (fun h => by have := h.1.1; omega) rfl, rfl⟩
end Go.Proofs.YtabcmnlmmpbmnaaGreat

/-
  A copy of a slice of strings (toStringS).
-/

namespace Go.Proofs.YtabcmnlmmpbmnaaGreat
open Go.RowKit
set_option linter.unusedVariables false

/-- How far the copy has come: the first k cells are the strings, the rest are empty. -/
def copied (ss : List ByteArray) (k : Nat) : List Value := (strV ss).take k ++ List.replicate (ss.length - k) (.string ⟨#[]⟩)
end Go.Proofs.YtabcmnlmmpbmnaaGreat

/-
  A part of a list that can be read.
-/

namespace Go.Proofs.YtabcmnlmmpbmnaaGreat
open Go.RowKit
set_option linter.unusedVariables false

theorem addr_add (b o k : Nat) : (⟨b, o, none⟩ : Addr).add k = ⟨b, o + k, none⟩ := by unfold Addr.add; split <;> simp_all
/-- The part from i up to j. -/
theorem Rd.sub {w : World} {B : Nat} {xs : List Dt} {A : Option Addr} {n c : Nat} (h : Rd w B (.lst xs) [.slice A n c]) (hw : ∀ x ∈ xs, x.width = 7) (i j : Nat) (hij : i ≤ j) (hj : j ≤ xs.length) :
    Rd w B (.lst ((xs.drop i).take (j - i))) [.slice (if c = i then A else A.map (·.add (i * 7))) (j - i) (c - i)] := by
  obtain ⟨hn, hc, hm⟩ := h.lst_len
  have hlen : ((xs.drop i).take (j - i)).length = j - i := by rw [List.length_take, List.length_drop]; omega
  have hlen1 : (xs.take i).length = i := by rw [List.length_take]; omega
  simp only [Rd] at h ⊢
  obtain ⟨A', c', cells, he, h1, h2, hrow, hrd⟩ := h
  simp only [List.cons.injEq, Value.slice.injEq, and_true] at he
  obtain ⟨rfl, hn', rfl⟩ := he
  have hsplit : xs = xs.take i ++ ((xs.drop i).take (j - i) ++ (xs.drop i).drop (j - i)) := by
    rw [List.take_append_drop, List.take_append_drop]
  rw [hsplit] at hrd
  obtain ⟨c1, c23, rfl, hr1, hr23⟩ := (RdL.append _ _ _).1 hrd
  obtain ⟨c2, c3, rfl, hr2, hr3⟩ := (RdL.append _ _ _).1 hr23
  have hl1 : c1.length = i * 7 := by
    rw [RdL.len _ _ hr1, widths_all (k := 7) _ (fun x hx => hw x (List.mem_of_mem_take hx)), hlen1]
  have hl2 : c2.length = (j - i) * 7 := by
    rw [RdL.len _ _ hr2, widths_all (k := 7) _ (fun x hx => hw x (List.mem_of_mem_drop (List.mem_of_mem_take hx))), hlen]
  refine ⟨_, _, c2, by rw [hlen], by omega, by omega, ?_, hr2⟩
  · intro k v hk
    have hkl := (List.getElem?_eq_some_iff.1 hk).1
    have hne : ¬ c = i := by omega
    obtain ⟨b, o, rfl, hb, hcell⟩ := hrow (i * 7 + k) v (by
      rw [List.getElem?_append_right (by omega), List.getElem?_append_left (by omega)]
      rw [show i * 7 + k - c1.length = k by omega]
      exact hk)
    refine ⟨b, o + i * 7, ?_, hb, ?_⟩
    · rw [if_neg hne]
      simp [addr_add]
    · rw [Nat.add_assoc]
      exact hcell
theorem drop_min {l : List Dt} {i m : Nat} (h : m = min i l.length) : l.drop i = l.drop m := by
  by_cases hi : i ≤ l.length
  · rw [Nat.min_eq_left hi] at h
    rw [h]
  · rw [Nat.min_eq_right (by omega)] at h
    rw [List.drop_eq_nil_of_le (by omega), List.drop_eq_nil_of_le (by omega)]
theorem take_min {l : List Dt} {i m : Nat} (h : m = min i l.length) : l.take i = l.take m := by
  by_cases hi : i ≤ l.length
  · rw [Nat.min_eq_left hi] at h
    rw [h]
  · rw [Nat.min_eq_right (by omega)] at h
    rw [List.take_of_length_le (by omega), List.take_of_length_le (by omega)]
/-- All from m on. -/
theorem Rd.dropTo {w : World} {B : Nat} {xs : List Dt} {A : Option Addr} {c : Nat} (h : Rd w B (.lst xs) [.slice A xs.length c]) (hw : ∀ x ∈ xs, x.width = 7) (m : Nat) (hm : m ≤ xs.length) :
    Rd w B (.lst (xs.drop m)) [.slice (if c = m then A else A.map (·.add (m * 7))) (xs.length - m) (c - m)] := by
  have h1 := h.sub hw m xs.length hm (Nat.le_refl _)
  rwa [List.take_of_length_le (by simp)] at h1
/-- The first m. -/
theorem Rd.takeTo {w : World} {B : Nat} {xs : List Dt} {A : Option Addr} {c : Nat} (h : Rd w B (.lst xs) [.slice A xs.length c]) (hw : ∀ x ∈ xs, x.width = 7) (m : Nat) (hm : m ≤ xs.length) :
    Rd w B (.lst (xs.take m)) [.slice A m c] := by
  have h1 := h.sub hw 0 m (Nat.zero_le _) hm
  simp only [List.drop_zero, Nat.sub_zero, Nat.zero_mul] at h1
  by_cases hc : c = 0
  · rw [if_pos hc] at h1
    exact h1
  · rw [if_neg hc] at h1
    rcases m with _ | m
    · simp only [List.take_zero] at h1 ⊢
      simp only [Rd] at h1 ⊢
      obtain ⟨A', c', cells, he, h2, h3, h4, h5⟩ := h1
      simp only [List.cons.injEq, Value.slice.injEq, and_true] at he
      obtain ⟨rfl, -, rfl⟩ := he
      have hcl : cells = [] := by simpa [RdL] using h5
      subst hcl
      exact ⟨_, _, [], rfl, by simp, h3, fun k v hk => by simp at hk, by simp [RdL]⟩
    · obtain ⟨b, o, cs, hA, -⟩ := h.at hw (by omega) 0 (by omega)
      subst hA
      simpa [addr_add] using h1
end Go.Proofs.YtabcmnlmmpbmnaaGreat

/-
  Marks in slices of numbers and of origins (markIntS, heldIntS, markOriginS, heldOriginS).
-/

namespace Go.Proofs.YtabcmnlmmpbmnaaGreat
open Go.RowKit
set_option linter.unusedVariables false

/-- n numbers from k0 on. -/
def nums (k0 n : Nat) : List Value := (List.range n).map fun i => Value.int .i64 ((k0 + i : Nat) : Int)
theorem nums_len (k0 n : Nat) : (nums k0 n).length = n := by simp [nums]
theorem nums_set (k0 k : Nat) (xs : List Value) (h : k < xs.length) : (nums k0 k ++ xs.drop k).set k (.int .i64 ((k0 + k : Nat) : Int)) = nums k0 (k + 1) ++ xs.drop (k + 1) := by
  rw [List.set_append_right _ _ (by rw [nums_len]; omega), nums_len, Nat.sub_self, List.drop_eq_getElem_cons h, List.set_cons_zero]
  unfold nums
  rw [List.range_succ, List.map_append, List.append_assoc]
  rfl
theorem grown_transM {w w1 w2 : World} {g : Option Nat} (h1 : w.grownBy w1 g) (h2 : w1.grownBy w2 g) : w.grownBy w2 g :=
  ⟨h2.os.trans h1.os, h2.tape.trans h1.tape, h2.output.trans h1.output, Nat.le_trans h1.size h2.size, fun j hj hne => (h2.block j (by have := h1.size; omega) hne).trans (h1.block j hj hne)⟩

set_option maxHeartbeats 400000 in
set_option maxRecDepth 100000 in
theorem markI_any (A : Option Addr) (n c k0 : Nat) (xs : List Value) (base sz : Nat) (e0 : TypeId) (w : World) (hsz : 0 < n → sz = 1) (hown : w.ownsRow base e0 sz (.slice A n c) n xs) (hn : n ≤ 2097152) (hk0 : k0 ≤ 1099511627776) :
    Calls Tryz.prog 140 #[.slice A n c, .int .i64 k0] w fun e w' => e = .returned (.int .i64 ((k0 + n : Nat) : Int)) ∧
      w'.ownsRow base e0 sz (.slice A n c) n (nums k0 n) ∧ w.grownBy w' (Value.slice A n c).ownBlock := by
  have hlen : xs.length = n := by
    have := hown.1
    rcases Nat.eq_zero_or_pos n with rfl | h0
    · simpa using this
    · rw [hsz h0] at this; omega
  go_enter Tryz.func140, Tryz.ntmps140
  go_wp2_with fail
  go_loopw [1, 5] (fun m i wr => ∃ k : Nat, k ≤ n ∧ i = .int .i64 k ∧ m = .int .i64 ((k0 + k : Nat) : Int) ∧ wr.ownsRow base e0 sz (.slice A n c) n (nums k0 k ++ xs.drop k) ∧ w.grownBy wr (Value.slice A n c).ownBlock) (fun _ i _ => n - (intOf i).toNat)
  case atStart => exact ⟨0, Nat.zero_le _, rfl, by simp, by simpa [nums] using hown, World.grownBy.refl w _⟩
  case round =>
    clear hown
    obtain ⟨k, hk, rfl, rfl, hown, hgr⟩ := hrel
    by_cases hlt : k < n
    · obtain rfl := hsz (by omega)
      obtain ⟨g, rfl⟩ : ∃ g, A = some ⟨g, 0, none⟩ := by
        rcases hown.2 with ⟨h0, _⟩ | ⟨g, cap, cur, h0, _⟩
        · injection h0 with e1 e2 e3; omega
        · injection h0 with e1 e2 e3; exact ⟨g, e1⟩
      have hfz := hown.frozenAt k
      have hcw := hown.cellAt k (by omega)
      obtain ⟨u, hu⟩ : ∃ u, (nums k0 k ++ xs.drop k)[k]? = some u := ⟨_, List.getElem?_eq_getElem (by rw [List.length_append, nums_len, List.length_drop, hlen]; omega)⟩
      rw [hu] at hcw
      have hst := hown.stored k (.int .i64 ((k0 + k : Nat) : Int))
      rw [nums_set k0 k xs (by rw [hlen]; omega)] at hst
      have HS := Lib.hid hst
      have HG := Lib.hid hgr
      have HL := Lib.hid hlen
      clear hst hu hgr hown hlen
      go_wp2_with fail
      refine ⟨⟨k + 1, by omega, by simp, by simp; omega, HS.out.1, grown_transM HG.out HS.out.2⟩, by simp [intOf]; omega⟩
    · go_wp2_with fail
      go_ret
      obtain rfl : k = n := by omega
      refine ⟨rfl, ?_, hgr⟩
      have : xs.drop k = [] := List.drop_of_length_le (by omega)
      rw [this, List.append_nil] at hown
      exact hown

set_option maxHeartbeats 800000 in
set_option maxRecDepth 100000 in
theorem markO_any (A : Option Addr) (n c k0 : Nat) (xs : List Value) (base sz : Nat) (e0 : TypeId) (w : World) (hsz : 0 < n → sz = 2) (hown : w.ownsRow base e0 sz (.slice A n c) n xs) (hn : n ≤ 1048576) (hk0 : k0 ≤ 1099511627776) :
    Calls Tryz.prog 44 #[.slice A n c, .int .i64 k0] w fun e w' => e = .returned (.int .i64 ((k0 + n * 2 : Nat) : Int)) ∧
      w'.ownsRow base e0 sz (.slice A n c) n (nums k0 (n * 2)) ∧ w.grownBy w' (Value.slice A n c).ownBlock := by
  have hlen : xs.length = n * 2 := by
    have := hown.1
    rcases Nat.eq_zero_or_pos n with rfl | h0
    · simpa using this
    · rw [hsz h0] at this; exact this
  go_enter Tryz.func44, Tryz.ntmps44
  go_wp2_with fail
  go_loopw [1, 5] (fun m i wr => ∃ k : Nat, k ≤ n ∧ i = .int .i64 k ∧ m = .int .i64 ((k0 + k * 2 : Nat) : Int) ∧ wr.ownsRow base e0 sz (.slice A n c) n (nums k0 (k * 2) ++ xs.drop (k * 2)) ∧ w.grownBy wr (Value.slice A n c).ownBlock) (fun _ i _ => n - (intOf i).toNat)
  case atStart => exact ⟨0, Nat.zero_le _, rfl, by simp, by simpa [nums] using hown, World.grownBy.refl w _⟩
  case round =>
    clear hown
    obtain ⟨k, hk, rfl, rfl, hown, hgr⟩ := hrel
    by_cases hlt : k < n
    · obtain rfl := hsz (by omega)
      obtain ⟨g, rfl⟩ : ∃ g, A = some ⟨g, 0, none⟩ := by
        rcases hown.2 with ⟨h0, _⟩ | ⟨g, cap, cur, h0, _⟩
        · injection h0 with e1 e2 e3; omega
        · injection h0 with e1 e2 e3; exact ⟨g, e1⟩
      have hfz := hown.frozenAt (k * 2)
      have hcw := hown.cellAt (k * 2) (by omega)
      obtain ⟨u, hu⟩ : ∃ u, (nums k0 (k * 2) ++ xs.drop (k * 2))[k * 2]? = some u := ⟨_, List.getElem?_eq_getElem (by rw [List.length_append, nums_len, List.length_drop, hlen]; omega)⟩
      rw [hu] at hcw
      have hst := hown.stored (k * 2) (.int .i64 ((k0 + k * 2 : Nat) : Int))
      rw [nums_set k0 (k * 2) xs (by rw [hlen]; omega)] at hst
      have hfz1 := hown.frozenAt (k * 2 + 1)
      have hcw1 := hown.cellAt (k * 2 + 1) (by omega)
      obtain ⟨u1, hu1⟩ : ∃ u, (nums k0 (k * 2) ++ xs.drop (k * 2))[k * 2 + 1]? = some u := ⟨_, List.getElem?_eq_getElem (by rw [List.length_append, nums_len, List.length_drop, hlen]; omega)⟩
      rw [hu1] at hcw1
      have hst1 := hst.1.stored (k * 2 + 1) (.int .i64 ((k0 + (k * 2 + 1) : Nat) : Int))
      rw [nums_set k0 (k * 2 + 1) xs (by rw [hlen]; omega)] at hst1
      rw [show ((k0 + (k * 2 + 1) : Nat) : Int) = (k0 : Int) + (k : Int) * 2 + 1 by omega, show ((k0 + k * 2 : Nat) : Int) = (k0 : Int) + (k : Int) * 2 by omega] at hst1
      rw [show ((k0 + k * 2 : Nat) : Int) = (k0 : Int) + (k : Int) * 2 by omega] at hst
      have HS := Lib.hid hst.2
      have HS1 := Lib.hid hst1
      have HG := Lib.hid hgr
      have HL := Lib.hid hlen
      clear hst hst1 hu hu1 hgr hown hlen
      go_wp2_with fail
      refine ⟨⟨k + 1, by omega, by simp, by simp; omega, ?_, ?_⟩, by simp [intOf]; omega⟩
      · rw [show (k + 1) * 2 = k * 2 + 1 + 1 by omega]
        exact HS1.out.1
      · exact grown_transM HG.out (grown_transM HS.out HS1.out.2)
    · go_wp2_with fail
      go_ret
      obtain rfl : k = n := by omega
      refine ⟨rfl, ?_, hgr⟩
      have : xs.drop (k * 2) = [] := List.drop_of_length_le (by omega)
      rw [this, List.append_nil] at hown
      exact hown

end Go.Proofs.YtabcmnlmmpbmnaaGreat
