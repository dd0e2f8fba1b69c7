/-
  Texts that the proof rests on, put together: Lead, StrSz, StrTo, StrEq.
-/
import Derived.Test.YtabcmnlmmpbmnaaGreatDoorMgF7
/-
  Which texts have the form of a name: the model's l2Shape and the program's isWord; how far a text's bytes belong.
-/

namespace Go.Proofs.YtabcmnlmmpbmnaaGreatDoor
open Go.RowKit
set_option linter.unusedVariables false

def isL (b : UInt8) : Bool := decide ((97 : Int) ≤ (b.toNat : Int)) && decide ((b.toNat : Int) ≤ 122)
def isD (b : UInt8) : Bool := decide ((48 : Int) ≤ (b.toNat : Int)) && decide ((b.toNat : Int) ≤ 57)
/-- The bytes may stand in a name: a letter, or, behind the first place, a digit. -/
def okAt (l : List UInt8) (k : Nat) : Bool := isL (l.getD k 0) || (decide (k ≠ 0) && isD (l.getD k 0))
def Shape (l : List UInt8) : Prop := 0 < l.length ∧ ∀ k, k < l.length → okAt l k = true
instance (l : List UInt8) : Decidable (Shape l) := inferInstanceAs (Decidable (_ ∧ _))

theorem byte_of (l : List UInt8) (k : Nat) (h : k < (⟨l.toArray⟩ : ByteArray).size) : (⟨l.toArray⟩ : ByteArray)[k]'h = l.getD k 0 := by
  have h' : k < l.length := h
  rw [List.getD_eq_getElem?_getD, List.getElem?_eq_getElem h']
  rfl

set_option maxHeartbeats 400000 in
set_option maxRecDepth 100000 in
theorem letter_any (b : UInt8) (w : World) :
    Calls Tryz.prog 227 #[.int .u8 b.toNat] w fun e w' => e = .returned (.bool (isL b)) ∧ w' = w := by
  have hb : b.toNat < 256 := b.toNat_lt
  have hr : isL b = (decide ((97 : Int) ≤ (b.toNat : Int)) && decide ((b.toNat : Int) ≤ 122)) := rfl
  rw [hr]
  generalize b.toNat = k at *
  by_cases h1 : (97 : Int) ≤ (k : Int)
  · have e1 := decide_eq_true h1
    rw [e1]
    go_enter Tryz.func227, Tryz.ntmps227
    go_wp2_with fail
    go_ret
    simp
  · have e1 := decide_eq_false h1
    rw [e1]
    go_enter Tryz.func227, Tryz.ntmps227
    go_wp2_with fail
    go_ret
    simp

set_option maxHeartbeats 400000 in
set_option maxRecDepth 100000 in
theorem digit_any (b : UInt8) (w : World) :
    Calls Tryz.prog 240 #[.int .u8 b.toNat] w fun e w' => e = .returned (.bool (isD b)) ∧ w' = w := by
  have hb : b.toNat < 256 := b.toNat_lt
  have hr : isD b = (decide ((48 : Int) ≤ (b.toNat : Int)) && decide ((b.toNat : Int) ≤ 57)) := rfl
  rw [hr]
  generalize b.toNat = k at *
  by_cases h1 : (48 : Int) ≤ (k : Int)
  · have e1 := decide_eq_true h1
    rw [e1]
    go_enter Tryz.func240, Tryz.ntmps240
    go_wp2_with fail
    go_ret
    simp
  · have e1 := decide_eq_false h1
    rw [e1]
    go_enter Tryz.func240, Tryz.ntmps240
    go_wp2_with fail
    go_ret
    simp

theorem okAt_first (l : List UInt8) : okAt l 0 = isL (l.getD 0 0) := by simp [okAt]
theorem okAt_next (l : List UInt8) (k : Nat) (h : k ≠ 0) : okAt l k = (isL (l.getD k 0) || isD (l.getD k 0)) := by simp [okAt, h]

theorem ok_next {l : List UInt8} {k : Nat} (h : ∀ j, j < k → okAt l j = true) (hk : okAt l k = true) : ∀ j, j < k + 1 → okAt l j = true := by
  intro j hj
  by_cases e : j = k
  · subst e; exact hk
  · exact h j (by omega)

set_option maxHeartbeats 1600000 in
set_option maxRecDepth 100000 in
theorem specShape_any (l : List UInt8) (w : World) (hs : l.length ≤ 1048576) :
    Calls Tryz.prog 169 #[.string ⟨l.toArray⟩] w fun e w' => e = .returned (.bool (decide (Shape l))) ∧ w' = w := by
  obtain ⟨r, hr⟩ : ∃ r, r = decide (Shape l) := ⟨_, rfl⟩
  rw [← hr]
  have HR := Lib.hid hr
  clear hr
  go_enter Tryz.func169, Tryz.ntmps169
  go_wp2_with fail
  go_loopw [3] (fun i wr => ∃ (k : Nat), k ≤ l.length ∧ i = .int .i64 k ∧ wr = w ∧ Hid (∀ j, j < k → okAt l j = true)) (fun i _ => l.length - (intOf i).toNat)
  case atStart => exact ⟨0, Nat.zero_le _, rfl, rfl, Lib.hid (by simp)⟩
  case round =>
    obtain ⟨k, hk, rfl, rfl, HE⟩ := hrel
    by_cases hlt : k < l.length
    · have hlt' : k < (⟨l.toArray⟩ : ByteArray).size := hlt
      have hby := byte_of l k hlt'
      have hok : okAt l k = (isL (l.getD k 0) || (decide (k ≠ 0) && isD (l.getD k 0))) := rfl
      generalize l.getD k 0 = b at hby hok
      have HO := Lib.hid hok
      clear hok
      have hb : b.toNat < 256 := b.toNat_lt
      have hL : isL b = (decide ((97 : Int) ≤ (b.toNat : Int)) && decide ((b.toNat : Int) ≤ 122)) := rfl
      have hD : isD b = (decide ((48 : Int) ≤ (b.toNat : Int)) && decide ((b.toNat : Int) ≤ 57)) := rfl
      have HL := Lib.hid hL
      have HD := Lib.hid hD
      clear hL hD
      by_cases h1 : (97 : Int) ≤ (b.toNat : Int)
      · by_cases h2 : (b.toNat : Int) ≤ 122
        · go_wp2_with fail
          refine ⟨⟨k + 1, by omega, by simp, trivial, Lib.hid (ok_next HE.out (by rw [HO.out, HL.out, decide_eq_true h1, decide_eq_true h2]; rfl))⟩, by simp [intOf]; omega⟩
        · have h3 : (48 : Int) ≤ (b.toNat : Int) := by omega
          have h4 : ¬ (b.toNat : Int) ≤ 57 := by omega
          have hno : ¬ okAt l k = true := by
            rw [HO.out, HL.out, HD.out, decide_eq_true h1, decide_eq_false h2, decide_eq_true h3, decide_eq_false h4]; simp
          by_cases h0 : k = 0
          · subst h0
            go_wp2_with fail
            go_ret
            refine ⟨?_, rfl⟩
            rw [HR.out, decide_eq_false (fun h : Shape l => absurd (h.2 _ hlt) (hno))]
            rfl
          · have h0' : ((k : Int) == 0) = false := by simp [h0]
            go_wp2_with fail
            go_ret
            refine ⟨?_, rfl⟩
            rw [HR.out, decide_eq_false (fun h : Shape l => absurd (h.2 _ hlt) (hno))]
            rfl
      · by_cases h3 : (48 : Int) ≤ (b.toNat : Int)
        · by_cases h4 : (b.toNat : Int) ≤ 57
          · by_cases h0 : k = 0
            · subst h0
              have hno : ¬ okAt l 0 = true := by
                rw [HO.out, HL.out, HD.out, decide_eq_false h1]; simp
              go_wp2_with fail
              go_ret
              refine ⟨?_, rfl⟩
              rw [HR.out, decide_eq_false (fun h : Shape l => absurd (h.2 _ hlt) (hno))]
              rfl
            · have h0' : ((k : Int) == 0) = false := by simp [h0]
              go_wp2_with fail
              refine ⟨⟨k + 1, by omega, by simp, trivial, Lib.hid (ok_next HE.out (by rw [HO.out, HL.out, HD.out, decide_eq_true h3, decide_eq_true h4]; simp [h0]))⟩, by simp [intOf]; omega⟩
          · have hno : ¬ okAt l k = true := by
              rw [HO.out, HL.out, HD.out, decide_eq_false h1, decide_eq_false h4]; simp
            by_cases h0 : k = 0
            · subst h0
              go_wp2_with fail
              go_ret
              refine ⟨?_, rfl⟩
              rw [HR.out, decide_eq_false (fun h : Shape l => absurd (h.2 _ hlt) (hno))]
              rfl
            · have h0' : ((k : Int) == 0) = false := by simp [h0]
              go_wp2_with fail
              go_ret
              refine ⟨?_, rfl⟩
              rw [HR.out, decide_eq_false (fun h : Shape l => absurd (h.2 _ hlt) (hno))]
              rfl
        · have hno : ¬ okAt l k = true := by
            rw [HO.out, HL.out, HD.out, decide_eq_false h1, decide_eq_false h3]; simp
          by_cases h0 : k = 0
          · subst h0
            go_wp2_with fail
            go_ret
            refine ⟨?_, rfl⟩
            rw [HR.out, decide_eq_false (fun h : Shape l => absurd (h.2 _ hlt) (hno))]
            rfl
          · have h0' : ((k : Int) == 0) = false := by simp [h0]
            go_wp2_with fail
            go_ret
            refine ⟨?_, rfl⟩
            rw [HR.out, decide_eq_false (fun h : Shape l => absurd (h.2 _ hlt) (hno))]
            rfl
    · obtain rfl : k = l.length := by omega
      go_wp2_with fail
      go_ret
      refine ⟨?_, rfl⟩
      have : (decide (Shape l)) = decide (0 < l.length) := by
        apply decide_eq_decide.2
        exact ⟨fun h => h.1, fun h => ⟨h, HE.out⟩⟩
      rw [HR.out, this]
      rfl

def isN (b : UInt8) : Bool := isL b || isD b
theorem lead_stop {p : UInt8 → Bool} : ∀ (l : List UInt8) (k : Nat), k < l.length → (∀ j, j < k → p (l.getD j 0) = true) → p (l.getD k 0) = false → (l.takeWhile p).length = k
  | [], k, hk, _, _ => by simp at hk
  | b :: l, 0, _, _, h => by
    rw [List.takeWhile_cons_of_neg (by simpa using h)]; rfl
  | b :: l, k + 1, hk, h, h' => by
    have h0 := h 0 (by omega)
    rw [List.takeWhile_cons_of_pos (by simpa using h0), List.length_cons, lead_stop l k (by simpa using hk) (fun j hj => by simpa using h (j + 1) (by omega)) (by simpa using h')]
theorem lead_all {p : UInt8 → Bool} : ∀ (l : List UInt8), (∀ j, j < l.length → p (l.getD j 0) = true) → (l.takeWhile p).length = l.length
  | [], _ => rfl
  | b :: l, h => by
    have h0 := h 0 (by simp)
    rw [List.takeWhile_cons_of_pos (by simpa using h0), List.length_cons, lead_all l (fun j hj => by simpa using h (j + 1) (by simpa using hj)), List.length_cons]
theorem lead_get {p : UInt8 → Bool} : ∀ (l : List UInt8) (j : Nat), j < (l.takeWhile p).length → p (l.getD j 0) = true
  | [], j, h => by simp at h
  | b :: l, j, h => by
    by_cases hb : p b = true
    · rw [List.takeWhile_cons_of_pos hb] at h
      cases j with
      | zero => simpa using hb
      | succ j => simpa using lead_get l j (by simpa using h)
    · rw [List.takeWhile_cons_of_neg hb] at h
      simp at h

set_option maxHeartbeats 400000 in
set_option maxRecDepth 100000 in
theorem nameByte_any (b : UInt8) (w : World) :
    Calls Tryz.prog 229 #[.int .u8 b.toNat] w fun e w' => e = .returned (.bool (isN b)) ∧ w' = w := by
  have hb : b.toNat < 256 := b.toNat_lt
  have hle := letter_any b w
  have hdi := digit_any b w
  by_cases h1 : isL b = true
  · rw [h1] at hle
    have hr : isN b = true := by simp [isN, h1]
    rw [hr]
    go_enter Tryz.func229, Tryz.ntmps229
    go_wp2_with fail
    refine hle.mono ?_
    rintro e w1 ⟨rfl, rfl⟩
    go_wp2_with fail
    go_ret
    exact ⟨rfl, rfl⟩
  · rw [Bool.not_eq_true] at h1
    rw [h1] at hle
    have hr : isN b = isD b := by simp [isN, h1]
    rw [hr]
    go_enter Tryz.func229, Tryz.ntmps229
    go_wp2_with fail
    refine hle.mono ?_
    rintro e w1 ⟨rfl, rfl⟩
    go_wp2_with fail
    refine hdi.mono ?_
    rintro e w2 ⟨rfl, rfl⟩
    go_wp2_with fail
    go_ret
    exact ⟨rfl, rfl⟩

set_option maxHeartbeats 1600000 in
set_option maxRecDepth 100000 in
theorem leadN_any (l : List UInt8) (w : World) (hs : l.length ≤ 1048576) :
    Calls Tryz.prog 228 #[.string ⟨l.toArray⟩, .func (.func 229) #[] #[]] w fun e w' => e = .returned (.int .i64 ((l.takeWhile isN).length : Int)) ∧ w' = w := by
  obtain ⟨r, hr⟩ : ∃ r, r = (l.takeWhile isN).length := ⟨_, rfl⟩
  rw [← hr]
  have HR := Lib.hid hr
  clear hr
  go_enter Tryz.func228, Tryz.ntmps228
  go_wp2_with fail
  go_loopw [8] (fun i wr => ∃ (k : Nat), k ≤ l.length ∧ i = .int .i64 k ∧ wr = w ∧ Hid (∀ j, j < k → isN (l.getD j 0) = true)) (fun i _ => l.length - (intOf i).toNat)
  case atStart => exact ⟨0, Nat.zero_le _, rfl, rfl, Lib.hid (by simp)⟩
  case round =>
    obtain ⟨k, hk, rfl, rfl, HE⟩ := hrel
    by_cases hlt : k < l.length
    · have hltk : k < (⟨l.toArray⟩ : ByteArray).size := hlt
      have hbk := byte_of l k hltk
      have hle := nameByte_any (l.getD k 0) wr
      obtain ⟨b1, hb1⟩ : ∃ b, b = l.getD k 0 := ⟨_, rfl⟩
      rw [← hb1] at hbk hle
      have hb1256 : b1.toNat < 256 := b1.toNat_lt
      have HB1 := Lib.hid hb1
      clear hb1
      by_cases hp : isN b1 = true
      · rw [hp] at hle
        go_wp2_with (go_at_call 229; refine hle.mono ?_; rintro e w2 ⟨rfl, rfl⟩)
        refine ⟨⟨k + 1, by omega, by simp, trivial, Lib.hid fun j hj => ?_⟩, by simp [intOf]; omega⟩
        by_cases e : j = k
        · subst e; rw [← HB1.out]; exact hp
        · exact HE.out j (by omega)
      · rw [Bool.not_eq_true] at hp
        rw [hp] at hle
        go_wp2_with (go_at_call 229; refine hle.mono ?_; rintro e w2 ⟨rfl, rfl⟩)
        go_ret
        have := lead_stop l k hlt HE.out (by rw [← HB1.out]; exact hp)
        exact ⟨by rw [HR.out, this]; rfl, rfl⟩
    · obtain rfl : k = l.length := by omega
      go_wp2_with fail
      go_ret
      have := lead_all l HE.out
      exact ⟨by rw [HR.out, this]; rfl, rfl⟩
theorem shape_iff {l : List UInt8} (h1 : isL (l.getD 0 0) = true) (h2 : ∀ k, k < l.length → (isL (l.getD k 0) || isD (l.getD k 0)) = true) (h3 : 0 < l.length) : Shape l := by
  refine ⟨h3, fun k hk => ?_⟩
  by_cases e : k = 0
  · subst e; rw [okAt_first]; exact h1
  · rw [okAt_next l k e]; exact h2 k hk

set_option maxHeartbeats 1600000 in
set_option maxRecDepth 100000 in
theorem isWord_any (l : List UInt8) (w : World) (hs : l.length ≤ 1048576) :
    Calls Tryz.prog 207 #[.string ⟨l.toArray⟩] w fun e w' => e = .returned (.bool (decide (Shape l ∧ l.length ≤ 8))) ∧ w' = w := by
  obtain ⟨r, hr⟩ : ∃ r, r = decide (Shape l ∧ l.length ≤ 8) := ⟨_, rfl⟩
  rw [← hr]
  have HR := Lib.hid hr
  clear hr
  have no : ∀ {e : Bool}, ¬ (Shape l ∧ l.length ≤ 8) → e = false → Ending.returned (.bool e) = .returned (.bool r) := by
    intro e h he; rw [HR.out, he, decide_eq_false h]
  by_cases hz : 0 < l.length
  · by_cases h8 : (l.length : Int) ≤ 8
    · have hlt' : 0 < (⟨l.toArray⟩ : ByteArray).size := hz
      have hby := byte_of l 0 hlt'
      have hlet := letter_any (l.getD 0 0) w
      obtain ⟨b, hb⟩ : ∃ b, b = l.getD 0 0 := ⟨_, rfl⟩
      rw [← hb] at hby hlet
      have hb256 : b.toNat < 256 := b.toNat_lt
      have HB := Lib.hid hb
      clear hb
      by_cases hlb : isL b = true
      · rw [hlb] at hlet
        have hld := leadN_any l w hs
        have hle : (l.takeWhile isN).length ≤ l.length := (List.takeWhile_prefix _).length_le
        obtain ⟨n, hn⟩ : ∃ n, n = (l.takeWhile isN).length := ⟨_, rfl⟩
        rw [← hn] at hld hle
        have HN := Lib.hid hn
        clear hn
        by_cases hnl : n = l.length
        · have he : ((n : Int) == (l.length : Int)) = true := by simp [hnl]
          go_enter Tryz.func207, Tryz.ntmps207
          go_wp2_with fail
          refine hlet.mono ?_
          rintro e w1 ⟨rfl, rfl⟩
          go_wp2_with fail
          refine hld.mono ?_
          rintro e w1 ⟨rfl, rfl⟩
          go_wp2_with fail
          go_ret
          refine ⟨?_, rfl⟩
          rw [HR.out, decide_eq_true ⟨shape_iff (by rw [← HB.out]; exact hlb) (fun k hk => lead_get l k (by rw [← HN.out, hnl]; exact hk)) hz, by omega⟩]
          simp
        · have he : ((n : Int) == (l.length : Int)) = false := by simp; omega
          go_enter Tryz.func207, Tryz.ntmps207
          go_wp2_with fail
          refine hlet.mono ?_
          rintro e w1 ⟨rfl, rfl⟩
          go_wp2_with fail
          refine hld.mono ?_
          rintro e w1 ⟨rfl, rfl⟩
          go_wp2_with fail
          go_ret
          refine ⟨no (fun h => ?_) (by simp), rfl⟩
          have h2 := lead_all l (p := isN) (fun j hj => by
            have h1 := h.1.2 j hj
            unfold okAt at h1
            unfold isN
            rcases hj0 : isL (l.getD j 0) with _ | _
            · rw [hj0] at h1; simp at h1; simp [h1.2]
            · rfl)
          rw [← HN.out] at h2
          exact hnl h2
      · rw [Bool.not_eq_true] at hlb
        rw [hlb] at hlet
        go_enter Tryz.func207, Tryz.ntmps207
        go_wp2_with fail
        refine hlet.mono ?_
        rintro e w1 ⟨rfl, rfl⟩
        go_wp2_with fail
        go_ret
        refine ⟨no (fun h => ?_) rfl, rfl⟩
        have h1 := h.1.2 0 (by omega)
        rw [okAt_first, ← HB.out, hlb] at h1
        cases h1
    · go_enter Tryz.func207, Tryz.ntmps207
      go_wp2_with fail
      go_ret
      exact ⟨no (fun h => by have := h.2; omega) rfl, rfl⟩
  · have hz' : ¬ (0 : Int) < (l.length : Int) := by omega
    go_enter Tryz.func207, Tryz.ntmps207
    go_wp2_with fail
    go_ret
    exact ⟨no (fun h => by have := h.1.1; omega) rfl, rfl⟩
end Go.Proofs.YtabcmnlmmpbmnaaGreatDoor

/-
  A copy of a slice of strings (toStringS).
-/

namespace Go.Proofs.YtabcmnlmmpbmnaaGreatDoor
open Go.RowKit
set_option linter.unusedVariables false

/-- How far the copy has come: the first k cells are the strings, the rest are empty. -/
def copied (ss : List ByteArray) (k : Nat) : List Value := (strV ss).take k ++ List.replicate (ss.length - k) (.string ⟨#[]⟩)
end Go.Proofs.YtabcmnlmmpbmnaaGreatDoor
