/-
  At every text the program's ParseNumber and ParseInt answer as the model's.
-/
import Derived.Test.YtbkojjngekpepaaDoorParseFn
import Derived.Test.YtbkojjngekpepaaDoorRead
namespace Go.Proofs.YtbkojjngekpepaaDoor
open Go.RowKit
set_option linter.unusedVariables false

theorem numIn_iff {lo hi v : Int} {l : List UInt8} (h3 : -9223372036854775808 ≤ lo) (h4 : hi ≤ 9223372036854775807) : numIn lo hi l = some v ↔ Go.Lib.itoa v = l ∧ lo ≤ v ∧ v ≤ hi :=
  ⟨fun h => ⟨(numIn_some h).1, (numIn_some h).2.1, (numIn_some h).2.2.1⟩, fun h => numIn_of h.1 h.2.1 h.2.2 (by omega) (by omega)⟩

theorem rd_int (l : List UInt8) : rd 12 l = numIn (-999999999999) 999999999999 l := by
  apply Option.ext
  intro v
  rw [numIn_iff (by decide) (by decide), rd_iff (by decide), show (10 : Nat) ^ 12 = 1000000000000 from by decide]
  constructor
  · rintro ⟨h1, h2⟩; exact ⟨h1, by omega, by omega⟩
  · rintro ⟨h1, h2, h3⟩; exact ⟨h1, by omega⟩

/-- The model's ParseNumber as a plain function. -/
def numOf (l : List UInt8) : Option Int := if (rd 6 l).getD 0 < 0 then none else rd 6 l

theorem numOf_eq (l : List UInt8) : numOf l = numIn 0 999999 l := by
  apply Option.ext
  intro v
  rw [numIn_iff (by decide) (by decide)]
  have h6 : (10 : Nat) ^ 6 = 1000000 := by decide
  constructor
  · intro h
    unfold numOf at h
    split at h
    · cases h
    · rename_i hn
      have h1 := (rd_iff (most := 6) (by decide)).1 h
      rw [h] at hn
      simp only [Option.getD_some] at hn
      rw [h6] at h1
      exact ⟨h1.1, by omega, by omega⟩
  · rintro ⟨h1, h2, h3⟩
    have h := rd_of (most := 6) h1 (by rw [h6]; omega) (by decide)
    unfold numOf
    rw [h, if_neg (by simp only [Option.getD_some]; omega)]

set_option maxHeartbeats 400000 in
theorem specParseInt_any (l : List UInt8) (w : World) (hs : l.length ≤ 1048576) :
    Calls Tryd.prog 21 #[.string ⟨l.toArray⟩] w fun e w' => e = .returned (numVal (numIn (-999999999999) 999999999999 l)) ∧ Below w.heap.size w w' := by
  rw [← rd_int]
  obtain ⟨o, ho⟩ : ∃ o, o = rd 12 l := ⟨_, rfl⟩
  have C1 := Lib.hid fun W => read_any l 12 W (by decide) (by decide) hs
  rw [← ho] at C1 ⊢
  clear ho
  go_enter Tryd.func21, Tryd.ntmps21
  go_wp2_with fail
  refine (C1.out _).mono ?_
  rintro e w1 ⟨rfl, hb1⟩
  unfold rdVal
  go_wp2_with fail
  go_ret2
  exact ⟨rfl, hb1⟩

set_option maxHeartbeats 400000 in
theorem specParseNumber_any (l : List UInt8) (w : World) (hs : l.length ≤ 1048576) :
    Calls Tryd.prog 16 #[.string ⟨l.toArray⟩] w fun e w' => e = .returned (numVal (numIn 0 999999 l)) ∧ Below w.heap.size w w' := by
  rw [← numOf_eq]
  unfold numOf
  obtain ⟨o, ho⟩ : ∃ o, o = rd 6 l := ⟨_, rfl⟩
  have C1 := Lib.hid fun W => read_any l 6 W (by decide) (by decide) hs
  rw [← ho] at C1 ⊢
  clear ho
  rcases o with _ | n
  · go_enter Tryd.func16, Tryd.ntmps16
    go_wp2_with fail
    refine (C1.out _).mono ?_
    rintro e w1 ⟨rfl, hb1⟩
    unfold rdVal
    go_wp2_with fail
    go_ret2
    exact ⟨rfl, hb1⟩
  · by_cases hn : n < 0
    all_goals
      go_enter Tryd.func16, Tryd.ntmps16
      go_wp2_with fail
      refine (C1.out _).mono ?_
      rintro e w1 ⟨rfl, hb1⟩
      unfold rdVal
      go_wp2_with fail
      go_ret2
      refine ⟨?_, hb1⟩
      first | (simp [numVal]; done) | simp [numVal, hn]

set_option maxHeartbeats 400000 in
theorem fnExactParseNumber_long (s : ByteArray) (w : World) (hs : 1048576 < s.size) (hm : s.size ≤ maxLen) :
    Calls Tryd.prog 6 #[.string s] w fun e w' => e = .returned (.bool true) ∧ Below w.heap.size w w' := by
  unfold maxLen at hm
  go_enter Tryd.func6, Tryd.ntmps6
  go_wp2_with fail
  go_ret
  exact ⟨rfl, Below.refl _ _⟩

set_option maxHeartbeats 400000 in
theorem fnExactParseNumber_short (l : List UInt8) (w : World) (hs : l.length ≤ 1048576) (he : Env w) :
    Calls Tryd.prog 6 #[.string ⟨l.toArray⟩] w fun e w' => e = .returned (.bool true) ∧ Below w.heap.size w w' := by
  have C1 := Lib.hid fun W => specParseNumber_any l W hs
  have C2 := Lib.hid fun W hW => number_any l W hs hW
  have HE := Lib.hid he
  obtain ⟨o, ho⟩ : ∃ o, o = numIn 0 999999 l := ⟨_, rfl⟩
  rw [← ho] at C1 C2
  clear ho he
  obtain ⟨a, ha⟩ : ∃ a, a = o.getD 0 := ⟨_, rfl⟩
  obtain ⟨b, hb⟩ : ∃ b, b = o.isSome := ⟨_, rfl⟩
  unfold numVal at C1 C2
  rw [← ha, ← hb] at C1 C2
  clear ha hb
  go_enter Tryd.func6, Tryd.ntmps6
  go_wp2_with fail
  refine (C1.out _).mono ?_
  rintro e w1 ⟨rfl, hb1⟩
  go_wp2_with fail
  refine (C2.out _ (HE.out.below hb1)).mono ?_
  rintro e w2 ⟨rfl, hb2⟩
  go_wp2_with fail
  go_ret
  exact ⟨rfl, hb1.trans (hb2.mono hb1.size)⟩

theorem fnExactParseNumber_walk (s : ByteArray) (w : World) (hm : s.size ≤ maxLen) (he : Env w) :
    Calls Tryd.prog 6 #[.string s] w fun e w' => e = .returned (.bool true) ∧ Below w.heap.size w w' := by
  by_cases hs : 1048576 < s.size
  · exact fnExactParseNumber_long s w hs hm
  · have e : s = ⟨s.data.toList.toArray⟩ := by apply ByteArray.ext; simp
    rw [e]
    exact fnExactParseNumber_short s.data.toList w (by rw [Array.length_toList]; exact Nat.le_of_not_lt hs) he

set_option maxHeartbeats 400000 in
theorem fnExactParseInt_long (s : ByteArray) (w : World) (hs : 1048576 < s.size) (hm : s.size ≤ maxLen) :
    Calls Tryd.prog 7 #[.string s] w fun e w' => e = .returned (.bool true) ∧ Below w.heap.size w w' := by
  unfold maxLen at hm
  go_enter Tryd.func7, Tryd.ntmps7
  go_wp2_with fail
  go_ret
  exact ⟨rfl, Below.refl _ _⟩

set_option maxHeartbeats 400000 in
theorem fnExactParseInt_short (l : List UInt8) (w : World) (hs : l.length ≤ 1048576) (he : Env w) :
    Calls Tryd.prog 7 #[.string ⟨l.toArray⟩] w fun e w' => e = .returned (.bool true) ∧ Below w.heap.size w w' := by
  have C1 := Lib.hid fun W => specParseInt_any l W hs
  have C2 := Lib.hid fun W hW => int_any l W hs hW
  have HE := Lib.hid he
  obtain ⟨o, ho⟩ : ∃ o, o = numIn (-999999999999) 999999999999 l := ⟨_, rfl⟩
  rw [← ho] at C1 C2
  clear ho he
  obtain ⟨a, ha⟩ : ∃ a, a = o.getD 0 := ⟨_, rfl⟩
  obtain ⟨b, hb⟩ : ∃ b, b = o.isSome := ⟨_, rfl⟩
  unfold numVal at C1 C2
  rw [← ha, ← hb] at C1 C2
  clear ha hb
  go_enter Tryd.func7, Tryd.ntmps7
  go_wp2_with fail
  refine (C1.out _).mono ?_
  rintro e w1 ⟨rfl, hb1⟩
  go_wp2_with fail
  refine (C2.out _ (HE.out.below hb1)).mono ?_
  rintro e w2 ⟨rfl, hb2⟩
  go_wp2_with fail
  go_ret
  exact ⟨rfl, hb1.trans (hb2.mono hb1.size)⟩

theorem fnExactParseInt_walk (s : ByteArray) (w : World) (hm : s.size ≤ maxLen) (he : Env w) :
    Calls Tryd.prog 7 #[.string s] w fun e w' => e = .returned (.bool true) ∧ Below w.heap.size w w' := by
  by_cases hs : 1048576 < s.size
  · exact fnExactParseInt_long s w hs hm
  · have e : s = ⟨s.data.toList.toArray⟩ := by apply ByteArray.ext; simp
    rw [e]
    exact fnExactParseInt_short s.data.toList w (by rw [Array.length_toList]; exact Nat.le_of_not_lt hs) he
end Go.Proofs.YtbkojjngekpepaaDoor
