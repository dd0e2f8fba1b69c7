/-
  Whether a token is a keyword or a symbol: the program's and the model's. (Written by gentoklaw.py.)
-/
import Derived.Test.YtooghbejbjfakaaTokTo
import Derived.Test.YtooghbejbjfakaaEq
namespace Go.Proofs.Ytooghbejbjfakaa
open Go.RowKit
set_option linter.unusedVariables false

/-- A token of this kind with this text. -/
def tokIs (k a : Int) (s t : ByteArray) : Bool := decide (a = k) && decide (s = t)
theorem tokIs_no1 {k a : Int} {s t : ByteArray} (h : a ≠ k) : tokIs k a s t = false := by simp [tokIs, h]
theorem tokIs_no2 {k a : Int} {s t : ByteArray} (h : s ≠ t) : tokIs k a s t = false := by simp [tokIs, h]
theorem tokIs_yes (k : Int) (t : ByteArray) : tokIs k k t t = true := by simp [tokIs]

set_option maxHeartbeats 400000 in
set_option maxRecDepth 100000 in
theorem specIsKeyword_any (a b c : Int) (s t : ByteArray) (w : World) :
    Calls Try.prog 8 #[.agg #[.int .i64 a, .int .i64 b, .int .i64 c, .string s], .string t] w fun e w' => e = .returned (.bool (tokIs 1 a s t)) ∧ Below w.heap.size w w' := by
  by_cases h1 : a = 1
  · subst h1
    by_cases h2 : s = t
    · subst h2
      rw [tokIs_yes]
      have hb : (s.toList == s.toList) = true := by simp
      go_enter Try.func8, Try.ntmps8
      go_wp2_with fail
      go_ret
      exact ⟨rfl, (Below.refl _ _).alloc (Nat.le_refl _) _⟩
    · rw [tokIs_no2 h2]
      have hb : (s.toList == t.toList) = false := by simp; exact fun e => h2 (bytes_inj e)
      clear h2
      go_enter Try.func8, Try.ntmps8
      go_wp2_with fail
      go_ret
      exact ⟨rfl, (Below.refl _ _).alloc (Nat.le_refl _) _⟩
  · rw [tokIs_no1 h1]
    have hb : ((a : Int) == 1) = false := by simp [h1]
    clear h1
    go_enter Try.func8, Try.ntmps8
    go_wp2_with fail
    go_ret
    exact ⟨rfl, (Below.refl _ _).alloc (Nat.le_refl _) _⟩

set_option maxHeartbeats 400000 in
set_option maxRecDepth 100000 in
theorem implIsKeyword_any (a b c : Int) (s t : ByteArray) (w : World) :
    Calls Try.prog 10 #[.agg #[.int .i64 a, .int .i64 b, .int .i64 c, .string s], .string t] w fun e w' => e = .returned (.bool (tokIs 1 a s t)) ∧ Below w.heap.size w w' := by
  by_cases h1 : a = 1
  · subst h1
    by_cases h2 : s = t
    · subst h2
      rw [tokIs_yes]
      have hb : (s.toList == s.toList) = true := by simp
      go_enter Try.func10, Try.ntmps10
      go_wp2_with fail
      go_ret
      exact ⟨rfl, (Below.refl _ _).alloc (Nat.le_refl _) _⟩
    · rw [tokIs_no2 h2]
      have hb : (s.toList == t.toList) = false := by simp; exact fun e => h2 (bytes_inj e)
      clear h2
      go_enter Try.func10, Try.ntmps10
      go_wp2_with fail
      go_ret
      exact ⟨rfl, (Below.refl _ _).alloc (Nat.le_refl _) _⟩
  · rw [tokIs_no1 h1]
    have hb : ((a : Int) == 1) = false := by simp [h1]
    clear h1
    go_enter Try.func10, Try.ntmps10
    go_wp2_with fail
    go_ret
    exact ⟨rfl, (Below.refl _ _).alloc (Nat.le_refl _) _⟩

set_option maxHeartbeats 400000 in
set_option maxRecDepth 100000 in
theorem specIsSymbol_any (a b c : Int) (s t : ByteArray) (w : World) :
    Calls Try.prog 11 #[.agg #[.int .i64 a, .int .i64 b, .int .i64 c, .string s], .string t] w fun e w' => e = .returned (.bool (tokIs 4 a s t)) ∧ Below w.heap.size w w' := by
  by_cases h1 : a = 4
  · subst h1
    by_cases h2 : s = t
    · subst h2
      rw [tokIs_yes]
      have hb : (s.toList == s.toList) = true := by simp
      go_enter Try.func11, Try.ntmps11
      go_wp2_with fail
      go_ret
      exact ⟨rfl, (Below.refl _ _).alloc (Nat.le_refl _) _⟩
    · rw [tokIs_no2 h2]
      have hb : (s.toList == t.toList) = false := by simp; exact fun e => h2 (bytes_inj e)
      clear h2
      go_enter Try.func11, Try.ntmps11
      go_wp2_with fail
      go_ret
      exact ⟨rfl, (Below.refl _ _).alloc (Nat.le_refl _) _⟩
  · rw [tokIs_no1 h1]
    have hb : ((a : Int) == 4) = false := by simp [h1]
    clear h1
    go_enter Try.func11, Try.ntmps11
    go_wp2_with fail
    go_ret
    exact ⟨rfl, (Below.refl _ _).alloc (Nat.le_refl _) _⟩

set_option maxHeartbeats 400000 in
set_option maxRecDepth 100000 in
theorem implIsSymbol_any (a b c : Int) (s t : ByteArray) (w : World) :
    Calls Try.prog 12 #[.agg #[.int .i64 a, .int .i64 b, .int .i64 c, .string s], .string t] w fun e w' => e = .returned (.bool (tokIs 4 a s t)) ∧ Below w.heap.size w w' := by
  by_cases h1 : a = 4
  · subst h1
    by_cases h2 : s = t
    · subst h2
      rw [tokIs_yes]
      have hb : (s.toList == s.toList) = true := by simp
      go_enter Try.func12, Try.ntmps12
      go_wp2_with fail
      go_ret
      exact ⟨rfl, (Below.refl _ _).alloc (Nat.le_refl _) _⟩
    · rw [tokIs_no2 h2]
      have hb : (s.toList == t.toList) = false := by simp; exact fun e => h2 (bytes_inj e)
      clear h2
      go_enter Try.func12, Try.ntmps12
      go_wp2_with fail
      go_ret
      exact ⟨rfl, (Below.refl _ _).alloc (Nat.le_refl _) _⟩
  · rw [tokIs_no1 h1]
    have hb : ((a : Int) == 4) = false := by simp [h1]
    clear h1
    go_enter Try.func12, Try.ntmps12
    go_wp2_with fail
    go_ret
    exact ⟨rfl, (Below.refl _ _).alloc (Nat.le_refl _) _⟩

end Go.Proofs.Ytooghbejbjfakaa
