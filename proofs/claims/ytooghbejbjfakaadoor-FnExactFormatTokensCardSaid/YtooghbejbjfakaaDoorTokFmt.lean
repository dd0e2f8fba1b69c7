/-
  Tokens formatted: the program's and the model's. (Written by gentoklaw.py.)
-/
import Derived.Test.YtooghbejbjfakaaDoorTokTo
import Derived.Test.YtooghbejbjfakaaDoorSpecFmt
import Derived.Test.YtooghbejbjfakaaDoorQuot
import Derived.Test.YtooghbejbjfakaaDoorEq
import Derived.Lib.ItoaLen
namespace Go.Proofs.YtooghbejbjfakaaDoor
open Go.RowKit
set_option linter.unusedVariables false

/-- What a token is written as. -/
def tokT (a b : Int) (s : ByteArray) : ByteArray := if a = 1 ∨ a = 4 then s else if a = 2 then ⟨(Go.Lib.itoa b).toArray⟩ else if a = 3 then ⟨#[34]⟩ ++ s ++ ⟨#[34]⟩ else ⟨#[]⟩
theorem tokT_1 (b : Int) (s : ByteArray) : tokT 1 b s = s := by simp [tokT]
theorem tokT_4 (b : Int) (s : ByteArray) : tokT 4 b s = s := by simp [tokT]
theorem tokT_2 (b : Int) (s : ByteArray) : tokT 2 b s = ⟨(Go.Lib.itoa b).toArray⟩ := by simp [tokT]
theorem tokT_3 (b : Int) (s : ByteArray) : tokT 3 b s = ⟨#[34]⟩ ++ s ++ ⟨#[34]⟩ := by simp [tokT]
theorem tokT_0 {a : Int} (b : Int) (s : ByteArray) (h1 : a ≠ 1) (h2 : a ≠ 2) (h3 : a ≠ 3) (h4 : a ≠ 4) : tokT a b s = ⟨#[]⟩ := by simp [tokT, h1, h2, h3, h4]
theorem quote_size (s : ByteArray) : ((⟨#[34]⟩ : ByteArray) ++ s ++ ⟨#[34]⟩).size = s.size + 2 := by rw [ByteArray.size_append, ByteArray.size_append]; show 1 + s.size + 1 = s.size + 2; omega
theorem itoa_21 {n : Int} (h0 : -9223372036854775808 ≤ n) (h1 : n ≤ 9223372036854775807) : (Go.Lib.itoa n).length ≤ 21 := Go.Lib.itoa_length_le n h0 h1

set_option maxHeartbeats 800000 in
set_option maxRecDepth 100000 in
theorem specTok_any (a b c : Int) (s : ByteArray) (w : World) (h0 : -9223372036854775808 ≤ b) (h1 : b ≤ 9223372036854775807) (hs : s.size ≤ 1048576) :
    Calls Tryd.prog 7 #[.agg #[.int .i64 a, .int .i64 b, .int .i64 c, .string s]] w fun e w' => e = .returned (.string (tokT a b s)) ∧ Below w.heap.size w w' := by
  by_cases e1 : a = 1
  · subst e1
    rw [tokT_1]
    go_enter Tryd.func7, Tryd.ntmps7
    go_wp2_with fail
    go_ret
    exact ⟨rfl, (Below.refl _ _).alloc (Nat.le_refl _) _⟩
  by_cases e4 : a = 4
  · subst e4
    rw [tokT_4]
    go_enter Tryd.func7, Tryd.ntmps7
    go_wp2_with fail
    go_ret
    exact ⟨rfl, (Below.refl _ _).alloc (Nat.le_refl _) _⟩
  by_cases e2 : a = 2
  · subst e2
    rw [tokT_2]
    go_enter Tryd.func7, Tryd.ntmps7
    go_wp2_with fail
    refine (specFmt_any b _ h0 h1).mono ?_
    rintro e w1 ⟨rfl, hb⟩
    have HB := Lib.hid (((Below.refl w.heap.size w).alloc (Nat.le_refl _) _).trans (hb.mono (by simp)))
    clear hb
    go_wp2_with fail
    go_ret
    exact ⟨rfl, HB.out⟩
  by_cases e3 : a = 3
  · subst e3
    go_enter Tryd.func7, Tryd.ntmps7
    go_wp2_with fail
    go_ret
    exact ⟨by rw [tokT_3]; rfl, (Below.refl _ _).alloc (Nat.le_refl _) _⟩
  · rw [tokT_0 b s e1 e2 e3 e4]
    have n1 : ((a : Int) == 1) = false := by simpa using e1
    have n2 : ((a : Int) == 2) = false := by simpa using e2
    have n3 : ((a : Int) == 3) = false := by simpa using e3
    have n4 : ((a : Int) == 4) = false := by simpa using e4
    clear e1 e2 e3 e4
    go_enter Tryd.func7, Tryd.ntmps7
    go_wp2_with fail
    go_ret
    exact ⟨rfl, (Below.refl _ _).alloc (Nat.le_refl _) _⟩

set_option maxHeartbeats 800000 in
set_option maxRecDepth 100000 in
theorem implTok_any (a b c : Int) (s : ByteArray) (w : World) (h0 : -9223372036854775808 ≤ b) (h1 : b ≤ 9223372036854775807) (hs : s.size ≤ 1048576) (hp : PowOk w) :
    Calls Tryd.prog 9 #[.agg #[.int .i64 a, .int .i64 b, .int .i64 c, .string s]] w fun e w' => e = .returned (.string (tokT a b s)) ∧ Below w.heap.size w w' := by
  have HP := Lib.hid hp
  clear hp
  by_cases e1 : a = 1
  · subst e1
    rw [tokT_1]
    go_enter Tryd.func9, Tryd.ntmps9
    go_wp2_with fail
    go_ret
    exact ⟨rfl, (Below.refl _ _).alloc (Nat.le_refl _) _⟩
  by_cases e4 : a = 4
  · subst e4
    rw [tokT_4]
    go_enter Tryd.func9, Tryd.ntmps9
    go_wp2_with fail
    go_ret
    exact ⟨rfl, (Below.refl _ _).alloc (Nat.le_refl _) _⟩
  by_cases e2 : a = 2
  · subst e2
    rw [tokT_2]
    go_enter Tryd.func9, Tryd.ntmps9
    go_wp2_with fail
    refine (implFmt_any b _ h0 h1 (HP.out.later ((Below.refl w.heap.size w).alloc (Nat.le_refl _) _)).1).mono ?_
    rintro e w1 ⟨rfl, hb⟩
    have HB := Lib.hid (((Below.refl w.heap.size w).alloc (Nat.le_refl _) _).trans (hb.mono (by simp)))
    clear hb
    go_wp2_with fail
    go_ret
    exact ⟨rfl, HB.out⟩
  by_cases e3 : a = 3
  · subst e3
    go_enter Tryd.func9, Tryd.ntmps9
    go_wp2_with fail
    refine (quoted_any s _ (by omega)).mono ?_
    rintro e w1 ⟨r, rfl, hr, -, hb⟩
    have HR := Lib.hid hr
    clear hr
    have HB := Lib.hid (((Below.refl w.heap.size w).alloc (Nat.le_refl _) _).trans (hb.mono (by simp)))
    clear hb
    go_wp2_with fail
    go_ret
    exact ⟨by rw [tokT_3, ← HR.out]; rfl, HB.out⟩
  · rw [tokT_0 b s e1 e2 e3 e4]
    have n1 : ((a : Int) == 1) = false := by simpa using e1
    have n2 : ((a : Int) == 2) = false := by simpa using e2
    have n3 : ((a : Int) == 3) = false := by simpa using e3
    have n4 : ((a : Int) == 4) = false := by simpa using e4
    clear e1 e2 e3 e4
    go_enter Tryd.func9, Tryd.ntmps9
    go_wp2_with fail
    go_ret
    exact ⟨rfl, (Below.refl _ _).alloc (Nat.le_refl _) _⟩

end Go.Proofs.YtooghbejbjfakaaDoor
