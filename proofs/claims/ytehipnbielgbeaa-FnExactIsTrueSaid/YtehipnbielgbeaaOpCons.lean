/-
  Truth values, checked numbers and what is true: the program's and the model's. (Written by genopcons.py.)
-/
import Derived.Test.YtehipnbielgbeaaCons
import Derived.Test.YtehipnbielgbeaaNumOk
namespace Go.Proofs.Ytehipnbielgbeaa
open Go.RowKit
set_option linter.unusedVariables false

def truN (b : Bool) : Int := if b then 1 else 0
def NumOkB (n : Int) : Bool := decide (-1000000000 ≤ n) && decide (n ≤ 1000000000)
theorem NumOkB_iff (n : Int) : NumOkB n = true ↔ NumOk n := by simp [NumOkB, NumOk]
/-- A number's kind and itself, where it is within bounds, else an error's. -/
def chkK (n : Int) : Int := if NumOkB n then 1 else 6
def chkN (n : Int) : Int := if NumOkB n then n else 5

set_option maxHeartbeats 800000 in
set_option maxRecDepth 100000 in
theorem specTruth_any (b : Bool) (w : World) : Calls Try.prog 9 #[.bool b] w fun e w' => e = .returned (.agg #[.int .i64 1, .int .i64 (truN b), .int .i64 0, .string ⟨#[]⟩, .slice none 0 0, .slice none 0 0, .slice none 0 0]) ∧ Below w.heap.size w w' := by
  cases b
  · go_enter Try.func9, Try.ntmps9
    go_wp2_with fail
    refine (specNumberValue_any _ _).mono ?_
    rintro e w1 ⟨rfl, hb⟩
    have HB : Hid (Below w.heap.size w w1) := by
      refine Lib.hid (Below.trans ?_ (hb.mono ?_))
      · repeat' (first | refine Below.setCell ?_ (by first | (simp; done) | (simp; omega) | omega) _ | refine Below.alloc ?_ (by first | (simp; done) | (simp; omega) | omega) _ | exact Below.refl _ _)
      · first | exact Nat.le_refl _ | (simp; done) | (simp; omega)
    obtain ⟨hc, hf⟩ := bcell hb
    have hz : w.heap.size < w1.heap.size := by have := hb.size; simp at this; omega
    clear hb
    go_wp2_with fail
    refine bodyPost_ret (v := .agg #[.int .i64 1, .int .i64 0, .int .i64 0, .string ⟨#[]⟩, .slice none 0 0, .slice none 0 0, .slice none 0 0]) (by simp [results, Try.results9, go_sem, *]) rfl ⟨rfl, ?_⟩
    repeat' (first | refine Below.setCell ?_ (by first | (simp; done) | (simp; omega) | omega) _ | refine Below.alloc ?_ (by first | (simp; done) | (simp; omega) | omega) _ | exact HB.out)
  · go_enter Try.func9, Try.ntmps9
    go_wp2_with fail
    refine (specNumberValue_any _ _).mono ?_
    rintro e w1 ⟨rfl, hb⟩
    have HB : Hid (Below w.heap.size w w1) := by
      refine Lib.hid (Below.trans ?_ (hb.mono ?_))
      · repeat' (first | refine Below.setCell ?_ (by first | (simp; done) | (simp; omega) | omega) _ | refine Below.alloc ?_ (by first | (simp; done) | (simp; omega) | omega) _ | exact Below.refl _ _)
      · first | exact Nat.le_refl _ | (simp; done) | (simp; omega)
    obtain ⟨hc, hf⟩ := bcell hb
    have hz : w.heap.size < w1.heap.size := by have := hb.size; simp at this; omega
    clear hb
    go_wp2_with fail
    refine bodyPost_ret (v := .agg #[.int .i64 1, .int .i64 1, .int .i64 0, .string ⟨#[]⟩, .slice none 0 0, .slice none 0 0, .slice none 0 0]) (by simp [results, Try.results9, go_sem, *]) rfl ⟨rfl, ?_⟩
    repeat' (first | refine Below.setCell ?_ (by first | (simp; done) | (simp; omega) | omega) _ | refine Below.alloc ?_ (by first | (simp; done) | (simp; omega) | omega) _ | exact HB.out)

set_option maxHeartbeats 800000 in
set_option maxRecDepth 100000 in
theorem specChecked_any (n : Int) (w : World) : Calls Try.prog 18 #[.int .i64 n] w fun e w' => e = .returned (.agg #[.int .i64 (chkK n), .int .i64 (chkN n), .int .i64 0, .string ⟨#[]⟩, .slice none 0 0, .slice none 0 0, .slice none 0 0]) ∧ Below w.heap.size w w' := by
  by_cases h : NumOk n
  · have h1 : NumOkB n = true := (NumOkB_iff n).2 h
    rw [show chkK n = 1 from by simp [chkK, h1], show chkN n = n from by simp [chkN, h1]]
    clear h1
    have H := Lib.hid h
    clear h
    go_enter Try.func18, Try.ntmps18
    go_wp2_with fail
    refine (l3Number_any n _).mono ?_
    rintro e w0 ⟨b, rfl, hb, rfl⟩
    obtain rfl : b = true := hb.2 H.out
    clear hb
    go_wp2_with fail
    refine (specNumberValue_any _ _).mono ?_
    rintro e w1 ⟨rfl, hb⟩
    have HB : Hid (Below w.heap.size w w1) := by
      refine Lib.hid (Below.trans ?_ (hb.mono ?_))
      · repeat' (first | refine Below.setCell ?_ (by first | (simp; done) | (simp; omega) | omega) _ | refine Below.alloc ?_ (by first | (simp; done) | (simp; omega) | omega) _ | exact Below.refl _ _)
      · first | exact Nat.le_refl _ | (simp; done) | (simp; omega)
    obtain ⟨hc, hf⟩ := bcell hb
    have hz : w.heap.size < w1.heap.size := by have := hb.size; simp at this; omega
    clear hb
    go_wp2_with fail
    refine bodyPost_ret (v := .agg #[.int .i64 1, .int .i64 n, .int .i64 0, .string ⟨#[]⟩, .slice none 0 0, .slice none 0 0, .slice none 0 0]) (by simp [results, Try.results18, go_sem, *]) rfl ⟨rfl, ?_⟩
    repeat' (first | refine Below.setCell ?_ (by first | (simp; done) | (simp; omega) | omega) _ | refine Below.alloc ?_ (by first | (simp; done) | (simp; omega) | omega) _ | exact HB.out)
  · have h1 : NumOkB n = false := by
      cases h2 : NumOkB n with
      | false => rfl
      | true => exact absurd ((NumOkB_iff n).1 h2) h
    rw [show chkK n = 6 from by simp [chkK, h1], show chkN n = 5 from by simp [chkN, h1]]
    clear h1
    have H := Lib.hid h
    clear h
    go_enter Try.func18, Try.ntmps18
    go_wp2_with fail
    refine (l3Number_any n _).mono ?_
    rintro e w0 ⟨b, rfl, hb, rfl⟩
    obtain rfl : b = false := by cases b with | false => rfl | true => exact absurd (hb.1 rfl) H.out
    clear hb
    go_wp2_with fail
    refine (specErrorValue_any _ _).mono ?_
    rintro e w1 ⟨rfl, hb⟩
    have HB : Hid (Below w.heap.size w w1) := by
      refine Lib.hid (Below.trans ?_ (hb.mono ?_))
      · repeat' (first | refine Below.setCell ?_ (by first | (simp; done) | (simp; omega) | omega) _ | refine Below.alloc ?_ (by first | (simp; done) | (simp; omega) | omega) _ | exact Below.refl _ _)
      · first | exact Nat.le_refl _ | (simp; done) | (simp; omega)
    obtain ⟨hc, hf⟩ := bcell hb
    have hz : w.heap.size < w1.heap.size := by have := hb.size; simp at this; omega
    clear hb
    go_wp2_with fail
    refine bodyPost_ret (v := .agg #[.int .i64 6, .int .i64 5, .int .i64 0, .string ⟨#[]⟩, .slice none 0 0, .slice none 0 0, .slice none 0 0]) (by simp [results, Try.results18, go_sem, *]) rfl ⟨rfl, ?_⟩
    repeat' (first | refine Below.setCell ?_ (by first | (simp; done) | (simp; omega) | omega) _ | refine Below.alloc ?_ (by first | (simp; done) | (simp; omega) | omega) _ | exact HB.out)

/-- Whether a value is true. -/
def istB (k n : Int) : Bool := (k == 1) && !(n == 0)
set_option maxHeartbeats 800000 in
set_option maxRecDepth 100000 in
theorem specIsTrue_any (k n s : Int) (t : ByteArray) (v4 v5 v6 : Value) (w : World) : Calls Try.prog 15 #[.agg #[.int .i64 k, .int .i64 n, .int .i64 s, .string t, v4, v5, v6]] w fun e w' => e = .returned (.bool (istB k n)) ∧ Below w.heap.size w w' := by
  by_cases hk : k = 1
  · subst hk
    by_cases hn : n = 0
    · subst hn
      go_enter Try.func15, Try.ntmps15
      go_wp2_with fail
      go_ret
      exact ⟨rfl, (Below.refl _ _).alloc (Nat.le_refl _) _⟩
    · have h1 : (n == 0) = false := by simpa using hn
      have h2 : (n != 0) = true := by simpa using hn
      have hi : istB 1 n = true := by simp [istB, h1]
      rw [hi]
      clear hn hi
      go_enter Try.func15, Try.ntmps15
      go_wp2_with fail
      go_ret
      exact ⟨rfl, (Below.refl _ _).alloc (Nat.le_refl _) _⟩
  · have h1 : (k == 1) = false := by simpa using hk
    have hi : istB k n = false := by simp [istB, h1]
    rw [hi]
    clear hk hi
    go_enter Try.func15, Try.ntmps15
    go_wp2_with fail
    go_ret
    exact ⟨rfl, (Below.refl _ _).alloc (Nat.le_refl _) _⟩

set_option maxHeartbeats 800000 in
set_option maxRecDepth 100000 in
theorem implTruth_any (b : Bool) (w : World) : Calls Try.prog 10 #[.bool b] w fun e w' => e = .returned (.agg #[.int .i64 1, .int .i64 (truN b), .int .i64 0, .string ⟨#[]⟩, .slice none 0 0, .slice none 0 0, .slice none 0 0]) ∧ Below w.heap.size w w' := by
  cases b
  · go_enter Try.func10, Try.ntmps10
    go_wp2_with fail
    refine (implNumberValue_any _ _).mono ?_
    rintro e w1 ⟨rfl, hb⟩
    have HB : Hid (Below w.heap.size w w1) := by
      refine Lib.hid (Below.trans ?_ (hb.mono ?_))
      · repeat' (first | refine Below.setCell ?_ (by first | (simp; done) | (simp; omega) | omega) _ | refine Below.alloc ?_ (by first | (simp; done) | (simp; omega) | omega) _ | exact Below.refl _ _)
      · first | exact Nat.le_refl _ | (simp; done) | (simp; omega)
    obtain ⟨hc, hf⟩ := bcell hb
    have hz : w.heap.size < w1.heap.size := by have := hb.size; simp at this; omega
    clear hb
    go_wp2_with fail
    refine bodyPost_ret (v := .agg #[.int .i64 1, .int .i64 0, .int .i64 0, .string ⟨#[]⟩, .slice none 0 0, .slice none 0 0, .slice none 0 0]) (by simp [results, Try.results10, go_sem, *]) rfl ⟨rfl, ?_⟩
    repeat' (first | refine Below.setCell ?_ (by first | (simp; done) | (simp; omega) | omega) _ | refine Below.alloc ?_ (by first | (simp; done) | (simp; omega) | omega) _ | exact HB.out)
  · go_enter Try.func10, Try.ntmps10
    go_wp2_with fail
    refine (implNumberValue_any _ _).mono ?_
    rintro e w1 ⟨rfl, hb⟩
    have HB : Hid (Below w.heap.size w w1) := by
      refine Lib.hid (Below.trans ?_ (hb.mono ?_))
      · repeat' (first | refine Below.setCell ?_ (by first | (simp; done) | (simp; omega) | omega) _ | refine Below.alloc ?_ (by first | (simp; done) | (simp; omega) | omega) _ | exact Below.refl _ _)
      · first | exact Nat.le_refl _ | (simp; done) | (simp; omega)
    obtain ⟨hc, hf⟩ := bcell hb
    have hz : w.heap.size < w1.heap.size := by have := hb.size; simp at this; omega
    clear hb
    go_wp2_with fail
    refine bodyPost_ret (v := .agg #[.int .i64 1, .int .i64 1, .int .i64 0, .string ⟨#[]⟩, .slice none 0 0, .slice none 0 0, .slice none 0 0]) (by simp [results, Try.results10, go_sem, *]) rfl ⟨rfl, ?_⟩
    repeat' (first | refine Below.setCell ?_ (by first | (simp; done) | (simp; omega) | omega) _ | refine Below.alloc ?_ (by first | (simp; done) | (simp; omega) | omega) _ | exact HB.out)

set_option maxHeartbeats 800000 in
set_option maxRecDepth 100000 in
theorem implChecked_any (n : Int) (w : World) : Calls Try.prog 19 #[.int .i64 n] w fun e w' => e = .returned (.agg #[.int .i64 (chkK n), .int .i64 (chkN n), .int .i64 0, .string ⟨#[]⟩, .slice none 0 0, .slice none 0 0, .slice none 0 0]) ∧ Below w.heap.size w w' := by
  by_cases h : NumOk n
  · have h1 : NumOkB n = true := (NumOkB_iff n).2 h
    rw [show chkK n = 1 from by simp [chkK, h1], show chkN n = n from by simp [chkN, h1]]
    clear h1
    have H := Lib.hid h
    clear h
    go_enter Try.func19, Try.ntmps19
    go_wp2_with fail
    refine (within_any n _).mono ?_
    rintro e w0 ⟨b, rfl, hb, rfl⟩
    obtain rfl : b = true := hb.2 H.out
    clear hb
    go_wp2_with fail
    refine (implNumberValue_any _ _).mono ?_
    rintro e w1 ⟨rfl, hb⟩
    have HB : Hid (Below w.heap.size w w1) := by
      refine Lib.hid (Below.trans ?_ (hb.mono ?_))
      · repeat' (first | refine Below.setCell ?_ (by first | (simp; done) | (simp; omega) | omega) _ | refine Below.alloc ?_ (by first | (simp; done) | (simp; omega) | omega) _ | exact Below.refl _ _)
      · first | exact Nat.le_refl _ | (simp; done) | (simp; omega)
    obtain ⟨hc, hf⟩ := bcell hb
    have hz : w.heap.size < w1.heap.size := by have := hb.size; simp at this; omega
    clear hb
    go_wp2_with fail
    refine bodyPost_ret (v := .agg #[.int .i64 1, .int .i64 n, .int .i64 0, .string ⟨#[]⟩, .slice none 0 0, .slice none 0 0, .slice none 0 0]) (by simp [results, Try.results19, go_sem, *]) rfl ⟨rfl, ?_⟩
    repeat' (first | refine Below.setCell ?_ (by first | (simp; done) | (simp; omega) | omega) _ | refine Below.alloc ?_ (by first | (simp; done) | (simp; omega) | omega) _ | exact HB.out)
  · have h1 : NumOkB n = false := by
      cases h2 : NumOkB n with
      | false => rfl
      | true => exact absurd ((NumOkB_iff n).1 h2) h
    rw [show chkK n = 6 from by simp [chkK, h1], show chkN n = 5 from by simp [chkN, h1]]
    clear h1
    have H := Lib.hid h
    clear h
    go_enter Try.func19, Try.ntmps19
    go_wp2_with fail
    refine (within_any n _).mono ?_
    rintro e w0 ⟨b, rfl, hb, rfl⟩
    obtain rfl : b = false := by cases b with | false => rfl | true => exact absurd (hb.1 rfl) H.out
    clear hb
    go_wp2_with fail
    refine (implErrorValue_any _ _).mono ?_
    rintro e w1 ⟨rfl, hb⟩
    have HB : Hid (Below w.heap.size w w1) := by
      refine Lib.hid (Below.trans ?_ (hb.mono ?_))
      · repeat' (first | refine Below.setCell ?_ (by first | (simp; done) | (simp; omega) | omega) _ | refine Below.alloc ?_ (by first | (simp; done) | (simp; omega) | omega) _ | exact Below.refl _ _)
      · first | exact Nat.le_refl _ | (simp; done) | (simp; omega)
    obtain ⟨hc, hf⟩ := bcell hb
    have hz : w.heap.size < w1.heap.size := by have := hb.size; simp at this; omega
    clear hb
    go_wp2_with fail
    refine bodyPost_ret (v := .agg #[.int .i64 6, .int .i64 5, .int .i64 0, .string ⟨#[]⟩, .slice none 0 0, .slice none 0 0, .slice none 0 0]) (by simp [results, Try.results19, go_sem, *]) rfl ⟨rfl, ?_⟩
    repeat' (first | refine Below.setCell ?_ (by first | (simp; done) | (simp; omega) | omega) _ | refine Below.alloc ?_ (by first | (simp; done) | (simp; omega) | omega) _ | exact HB.out)

set_option maxHeartbeats 800000 in
set_option maxRecDepth 100000 in
theorem implIsTrue_any (k n s : Int) (t : ByteArray) (v4 v5 v6 : Value) (w : World) : Calls Try.prog 17 #[.agg #[.int .i64 k, .int .i64 n, .int .i64 s, .string t, v4, v5, v6]] w fun e w' => e = .returned (.bool (istB k n)) ∧ Below w.heap.size w w' := by
  by_cases hk : k = 1
  · subst hk
    by_cases hn : n = 0
    · subst hn
      go_enter Try.func17, Try.ntmps17
      go_wp2_with fail
      go_ret
      exact ⟨rfl, (Below.refl _ _).alloc (Nat.le_refl _) _⟩
    · have h1 : (n == 0) = false := by simpa using hn
      have h2 : (n != 0) = true := by simpa using hn
      have hi : istB 1 n = true := by simp [istB, h1]
      rw [hi]
      clear hn hi
      go_enter Try.func17, Try.ntmps17
      go_wp2_with fail
      go_ret
      exact ⟨rfl, (Below.refl _ _).alloc (Nat.le_refl _) _⟩
  · have h1 : (k == 1) = false := by simpa using hk
    have hi : istB k n = false := by simp [istB, h1]
    rw [hi]
    clear hk hi
    go_enter Try.func17, Try.ntmps17
    go_wp2_with fail
    go_ret
    exact ⟨rfl, (Below.refl _ _).alloc (Nat.le_refl _) _⟩

end Go.Proofs.Ytehipnbielgbeaa
