/-
  The laws FnExactTruthValue and FnExactCheckedNumber. (Written by genopcons.py.)
-/
import Derived.Test.YtehipnbielgbeaaOpCons
namespace Go.Proofs.Ytehipnbielgbeaa
open Go.RowKit
set_option linter.unusedVariables false

set_option maxHeartbeats 1600000 in
set_option maxRecDepth 100000 in
theorem fnExactTruthValue_walk (b : Bool) (w : World) : Calls Try.prog 4 #[.bool b] w fun e w' => e = .returned (.bool true) ∧ Below w.heap.size w w' := by
  go_enter Try.func4, Try.ntmps4
  go_wp2_with fail
  refine (specTruth_any b _).mono ?_
  rintro e w1 ⟨rfl, hb⟩
  have HB1 : Hid (Below w.heap.size w w1) := by
    refine Lib.hid (Below.trans ?_ (hb.mono ?_))
    · repeat' (first | refine Below.setCell ?_ (by first | (simp; done) | (simp; omega) | omega) _ | refine Below.alloc ?_ (by first | (simp; done) | (simp; omega) | omega) _ | exact Below.refl _ _)
    · first | exact Nat.le_refl _ | (simp; done) | (simp; omega)
  have HS1 := HB1.out.size
  clear hb
  go_wp2_with fail
  refine (implTruth_any b _).mono ?_
  rintro e w2 ⟨rfl, hb⟩
  have HB2 : Hid (Below w.heap.size w w2) := by
    refine Lib.hid (Below.trans ?_ (hb.mono ?_))
    · repeat' (first | refine Below.setCell ?_ (by first | (simp; done) | (simp; omega) | omega) _ | refine Below.alloc ?_ (by first | (simp; done) | (simp; omega) | omega) _ | exact HB1.out)
    · have := HB1.out.size; first | (simp; done) | (simp; omega) | omega
  have HS2 := HB2.out.size
  obtain ⟨hc2, hf2⟩ := bcell hb
  have hz2_1 : w1.heap.size < w2.heap.size := by have h1 := hb.size; first | (simp at h1; omega) | omega
  clear hb
  skip
  go_wp2_with fail
  refine (eq_flat 1 (truN b) 0 ⟨#[]⟩ _).mono ?_
  rintro e w3 ⟨rfl, hb⟩
  have HB3 : Hid (Below w.heap.size w w3) := by
    refine Lib.hid (Below.trans ?_ (hb.mono ?_))
    · repeat' (first | refine Below.setCell ?_ (by first | (simp; done) | (simp; omega) | omega) _ | refine Below.alloc ?_ (by first | (simp; done) | (simp; omega) | omega) _ | exact HB2.out)
    · have := HB2.out.size; first | (simp; done) | (simp; omega) | omega
  have HS3 := HB3.out.size
  obtain ⟨hc3, hf3⟩ := bcell hb
  have hz3_1 : w1.heap.size < w3.heap.size := by have h1 := hb.size; first | (simp at h1; omega) | omega
  have hz3_2 : w2.heap.size < w3.heap.size := by have h1 := hb.size; first | (simp at h1; omega) | omega
  clear hb
  go_wp2_with fail
  refine (markValue_flat 1 (truN b) 0 ⟨#[]⟩ _).mono ?_
  rintro e w4 ⟨rfl, hb⟩
  have HB4 : Hid (Below w.heap.size w w4) := by
    refine Lib.hid (Below.trans ?_ (hb.mono ?_))
    · repeat' (first | refine Below.setCell ?_ (by first | (simp; done) | (simp; omega) | omega) _ | refine Below.alloc ?_ (by first | (simp; done) | (simp; omega) | omega) _ | exact HB3.out)
    · have := HB3.out.size; first | (simp; done) | (simp; omega) | omega
  have HS4 := HB4.out.size
  obtain ⟨hc4, hf4⟩ := bcell hb
  have hz4_1 : w1.heap.size < w4.heap.size := by have h1 := hb.size; first | (simp at h1; omega) | omega
  have hz4_2 : w2.heap.size < w4.heap.size := by have h1 := hb.size; first | (simp at h1; omega) | omega
  clear hb
  go_wp2_with fail
  refine (heldValue_flat 1 (truN b) 0 ⟨#[]⟩ _).mono ?_
  rintro e w5 ⟨rfl, hb⟩
  have HB5 : Hid (Below w.heap.size w w5) := by
    refine Lib.hid (Below.trans ?_ (hb.mono ?_))
    · repeat' (first | refine Below.setCell ?_ (by first | (simp; done) | (simp; omega) | omega) _ | refine Below.alloc ?_ (by first | (simp; done) | (simp; omega) | omega) _ | exact HB4.out)
    · have := HB4.out.size; first | (simp; done) | (simp; omega) | omega
  have HS5 := HB5.out.size
  obtain ⟨hc5, hf5⟩ := bcell hb
  have hz5_1 : w1.heap.size < w5.heap.size := by have h1 := hb.size; first | (simp at h1; omega) | omega
  have hz5_2 : w2.heap.size < w5.heap.size := by have h1 := hb.size; first | (simp at h1; omega) | omega
  clear hb
  go_wp2_with fail
  refine (implTruth_any b _).mono ?_
  rintro e w6 ⟨rfl, hb⟩
  have HB6 : Hid (Below w.heap.size w w6) := by
    refine Lib.hid (Below.trans ?_ (hb.mono ?_))
    · repeat' (first | refine Below.setCell ?_ (by first | (simp; done) | (simp; omega) | omega) _ | refine Below.alloc ?_ (by first | (simp; done) | (simp; omega) | omega) _ | exact HB5.out)
    · have := HB5.out.size; first | (simp; done) | (simp; omega) | omega
  have HS6 := HB6.out.size
  obtain ⟨hc6, hf6⟩ := bcell hb
  have hz6_1 : w1.heap.size < w6.heap.size := by have h1 := hb.size; first | (simp at h1; omega) | omega
  have hz6_2 : w2.heap.size < w6.heap.size := by have h1 := hb.size; first | (simp at h1; omega) | omega
  clear hb
  go_wp2_with fail
  refine (eq_flat 1 (truN b) 0 ⟨#[]⟩ _).mono ?_
  rintro e w7 ⟨rfl, hb⟩
  have HB7 : Hid (Below w.heap.size w w7) := by
    refine Lib.hid (Below.trans ?_ (hb.mono ?_))
    · repeat' (first | refine Below.setCell ?_ (by first | (simp; done) | (simp; omega) | omega) _ | refine Below.alloc ?_ (by first | (simp; done) | (simp; omega) | omega) _ | exact HB6.out)
    · have := HB6.out.size; first | (simp; done) | (simp; omega) | omega
  have HS7 := HB7.out.size
  obtain ⟨hc7, hf7⟩ := bcell hb
  have hz7_1 : w1.heap.size < w7.heap.size := by have h1 := hb.size; first | (simp at h1; omega) | omega
  have hz7_2 : w2.heap.size < w7.heap.size := by have h1 := hb.size; first | (simp at h1; omega) | omega
  have hz7_6 : w6.heap.size < w7.heap.size := by have h1 := hb.size; first | (simp at h1; omega) | omega
  clear hb
  go_wp2_with fail
  refine (heldValue_flat 1 (truN b) 0 ⟨#[]⟩ _).mono ?_
  rintro e w8 ⟨rfl, hb⟩
  have HB8 : Hid (Below w.heap.size w w8) := by
    refine Lib.hid (Below.trans ?_ (hb.mono ?_))
    · repeat' (first | refine Below.setCell ?_ (by first | (simp; done) | (simp; omega) | omega) _ | refine Below.alloc ?_ (by first | (simp; done) | (simp; omega) | omega) _ | exact HB7.out)
    · have := HB7.out.size; first | (simp; done) | (simp; omega) | omega
  have HS8 := HB8.out.size
  obtain ⟨hc8, hf8⟩ := bcell hb
  have hz8_1 : w1.heap.size < w8.heap.size := by have h1 := hb.size; first | (simp at h1; omega) | omega
  have hz8_2 : w2.heap.size < w8.heap.size := by have h1 := hb.size; first | (simp at h1; omega) | omega
  have hz8_6 : w6.heap.size < w8.heap.size := by have h1 := hb.size; first | (simp at h1; omega) | omega
  clear hb
  go_wp2_with fail
  go_ret
  refine ⟨rfl, ?_⟩
  repeat' (first | refine Below.setCell ?_ (by first | (simp; done) | (simp; omega) | omega) _ | refine Below.alloc ?_ (by first | (simp; done) | (simp; omega) | omega) _ | exact HB8.out)
set_option maxHeartbeats 1600000 in
set_option maxRecDepth 100000 in
theorem fnExactCheckedNumber_walk (n : Int) (w : World) : Calls Try.prog 6 #[.int .i64 n] w fun e w' => e = .returned (.bool true) ∧ Below w.heap.size w w' := by
  go_enter Try.func6, Try.ntmps6
  go_wp2_with fail
  refine (specChecked_any n _).mono ?_
  rintro e w1 ⟨rfl, hb⟩
  have HB1 : Hid (Below w.heap.size w w1) := by
    refine Lib.hid (Below.trans ?_ (hb.mono ?_))
    · repeat' (first | refine Below.setCell ?_ (by first | (simp; done) | (simp; omega) | omega) _ | refine Below.alloc ?_ (by first | (simp; done) | (simp; omega) | omega) _ | exact Below.refl _ _)
    · first | exact Nat.le_refl _ | (simp; done) | (simp; omega)
  have HS1 := HB1.out.size
  clear hb
  go_wp2_with fail
  refine (implChecked_any n _).mono ?_
  rintro e w2 ⟨rfl, hb⟩
  have HB2 : Hid (Below w.heap.size w w2) := by
    refine Lib.hid (Below.trans ?_ (hb.mono ?_))
    · repeat' (first | refine Below.setCell ?_ (by first | (simp; done) | (simp; omega) | omega) _ | refine Below.alloc ?_ (by first | (simp; done) | (simp; omega) | omega) _ | exact HB1.out)
    · have := HB1.out.size; first | (simp; done) | (simp; omega) | omega
  have HS2 := HB2.out.size
  obtain ⟨hc2, hf2⟩ := bcell hb
  have hz2_1 : w1.heap.size < w2.heap.size := by have h1 := hb.size; first | (simp at h1; omega) | omega
  clear hb
  skip
  go_wp2_with fail
  refine (eq_flat (chkK n) (chkN n) 0 ⟨#[]⟩ _).mono ?_
  rintro e w3 ⟨rfl, hb⟩
  have HB3 : Hid (Below w.heap.size w w3) := by
    refine Lib.hid (Below.trans ?_ (hb.mono ?_))
    · repeat' (first | refine Below.setCell ?_ (by first | (simp; done) | (simp; omega) | omega) _ | refine Below.alloc ?_ (by first | (simp; done) | (simp; omega) | omega) _ | exact HB2.out)
    · have := HB2.out.size; first | (simp; done) | (simp; omega) | omega
  have HS3 := HB3.out.size
  obtain ⟨hc3, hf3⟩ := bcell hb
  have hz3_1 : w1.heap.size < w3.heap.size := by have h1 := hb.size; first | (simp at h1; omega) | omega
  have hz3_2 : w2.heap.size < w3.heap.size := by have h1 := hb.size; first | (simp at h1; omega) | omega
  clear hb
  go_wp2_with fail
  refine (markValue_flat (chkK n) (chkN n) 0 ⟨#[]⟩ _).mono ?_
  rintro e w4 ⟨rfl, hb⟩
  have HB4 : Hid (Below w.heap.size w w4) := by
    refine Lib.hid (Below.trans ?_ (hb.mono ?_))
    · repeat' (first | refine Below.setCell ?_ (by first | (simp; done) | (simp; omega) | omega) _ | refine Below.alloc ?_ (by first | (simp; done) | (simp; omega) | omega) _ | exact HB3.out)
    · have := HB3.out.size; first | (simp; done) | (simp; omega) | omega
  have HS4 := HB4.out.size
  obtain ⟨hc4, hf4⟩ := bcell hb
  have hz4_1 : w1.heap.size < w4.heap.size := by have h1 := hb.size; first | (simp at h1; omega) | omega
  have hz4_2 : w2.heap.size < w4.heap.size := by have h1 := hb.size; first | (simp at h1; omega) | omega
  clear hb
  go_wp2_with fail
  refine (heldValue_flat (chkK n) (chkN n) 0 ⟨#[]⟩ _).mono ?_
  rintro e w5 ⟨rfl, hb⟩
  have HB5 : Hid (Below w.heap.size w w5) := by
    refine Lib.hid (Below.trans ?_ (hb.mono ?_))
    · repeat' (first | refine Below.setCell ?_ (by first | (simp; done) | (simp; omega) | omega) _ | refine Below.alloc ?_ (by first | (simp; done) | (simp; omega) | omega) _ | exact HB4.out)
    · have := HB4.out.size; first | (simp; done) | (simp; omega) | omega
  have HS5 := HB5.out.size
  obtain ⟨hc5, hf5⟩ := bcell hb
  have hz5_1 : w1.heap.size < w5.heap.size := by have h1 := hb.size; first | (simp at h1; omega) | omega
  have hz5_2 : w2.heap.size < w5.heap.size := by have h1 := hb.size; first | (simp at h1; omega) | omega
  clear hb
  go_wp2_with fail
  refine (implChecked_any n _).mono ?_
  rintro e w6 ⟨rfl, hb⟩
  have HB6 : Hid (Below w.heap.size w w6) := by
    refine Lib.hid (Below.trans ?_ (hb.mono ?_))
    · repeat' (first | refine Below.setCell ?_ (by first | (simp; done) | (simp; omega) | omega) _ | refine Below.alloc ?_ (by first | (simp; done) | (simp; omega) | omega) _ | exact HB5.out)
    · have := HB5.out.size; first | (simp; done) | (simp; omega) | omega
  have HS6 := HB6.out.size
  obtain ⟨hc6, hf6⟩ := bcell hb
  have hz6_1 : w1.heap.size < w6.heap.size := by have h1 := hb.size; first | (simp at h1; omega) | omega
  have hz6_2 : w2.heap.size < w6.heap.size := by have h1 := hb.size; first | (simp at h1; omega) | omega
  clear hb
  go_wp2_with fail
  refine (eq_flat (chkK n) (chkN n) 0 ⟨#[]⟩ _).mono ?_
  rintro e w7 ⟨rfl, hb⟩
  have HB7 : Hid (Below w.heap.size w w7) := by
    refine Lib.hid (Below.trans ?_ (hb.mono ?_))
    · repeat' (first | refine Below.setCell ?_ (by first | (simp; done) | (simp; omega) | omega) _ | refine Below.alloc ?_ (by first | (simp; done) | (simp; omega) | omega) _ | exact HB6.out)
    · have := HB6.out.size; first | (simp; done) | (simp; omega) | omega
  have HS7 := HB7.out.size
  obtain ⟨hc7, hf7⟩ := bcell hb
  have hz7_1 : w1.heap.size < w7.heap.size := by have h1 := hb.size; first | (simp at h1; omega) | omega
  have hz7_2 : w2.heap.size < w7.heap.size := by have h1 := hb.size; first | (simp at h1; omega) | omega
  have hz7_6 : w6.heap.size < w7.heap.size := by have h1 := hb.size; first | (simp at h1; omega) | omega
  clear hb
  go_wp2_with fail
  refine (heldValue_flat (chkK n) (chkN n) 0 ⟨#[]⟩ _).mono ?_
  rintro e w8 ⟨rfl, hb⟩
  have HB8 : Hid (Below w.heap.size w w8) := by
    refine Lib.hid (Below.trans ?_ (hb.mono ?_))
    · repeat' (first | refine Below.setCell ?_ (by first | (simp; done) | (simp; omega) | omega) _ | refine Below.alloc ?_ (by first | (simp; done) | (simp; omega) | omega) _ | exact HB7.out)
    · have := HB7.out.size; first | (simp; done) | (simp; omega) | omega
  have HS8 := HB8.out.size
  obtain ⟨hc8, hf8⟩ := bcell hb
  have hz8_1 : w1.heap.size < w8.heap.size := by have h1 := hb.size; first | (simp at h1; omega) | omega
  have hz8_2 : w2.heap.size < w8.heap.size := by have h1 := hb.size; first | (simp at h1; omega) | omega
  have hz8_6 : w6.heap.size < w8.heap.size := by have h1 := hb.size; first | (simp at h1; omega) | omega
  clear hb
  go_wp2_with fail
  go_ret
  refine ⟨rfl, ?_⟩
  repeat' (first | refine Below.setCell ?_ (by first | (simp; done) | (simp; omega) | omega) _ | refine Below.alloc ?_ (by first | (simp; done) | (simp; omega) | omega) _ | exact HB8.out)
end Go.Proofs.Ytehipnbielgbeaa
