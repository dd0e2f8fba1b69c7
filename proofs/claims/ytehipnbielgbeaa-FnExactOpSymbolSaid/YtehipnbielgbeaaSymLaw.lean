/-
  OpSymbol, the program's and the model's, and the law FnExactOpSymbol. (Written by genoptab.py.)
-/
import Derived.Test.YtehipnbielgbeaaOpTab
import Derived.Test.YtehipnbielgbeaaNumOk
namespace Go.Proofs.Ytehipnbielgbeaa
open Go.RowKit
set_option linter.unusedVariables false

def symOf (op : Int) : ByteArray := if op = 1 then ⟨#[43]⟩ else if op = 2 then ⟨#[45]⟩ else if op = 3 then ⟨#[42]⟩ else if op = 4 then ⟨#[60]⟩ else if op = 5 then ⟨#[61, 61]⟩ else ⟨#[63]⟩
theorem opCases (op : Int) : op = 1 ∨ op = 2 ∨ op = 3 ∨ op = 4 ∨ op = 5 ∨ op < 1 ∨ 5 < op := by omega

set_option maxHeartbeats 1600000 in
set_option maxRecDepth 100000 in
theorem implSym_any (op : Int) (w : World) :
    Calls Try.prog 8 #[.int .i64 op] w fun e w' => e = .returned (.string (symOf op)) ∧ Below w.heap.size w w' := by
  rcases opCases op with rfl | rfl | rfl | rfl | rfl | h | h
  · have hfd := field_sym
    go_enter Try.func8, Try.ntmps8
    go_wp2_with fail
    refine (operatorOf_1 _).mono ?_
    rintro e w1 ⟨rfl, hb⟩
    have HB := Lib.hid hb
    clear hb
    go_wp2_with fail
    go_ret
    exact ⟨rfl, HB.out⟩
  · have hfd := field_sym
    go_enter Try.func8, Try.ntmps8
    go_wp2_with fail
    refine (operatorOf_2 _).mono ?_
    rintro e w1 ⟨rfl, _, _, hb⟩
    have HB := Lib.hid hb
    clear hb
    go_wp2_with fail
    go_ret
    exact ⟨rfl, HB.out⟩
  · have hfd := field_sym
    go_enter Try.func8, Try.ntmps8
    go_wp2_with fail
    refine (operatorOf_3 _).mono ?_
    rintro e w1 ⟨rfl, _, _, hb⟩
    have HB := Lib.hid hb
    clear hb
    go_wp2_with fail
    go_ret
    exact ⟨rfl, HB.out⟩
  · have hfd := field_sym
    go_enter Try.func8, Try.ntmps8
    go_wp2_with fail
    refine (operatorOf_4 _).mono ?_
    rintro e w1 ⟨rfl, hb⟩
    have HB := Lib.hid hb
    clear hb
    go_wp2_with fail
    go_ret
    exact ⟨rfl, HB.out⟩
  · have hfd := field_sym
    go_enter Try.func8, Try.ntmps8
    go_wp2_with fail
    refine (operatorOf_5 _).mono ?_
    rintro e w1 ⟨rfl, hb⟩
    have HB := Lib.hid hb
    clear hb
    go_wp2_with fail
    go_ret
    exact ⟨rfl, HB.out⟩
  · have hfd := field_sym
    go_enter Try.func8, Try.ntmps8
    go_wp2_with fail
    refine (operatorOf_lo op h _).mono ?_
    rintro e w1 ⟨rfl, hb⟩
    have HB := Lib.hid hb
    clear hb
    go_wp2_with fail
    go_ret
    exact ⟨by rw [show symOf op = ⟨#[63]⟩ from by unfold symOf; rw [if_neg (by omega), if_neg (by omega), if_neg (by omega), if_neg (by omega), if_neg (by omega)]]; rfl, HB.out⟩
  · have hfd := field_sym
    go_enter Try.func8, Try.ntmps8
    go_wp2_with fail
    refine (operatorOf_hi op h _).mono ?_
    rintro e w1 ⟨rfl, hb⟩
    have HB := Lib.hid hb
    clear hb
    go_wp2_with fail
    go_ret
    exact ⟨by rw [show symOf op = ⟨#[63]⟩ from by unfold symOf; rw [if_neg (by omega), if_neg (by omega), if_neg (by omega), if_neg (by omega), if_neg (by omega)]]; rfl, HB.out⟩

set_option maxHeartbeats 1600000 in
set_option maxRecDepth 100000 in
theorem specSym_any (op : Int) (w : World) :
    Calls Try.prog 7 #[.int .i64 op] w fun e w' => e = .returned (.string (symOf op)) ∧ Below w.heap.size w w' := by
  rcases opCases op with rfl | rfl | rfl | rfl | rfl | h | h
  iterate 5
    · go_enter Try.func7, Try.ntmps7
      go_wp2_with fail
      refine (l1In_any _ 1 5 _).mono ?_
      rintro e w1 ⟨b, rfl, hb, rfl⟩
      obtain rfl : b = true := hb.2 (by omega)
      clear hb
      go_wp2_with fail
      go_ret
      exact ⟨rfl, by repeat' (first | refine Below.setCell ?_ (by first | (simp; done) | (simp; omega) | omega) _ | refine Below.alloc ?_ (by first | (simp; done) | (simp; omega) | omega) _ | exact Below.refl _ _)⟩
  all_goals
    go_enter Try.func7, Try.ntmps7
    go_wp2_with fail
    refine (l1In_any _ 1 5 _).mono ?_
    rintro e w1 ⟨b, rfl, hb, rfl⟩
    obtain rfl : b = false := by
      cases b with
      | false => rfl
      | true => have := hb.1 rfl; omega
    clear hb
    go_wp2_with fail
    go_ret
    exact ⟨by rw [show symOf op = ⟨#[63]⟩ from by unfold symOf; rw [if_neg (by omega), if_neg (by omega), if_neg (by omega), if_neg (by omega), if_neg (by omega)]]; rfl, Below.refl _ _⟩

set_option maxHeartbeats 800000 in
set_option maxRecDepth 100000 in
theorem fnExactOpSymbol_walk (op : Int) (w : World) :
    Calls Try.prog 3 #[.int .i64 op] w fun e w' => e = .returned (.bool true) ∧ Below w.heap.size w w' := by
  go_enter Try.func3, Try.ntmps3
  go_wp2_with fail
  refine (specSym_any op _).mono ?_
  rintro e w1 ⟨rfl, hb1⟩
  have HB := Lib.hid hb1
  have hs := hb1.size
  clear hb1
  go_wp2_with fail
  refine (implSym_any op _).mono ?_
  rintro e w2 ⟨rfl, hb2⟩
  have HB2 := Lib.hid (HB.out.trans (hb2.mono hs))
  clear hb2
  generalize symOf op = s
  go_wp2_with fail
  go_ret
  exact ⟨rfl, HB2.out⟩

end Go.Proofs.Ytehipnbielgbeaa
