/-
  Texts that the proof rests on, put together: OpTab, SymLaw.
-/
import Derived.Test.YtpmpilnedhifiaaGreatMgL4
import Derived.Deep.RegionHeld3
import Derived.Deep.RegionLaw
import Derived.Laws.EntriesVeiled
import Derived.Test.YtpmpilnedhifiaaGreatMgL11
/-
  The table of operators: what operatorOf gives. (Written by genoptab.py.)
-/

namespace Go.Proofs.YtpmpilnedhifiaaGreat
open Go.RowKit
set_option linter.unusedVariables false

set_option maxHeartbeats 800000 in
set_option maxRecDepth 100000 in
theorem onNumbers_any (k : FuncId) (w : World) :
    Calls Tryz.prog 105 #[.func (.func k) #[] #[]] w fun e w' => e = .returned (.func (.func 151) #[] #[.pointer (some ⟨w.heap.size, 0, none⟩)]) ∧ w' = w.alloc (.cells #[.func (.func k) #[] #[]] 85) := by
  have hmf : ∀ (fn : Fn) (first cap : Array Value) (w : World), (Instr.makeFunc fn first cap).run Tryz.prog w = .ok (.func fn first cap) w := fun _ _ _ _ => rfl
  go_enter Tryz.func105, Tryz.ntmps105
  go_wp2_with fail
  go_ret
  exact ⟨rfl, rfl⟩

theorem field_app (s : ByteArray) (f : Value) (w : World) : (Instr.field 69 (.agg #[.string s, f]) 1).run Tryz.prog w = .ok f w := by kernel_rfl

set_option maxHeartbeats 800000 in
set_option maxRecDepth 100000 in
theorem operatorOf_1 (w : World) :
    Calls Tryz.prog 67 #[.int .i64 1] w fun e w' => e = .returned (.agg #[.string ⟨#[43]⟩, .func (.func 104) #[] #[]]) ∧ Below w.heap.size w w' := by
  go_enter Tryz.func67, Tryz.ntmps67
  go_wp2_with fail
  refine (onNumbers_any _ _).mono ?_
  rintro e w' ⟨rfl, rfl⟩
  go_wp2_with fail
  refine (onNumbers_any _ _).mono ?_
  rintro e w' ⟨rfl, rfl⟩
  go_wp2_with fail
  refine bodyPost_ret (v := .agg #[.string ⟨#[43]⟩, .func (.func 104) #[] #[]]) (by simp [results, Tryz.results67, go_sem]) rfl ⟨rfl, ?_⟩
  repeat' (first | refine Below.setCell ?_ (by first | (simp; done) | (simp; omega) | omega) _ | refine Below.alloc ?_ (by first | (simp; done) | (simp; omega) | omega) _ | exact Below.refl _ _)

set_option maxHeartbeats 800000 in
set_option maxRecDepth 100000 in
theorem operatorOf_2 (w : World) :
    Calls Tryz.prog 67 #[.int .i64 2] w fun e w' => e = .returned (.agg #[.string ⟨#[45]⟩, .func (.func 151) #[] #[.pointer (some ⟨w.heap.size + 1, 0, none⟩)]]) ∧ w'.cell? ⟨w.heap.size + 1, 0, none⟩ = some (.func (.func 106) #[] #[]) ∧ w.heap.size + 1 < w'.heap.size ∧ Below w.heap.size w w' := by
  go_enter Tryz.func67, Tryz.ntmps67
  go_wp2_with fail
  refine (onNumbers_any _ _).mono ?_
  rintro e w' ⟨rfl, rfl⟩
  go_wp2_with fail
  refine (onNumbers_any _ _).mono ?_
  rintro e w' ⟨rfl, rfl⟩
  go_wp2_with fail
  refine bodyPost_ret (v := .agg #[.string ⟨#[45]⟩, .func (.func 151) #[] #[.pointer (some ⟨w.heap.size + 1, 0, none⟩)]]) (by simp [results, Tryz.results67, go_sem]) rfl ⟨rfl, by simp [go_sem], by simp, ?_⟩
  repeat' (first | refine Below.setCell ?_ (by first | (simp; done) | (simp; omega) | omega) _ | refine Below.alloc ?_ (by first | (simp; done) | (simp; omega) | omega) _ | exact Below.refl _ _)

set_option maxHeartbeats 800000 in
set_option maxRecDepth 100000 in
theorem operatorOf_3 (w : World) :
    Calls Tryz.prog 67 #[.int .i64 3] w fun e w' => e = .returned (.agg #[.string ⟨#[42]⟩, .func (.func 151) #[] #[.pointer (some ⟨w.heap.size + 2, 0, none⟩)]]) ∧ w'.cell? ⟨w.heap.size + 2, 0, none⟩ = some (.func (.func 107) #[] #[]) ∧ w.heap.size + 2 < w'.heap.size ∧ Below w.heap.size w w' := by
  go_enter Tryz.func67, Tryz.ntmps67
  go_wp2_with fail
  refine (onNumbers_any _ _).mono ?_
  rintro e w' ⟨rfl, rfl⟩
  go_wp2_with fail
  refine (onNumbers_any _ _).mono ?_
  rintro e w' ⟨rfl, rfl⟩
  go_wp2_with fail
  refine bodyPost_ret (v := .agg #[.string ⟨#[42]⟩, .func (.func 151) #[] #[.pointer (some ⟨w.heap.size + 2, 0, none⟩)]]) (by simp [results, Tryz.results67, go_sem]) rfl ⟨rfl, by simp [go_sem], by simp, ?_⟩
  repeat' (first | refine Below.setCell ?_ (by first | (simp; done) | (simp; omega) | omega) _ | refine Below.alloc ?_ (by first | (simp; done) | (simp; omega) | omega) _ | exact Below.refl _ _)

set_option maxHeartbeats 800000 in
set_option maxRecDepth 100000 in
theorem operatorOf_4 (w : World) :
    Calls Tryz.prog 67 #[.int .i64 4] w fun e w' => e = .returned (.agg #[.string ⟨#[60]⟩, .func (.func 108) #[] #[]]) ∧ Below w.heap.size w w' := by
  go_enter Tryz.func67, Tryz.ntmps67
  go_wp2_with fail
  refine (onNumbers_any _ _).mono ?_
  rintro e w' ⟨rfl, rfl⟩
  go_wp2_with fail
  refine (onNumbers_any _ _).mono ?_
  rintro e w' ⟨rfl, rfl⟩
  go_wp2_with fail
  refine bodyPost_ret (v := .agg #[.string ⟨#[60]⟩, .func (.func 108) #[] #[]]) (by simp [results, Tryz.results67, go_sem]) rfl ⟨rfl, ?_⟩
  repeat' (first | refine Below.setCell ?_ (by first | (simp; done) | (simp; omega) | omega) _ | refine Below.alloc ?_ (by first | (simp; done) | (simp; omega) | omega) _ | exact Below.refl _ _)

set_option maxHeartbeats 800000 in
set_option maxRecDepth 100000 in
theorem operatorOf_5 (w : World) :
    Calls Tryz.prog 67 #[.int .i64 5] w fun e w' => e = .returned (.agg #[.string ⟨#[61, 61]⟩, .func (.func 109) #[] #[]]) ∧ Below w.heap.size w w' := by
  go_enter Tryz.func67, Tryz.ntmps67
  go_wp2_with fail
  refine (onNumbers_any _ _).mono ?_
  rintro e w' ⟨rfl, rfl⟩
  go_wp2_with fail
  refine (onNumbers_any _ _).mono ?_
  rintro e w' ⟨rfl, rfl⟩
  go_wp2_with fail
  refine bodyPost_ret (v := .agg #[.string ⟨#[61, 61]⟩, .func (.func 109) #[] #[]]) (by simp [results, Tryz.results67, go_sem]) rfl ⟨rfl, ?_⟩
  repeat' (first | refine Below.setCell ?_ (by first | (simp; done) | (simp; omega) | omega) _ | refine Below.alloc ?_ (by first | (simp; done) | (simp; omega) | omega) _ | exact Below.refl _ _)

set_option maxHeartbeats 800000 in
set_option maxRecDepth 100000 in
theorem operatorOf_lo (op : Int) (h : op < 1) (w : World) :
    Calls Tryz.prog 67 #[.int .i64 op] w fun e w' => e = .returned (.agg #[.string ⟨#[63]⟩, .func (.func 110) #[] #[]]) ∧ Below w.heap.size w w' := by
  go_enter Tryz.func67, Tryz.ntmps67
  go_wp2_with fail
  refine (onNumbers_any _ _).mono ?_
  rintro e w' ⟨rfl, rfl⟩
  go_wp2_with fail
  refine (onNumbers_any _ _).mono ?_
  rintro e w' ⟨rfl, rfl⟩
  go_wp2_with fail
  refine bodyPost_ret (v := .agg #[.string ⟨#[63]⟩, .func (.func 110) #[] #[]]) (by simp [results, Tryz.results67, go_sem]) rfl ⟨rfl, ?_⟩
  repeat' (first | refine Below.setCell ?_ (by first | (simp; done) | (simp; omega) | omega) _ | refine Below.alloc ?_ (by first | (simp; done) | (simp; omega) | omega) _ | exact Below.refl _ _)

set_option maxHeartbeats 800000 in
set_option maxRecDepth 100000 in
theorem operatorOf_hi (op : Int) (h : 5 < op) (w : World) :
    Calls Tryz.prog 67 #[.int .i64 op] w fun e w' => e = .returned (.agg #[.string ⟨#[63]⟩, .func (.func 110) #[] #[]]) ∧ Below w.heap.size w w' := by
  have h1 : ¬ op < 1 := by omega
  go_enter Tryz.func67, Tryz.ntmps67
  go_wp2_with fail
  refine (onNumbers_any _ _).mono ?_
  rintro e w' ⟨rfl, rfl⟩
  go_wp2_with fail
  refine (onNumbers_any _ _).mono ?_
  rintro e w' ⟨rfl, rfl⟩
  go_wp2_with fail
  refine bodyPost_ret (v := .agg #[.string ⟨#[63]⟩, .func (.func 110) #[] #[]]) (by simp [results, Tryz.results67, go_sem]) rfl ⟨rfl, ?_⟩
  repeat' (first | refine Below.setCell ?_ (by first | (simp; done) | (simp; omega) | omega) _ | refine Below.alloc ?_ (by first | (simp; done) | (simp; omega) | omega) _ | exact Below.refl _ _)

end Go.Proofs.YtpmpilnedhifiaaGreat

/-
  OpSymbol, the program's and the model's, and the law FnExactOpSymbol. (Written by genoptab.py.)
-/

namespace Go.Proofs.YtpmpilnedhifiaaGreat
open Go.RowKit
set_option linter.unusedVariables false

theorem opCases (op : Int) : op = 1 ∨ op = 2 ∨ op = 3 ∨ op = 4 ∨ op = 5 ∨ op < 1 ∨ 5 < op := by omega

end Go.Proofs.YtpmpilnedhifiaaGreat
