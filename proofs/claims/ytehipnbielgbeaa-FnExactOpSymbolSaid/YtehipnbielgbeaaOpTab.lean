/-
  The table of operators: what operatorOf gives. (Written by genoptab.py.)
-/
import Derived.Test.YtehipnbielgbeaaRowOf
import Derived.Deep.RegionHeld3
import Derived.Deep.RegionLaw
import Derived.Laws.EntriesVeiled
namespace Go.Proofs.Ytehipnbielgbeaa
open Go.RowKit
set_option linter.unusedVariables false

set_option maxHeartbeats 800000 in
set_option maxRecDepth 100000 in
theorem onNumbers_any (k : FuncId) (w : World) :
    Calls Try.prog 44 #[.func (.func k) #[] #[]] w fun e w' => e = .returned (.func (.func 62) #[] #[.pointer (some ⟨w.heap.size, 0, none⟩)]) ∧ w' = w.alloc (.cells #[.func (.func k) #[] #[]] 59) := by
  have hmf : ∀ (fn : Fn) (first cap : Array Value) (w : World), (Instr.makeFunc fn first cap).run Try.prog w = .ok (.func fn first cap) w := fun _ _ _ _ => rfl
  go_enter Try.func44, Try.ntmps44
  go_wp2_with fail
  go_ret
  exact ⟨rfl, rfl⟩

theorem field_sym (s : ByteArray) (f : Value) (w : World) : (Instr.field 45 (.agg #[.string s, f]) 0).run Try.prog w = .ok (.string s) w := by kernel_rfl
theorem field_app (s : ByteArray) (f : Value) (w : World) : (Instr.field 45 (.agg #[.string s, f]) 1).run Try.prog w = .ok f w := by kernel_rfl

set_option maxHeartbeats 800000 in
set_option maxRecDepth 100000 in
theorem operatorOf_1 (w : World) :
    Calls Try.prog 21 #[.int .i64 1] w fun e w' => e = .returned (.agg #[.string ⟨#[43]⟩, .func (.func 43) #[] #[]]) ∧ Below w.heap.size w w' := by
  go_enter Try.func21, Try.ntmps21
  go_wp2_with fail
  refine (onNumbers_any _ _).mono ?_
  rintro e w' ⟨rfl, rfl⟩
  go_wp2_with fail
  refine (onNumbers_any _ _).mono ?_
  rintro e w' ⟨rfl, rfl⟩
  go_wp2_with fail
  refine bodyPost_ret (v := .agg #[.string ⟨#[43]⟩, .func (.func 43) #[] #[]]) (by simp [results, Try.results21, go_sem]) rfl ⟨rfl, ?_⟩
  repeat' (first | refine Below.setCell ?_ (by first | (simp; done) | (simp; omega) | omega) _ | refine Below.alloc ?_ (by first | (simp; done) | (simp; omega) | omega) _ | exact Below.refl _ _)

set_option maxHeartbeats 800000 in
set_option maxRecDepth 100000 in
theorem operatorOf_2 (w : World) :
    Calls Try.prog 21 #[.int .i64 2] w fun e w' => e = .returned (.agg #[.string ⟨#[45]⟩, .func (.func 62) #[] #[.pointer (some ⟨w.heap.size + 1, 0, none⟩)]]) ∧ w'.cell? ⟨w.heap.size + 1, 0, none⟩ = some (.func (.func 45) #[] #[]) ∧ w.heap.size + 1 < w'.heap.size ∧ Below w.heap.size w w' := by
  go_enter Try.func21, Try.ntmps21
  go_wp2_with fail
  refine (onNumbers_any _ _).mono ?_
  rintro e w' ⟨rfl, rfl⟩
  go_wp2_with fail
  refine (onNumbers_any _ _).mono ?_
  rintro e w' ⟨rfl, rfl⟩
  go_wp2_with fail
  refine bodyPost_ret (v := .agg #[.string ⟨#[45]⟩, .func (.func 62) #[] #[.pointer (some ⟨w.heap.size + 1, 0, none⟩)]]) (by simp [results, Try.results21, go_sem]) rfl ⟨rfl, by simp [go_sem], by simp, ?_⟩
  repeat' (first | refine Below.setCell ?_ (by first | (simp; done) | (simp; omega) | omega) _ | refine Below.alloc ?_ (by first | (simp; done) | (simp; omega) | omega) _ | exact Below.refl _ _)

set_option maxHeartbeats 800000 in
set_option maxRecDepth 100000 in
theorem operatorOf_3 (w : World) :
    Calls Try.prog 21 #[.int .i64 3] w fun e w' => e = .returned (.agg #[.string ⟨#[42]⟩, .func (.func 62) #[] #[.pointer (some ⟨w.heap.size + 2, 0, none⟩)]]) ∧ w'.cell? ⟨w.heap.size + 2, 0, none⟩ = some (.func (.func 46) #[] #[]) ∧ w.heap.size + 2 < w'.heap.size ∧ Below w.heap.size w w' := by
  go_enter Try.func21, Try.ntmps21
  go_wp2_with fail
  refine (onNumbers_any _ _).mono ?_
  rintro e w' ⟨rfl, rfl⟩
  go_wp2_with fail
  refine (onNumbers_any _ _).mono ?_
  rintro e w' ⟨rfl, rfl⟩
  go_wp2_with fail
  refine bodyPost_ret (v := .agg #[.string ⟨#[42]⟩, .func (.func 62) #[] #[.pointer (some ⟨w.heap.size + 2, 0, none⟩)]]) (by simp [results, Try.results21, go_sem]) rfl ⟨rfl, by simp [go_sem], by simp, ?_⟩
  repeat' (first | refine Below.setCell ?_ (by first | (simp; done) | (simp; omega) | omega) _ | refine Below.alloc ?_ (by first | (simp; done) | (simp; omega) | omega) _ | exact Below.refl _ _)

set_option maxHeartbeats 800000 in
set_option maxRecDepth 100000 in
theorem operatorOf_4 (w : World) :
    Calls Try.prog 21 #[.int .i64 4] w fun e w' => e = .returned (.agg #[.string ⟨#[60]⟩, .func (.func 47) #[] #[]]) ∧ Below w.heap.size w w' := by
  go_enter Try.func21, Try.ntmps21
  go_wp2_with fail
  refine (onNumbers_any _ _).mono ?_
  rintro e w' ⟨rfl, rfl⟩
  go_wp2_with fail
  refine (onNumbers_any _ _).mono ?_
  rintro e w' ⟨rfl, rfl⟩
  go_wp2_with fail
  refine bodyPost_ret (v := .agg #[.string ⟨#[60]⟩, .func (.func 47) #[] #[]]) (by simp [results, Try.results21, go_sem]) rfl ⟨rfl, ?_⟩
  repeat' (first | refine Below.setCell ?_ (by first | (simp; done) | (simp; omega) | omega) _ | refine Below.alloc ?_ (by first | (simp; done) | (simp; omega) | omega) _ | exact Below.refl _ _)

set_option maxHeartbeats 800000 in
set_option maxRecDepth 100000 in
theorem operatorOf_5 (w : World) :
    Calls Try.prog 21 #[.int .i64 5] w fun e w' => e = .returned (.agg #[.string ⟨#[61, 61]⟩, .func (.func 48) #[] #[]]) ∧ Below w.heap.size w w' := by
  go_enter Try.func21, Try.ntmps21
  go_wp2_with fail
  refine (onNumbers_any _ _).mono ?_
  rintro e w' ⟨rfl, rfl⟩
  go_wp2_with fail
  refine (onNumbers_any _ _).mono ?_
  rintro e w' ⟨rfl, rfl⟩
  go_wp2_with fail
  refine bodyPost_ret (v := .agg #[.string ⟨#[61, 61]⟩, .func (.func 48) #[] #[]]) (by simp [results, Try.results21, go_sem]) rfl ⟨rfl, ?_⟩
  repeat' (first | refine Below.setCell ?_ (by first | (simp; done) | (simp; omega) | omega) _ | refine Below.alloc ?_ (by first | (simp; done) | (simp; omega) | omega) _ | exact Below.refl _ _)

set_option maxHeartbeats 800000 in
set_option maxRecDepth 100000 in
theorem operatorOf_lo (op : Int) (h : op < 1) (w : World) :
    Calls Try.prog 21 #[.int .i64 op] w fun e w' => e = .returned (.agg #[.string ⟨#[63]⟩, .func (.func 49) #[] #[]]) ∧ Below w.heap.size w w' := by
  go_enter Try.func21, Try.ntmps21
  go_wp2_with fail
  refine (onNumbers_any _ _).mono ?_
  rintro e w' ⟨rfl, rfl⟩
  go_wp2_with fail
  refine (onNumbers_any _ _).mono ?_
  rintro e w' ⟨rfl, rfl⟩
  go_wp2_with fail
  refine bodyPost_ret (v := .agg #[.string ⟨#[63]⟩, .func (.func 49) #[] #[]]) (by simp [results, Try.results21, go_sem]) rfl ⟨rfl, ?_⟩
  repeat' (first | refine Below.setCell ?_ (by first | (simp; done) | (simp; omega) | omega) _ | refine Below.alloc ?_ (by first | (simp; done) | (simp; omega) | omega) _ | exact Below.refl _ _)

set_option maxHeartbeats 800000 in
set_option maxRecDepth 100000 in
theorem operatorOf_hi (op : Int) (h : 5 < op) (w : World) :
    Calls Try.prog 21 #[.int .i64 op] w fun e w' => e = .returned (.agg #[.string ⟨#[63]⟩, .func (.func 49) #[] #[]]) ∧ Below w.heap.size w w' := by
  have h1 : ¬ op < 1 := by omega
  go_enter Try.func21, Try.ntmps21
  go_wp2_with fail
  refine (onNumbers_any _ _).mono ?_
  rintro e w' ⟨rfl, rfl⟩
  go_wp2_with fail
  refine (onNumbers_any _ _).mono ?_
  rintro e w' ⟨rfl, rfl⟩
  go_wp2_with fail
  refine bodyPost_ret (v := .agg #[.string ⟨#[63]⟩, .func (.func 49) #[] #[]]) (by simp [results, Try.results21, go_sem]) rfl ⟨rfl, ?_⟩
  repeat' (first | refine Below.setCell ?_ (by first | (simp; done) | (simp; omega) | omega) _ | refine Below.alloc ?_ (by first | (simp; done) | (simp; omega) | omega) _ | exact Below.refl _ _)

end Go.Proofs.Ytehipnbielgbeaa
