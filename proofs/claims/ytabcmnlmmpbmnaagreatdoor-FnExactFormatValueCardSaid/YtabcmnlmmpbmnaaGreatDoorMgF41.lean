/-
  Texts that the proof rests on, put together: Content, VMath.
-/
import Derived.Test.YtabcmnlmmpbmnaaGreatDoorMgF40
import Derived.Test.YtabcmnlmmpbmnaaGreatDoorMgF28
/-
  What a value consists of, by its kind: the program's contentOf, isElement, and each content's value. (Written by genvalok.py.)
-/

namespace Go.Proofs.YtabcmnlmmpbmnaaGreatDoor
open Go.RowKit
set_option linter.unusedVariables false

theorem ta_1_1 (v : Value) (w : World) : (Instr.typeAssert (.iface 86 v) 50 86 true).run Tryz.prog w = .ok (.tuple #[v, .bool true]) w := by kernel_rfl
theorem ta_1_2 (v : Value) (w : World) : (Instr.typeAssert (.iface 86 v) 50 89 true).run Tryz.prog w = .ok (.tuple #[.agg #[.string ⟨#[]⟩], .bool false]) w := by kernel_rfl
theorem ta_1_3 (v : Value) (w : World) : (Instr.typeAssert (.iface 86 v) 50 92 true).run Tryz.prog w = .ok (.tuple #[.agg #[.slice none 0 0], .bool false]) w := by kernel_rfl
theorem ta_2_1 (v : Value) (w : World) : (Instr.typeAssert (.iface 89 v) 50 86 true).run Tryz.prog w = .ok (.tuple #[.agg #[.int .i64 0], .bool false]) w := by kernel_rfl
theorem ta_2_2 (v : Value) (w : World) : (Instr.typeAssert (.iface 89 v) 50 89 true).run Tryz.prog w = .ok (.tuple #[v, .bool true]) w := by kernel_rfl
theorem ta_2_3 (v : Value) (w : World) : (Instr.typeAssert (.iface 89 v) 50 92 true).run Tryz.prog w = .ok (.tuple #[.agg #[.slice none 0 0], .bool false]) w := by kernel_rfl
theorem ta_3_1 (v : Value) (w : World) : (Instr.typeAssert (.iface 92 v) 50 86 true).run Tryz.prog w = .ok (.tuple #[.agg #[.int .i64 0], .bool false]) w := by kernel_rfl
theorem ta_3_2 (v : Value) (w : World) : (Instr.typeAssert (.iface 92 v) 50 89 true).run Tryz.prog w = .ok (.tuple #[.agg #[.string ⟨#[]⟩], .bool false]) w := by kernel_rfl
theorem ta_3_3 (v : Value) (w : World) : (Instr.typeAssert (.iface 92 v) 50 92 true).run Tryz.prog w = .ok (.tuple #[v, .bool true]) w := by kernel_rfl
theorem ta_4_1 (v : Value) (w : World) : (Instr.typeAssert (.iface 95 v) 50 86 true).run Tryz.prog w = .ok (.tuple #[.agg #[.int .i64 0], .bool false]) w := by kernel_rfl
theorem ta_4_2 (v : Value) (w : World) : (Instr.typeAssert (.iface 95 v) 50 89 true).run Tryz.prog w = .ok (.tuple #[.agg #[.string ⟨#[]⟩], .bool false]) w := by kernel_rfl
theorem ta_4_3 (v : Value) (w : World) : (Instr.typeAssert (.iface 95 v) 50 92 true).run Tryz.prog w = .ok (.tuple #[.agg #[.slice none 0 0], .bool false]) w := by kernel_rfl
theorem ta_4_4 (v : Value) (w : World) : (Instr.typeAssert (.iface 95 v) 50 95 true).run Tryz.prog w = .ok (.tuple #[v, .bool true]) w := by kernel_rfl
theorem ta_5_1 (v : Value) (w : World) : (Instr.typeAssert (.iface 97 v) 50 86 true).run Tryz.prog w = .ok (.tuple #[.agg #[.int .i64 0], .bool false]) w := by kernel_rfl
theorem ta_5_2 (v : Value) (w : World) : (Instr.typeAssert (.iface 97 v) 50 89 true).run Tryz.prog w = .ok (.tuple #[.agg #[.string ⟨#[]⟩], .bool false]) w := by kernel_rfl
theorem ta_5_3 (v : Value) (w : World) : (Instr.typeAssert (.iface 97 v) 50 92 true).run Tryz.prog w = .ok (.tuple #[.agg #[.slice none 0 0], .bool false]) w := by kernel_rfl
theorem ta_5_4 (v : Value) (w : World) : (Instr.typeAssert (.iface 97 v) 50 95 true).run Tryz.prog w = .ok (.tuple #[.agg #[.int .i64 0, .int .i64 0], .bool false]) w := by kernel_rfl
theorem ta_5_5 (v : Value) (w : World) : (Instr.typeAssert (.iface 97 v) 50 97 true).run Tryz.prog w = .ok (.tuple #[v, .bool true]) w := by kernel_rfl
theorem ta_6_1 (v : Value) (w : World) : (Instr.typeAssert (.iface 101 v) 50 86 true).run Tryz.prog w = .ok (.tuple #[.agg #[.int .i64 0], .bool false]) w := by kernel_rfl
theorem ta_6_2 (v : Value) (w : World) : (Instr.typeAssert (.iface 101 v) 50 89 true).run Tryz.prog w = .ok (.tuple #[.agg #[.string ⟨#[]⟩], .bool false]) w := by kernel_rfl
theorem ta_6_3 (v : Value) (w : World) : (Instr.typeAssert (.iface 101 v) 50 92 true).run Tryz.prog w = .ok (.tuple #[.agg #[.slice none 0 0], .bool false]) w := by kernel_rfl
theorem ta_6_4 (v : Value) (w : World) : (Instr.typeAssert (.iface 101 v) 50 95 true).run Tryz.prog w = .ok (.tuple #[.agg #[.int .i64 0, .int .i64 0], .bool false]) w := by kernel_rfl
theorem ta_6_5 (v : Value) (w : World) : (Instr.typeAssert (.iface 101 v) 50 97 true).run Tryz.prog w = .ok (.tuple #[.agg #[.slice none 0 0, .slice none 0 0], .bool false]) w := by kernel_rfl
theorem ta_6_6 (v : Value) (w : World) : (Instr.typeAssert (.iface 101 v) 50 101 true).run Tryz.prog w = .ok (.tuple #[v, .bool true]) w := by kernel_rfl
theorem ta_0_1 (w : World) : (Instr.typeAssert .nilIface 50 86 true).run Tryz.prog w = .ok (.tuple #[.agg #[.int .i64 0], .bool false]) w := by kernel_rfl
theorem ta_0_2 (w : World) : (Instr.typeAssert .nilIface 50 89 true).run Tryz.prog w = .ok (.tuple #[.agg #[.string ⟨#[]⟩], .bool false]) w := by kernel_rfl
theorem ta_0_3 (w : World) : (Instr.typeAssert .nilIface 50 92 true).run Tryz.prog w = .ok (.tuple #[.agg #[.slice none 0 0], .bool false]) w := by kernel_rfl
theorem ta_0_4 (w : World) : (Instr.typeAssert .nilIface 50 95 true).run Tryz.prog w = .ok (.tuple #[.agg #[.int .i64 0, .int .i64 0], .bool false]) w := by kernel_rfl
theorem ta_0_5 (w : World) : (Instr.typeAssert .nilIface 50 97 true).run Tryz.prog w = .ok (.tuple #[.agg #[.slice none 0 0, .slice none 0 0], .bool false]) w := by kernel_rfl
theorem ta_0_6 (w : World) : (Instr.typeAssert .nilIface 50 101 true).run Tryz.prog w = .ok (.tuple #[.agg #[.int .i64 0], .bool false]) w := by kernel_rfl

set_option maxHeartbeats 800000 in
set_option maxRecDepth 100000 in
theorem content1_any (n s : Int) (t : ByteArray) (A4 A5 A6 : Option Addr) (n4 q4 n5 q5 n6 q6 : Nat) (w : World) : Calls Tryz.prog 24 #[.agg #[.int .i64 1, .int .i64 n, .int .i64 s, .string t, .slice A4 n4 q4, .slice A5 n5 q5, .slice A6 n6 q6]] w fun e w' => e = .returned (.iface 86 (.agg #[.int .i64 n])) ∧ Below w.heap.size w w' := by
  go_enter Tryz.func24, Tryz.ntmps24
  go_wp2_with fail
  go_ret
  exact ⟨rfl, (Below.refl _ _).alloc (Nat.le_refl _) _⟩

set_option maxHeartbeats 800000 in
set_option maxRecDepth 100000 in
theorem element1_any (n s : Int) (t : ByteArray) (A4 A5 A6 : Option Addr) (n4 q4 n5 q5 n6 q6 : Nat) (w : World) : Calls Tryz.prog 175 #[(.iface 86 (.agg #[.int .i64 n]))] w fun e w' => e = .returned (.bool true) ∧ Below w.heap.size w w' := by
  have f1 := ta_1_1
  have f2 := ta_1_2
  have f3 := ta_1_3
  go_enter Tryz.func175, Tryz.ntmps175
  go_wp2_with fail
  go_ret
  exact ⟨rfl, Below.refl _ _⟩

set_option maxHeartbeats 800000 in
set_option maxRecDepth 100000 in
theorem value1_any (n s : Int) (t : ByteArray) (A4 A5 A6 : Option Addr) (n4 q4 n5 q5 n6 q6 : Nat) (w : World) : Calls Tryz.prog 124 #[.agg #[.int .i64 n]] w fun e w' => e = .returned (.agg #[.int .i64 1, .int .i64 n, .int .i64 0, .string ⟨#[]⟩, .slice none 0 0, .slice none 0 0, .slice none 0 0]) ∧ Below w.heap.size w w' := by
  go_enter Tryz.func124, Tryz.ntmps124
  go_wp2_with fail
  refine bodyPost_ret (v := .agg #[.int .i64 1, .int .i64 n, .int .i64 0, .string ⟨#[]⟩, .slice none 0 0, .slice none 0 0, .slice none 0 0]) (by simp [results, Tryz.results124, go_sem]) rfl ⟨rfl, ?_⟩
  repeat' (first | refine Below.setCell ?_ (by first | (simp; done) | (simp; omega) | omega) _ | refine Below.alloc ?_ (by first | (simp; done) | (simp; omega) | omega) _ | exact Below.refl _ _)

set_option maxHeartbeats 800000 in
set_option maxRecDepth 100000 in
theorem content2_any (n s : Int) (t : ByteArray) (A4 A5 A6 : Option Addr) (n4 q4 n5 q5 n6 q6 : Nat) (w : World) : Calls Tryz.prog 24 #[.agg #[.int .i64 2, .int .i64 n, .int .i64 s, .string t, .slice A4 n4 q4, .slice A5 n5 q5, .slice A6 n6 q6]] w fun e w' => e = .returned (.iface 89 (.agg #[.string t])) ∧ Below w.heap.size w w' := by
  go_enter Tryz.func24, Tryz.ntmps24
  go_wp2_with fail
  go_ret
  exact ⟨rfl, (Below.refl _ _).alloc (Nat.le_refl _) _⟩

set_option maxHeartbeats 800000 in
set_option maxRecDepth 100000 in
theorem element2_any (n s : Int) (t : ByteArray) (A4 A5 A6 : Option Addr) (n4 q4 n5 q5 n6 q6 : Nat) (w : World) : Calls Tryz.prog 175 #[(.iface 89 (.agg #[.string t]))] w fun e w' => e = .returned (.bool true) ∧ Below w.heap.size w w' := by
  have f1 := ta_2_1
  have f2 := ta_2_2
  have f3 := ta_2_3
  go_enter Tryz.func175, Tryz.ntmps175
  go_wp2_with fail
  go_ret
  exact ⟨rfl, Below.refl _ _⟩

set_option maxHeartbeats 800000 in
set_option maxRecDepth 100000 in
theorem value2_any (n s : Int) (t : ByteArray) (A4 A5 A6 : Option Addr) (n4 q4 n5 q5 n6 q6 : Nat) (w : World) : Calls Tryz.prog 122 #[.agg #[.string t]] w fun e w' => e = .returned (.agg #[.int .i64 2, .int .i64 0, .int .i64 0, .string t, .slice none 0 0, .slice none 0 0, .slice none 0 0]) ∧ Below w.heap.size w w' := by
  go_enter Tryz.func122, Tryz.ntmps122
  go_wp2_with fail
  refine bodyPost_ret (v := .agg #[.int .i64 2, .int .i64 0, .int .i64 0, .string t, .slice none 0 0, .slice none 0 0, .slice none 0 0]) (by simp [results, Tryz.results122, go_sem]) rfl ⟨rfl, ?_⟩
  repeat' (first | refine Below.setCell ?_ (by first | (simp; done) | (simp; omega) | omega) _ | refine Below.alloc ?_ (by first | (simp; done) | (simp; omega) | omega) _ | exact Below.refl _ _)

set_option maxHeartbeats 800000 in
set_option maxRecDepth 100000 in
theorem content3_any (n s : Int) (t : ByteArray) (A4 A5 A6 : Option Addr) (n4 q4 n5 q5 n6 q6 : Nat) (w : World) : Calls Tryz.prog 24 #[.agg #[.int .i64 3, .int .i64 n, .int .i64 s, .string t, .slice A4 n4 q4, .slice A5 n5 q5, .slice A6 n6 q6]] w fun e w' => e = .returned (.iface 92 (.agg #[.slice A4 n4 q4])) ∧ Below w.heap.size w w' := by
  go_enter Tryz.func24, Tryz.ntmps24
  go_wp2_with fail
  go_ret
  exact ⟨rfl, (Below.refl _ _).alloc (Nat.le_refl _) _⟩

set_option maxHeartbeats 800000 in
set_option maxRecDepth 100000 in
theorem element3_any (n s : Int) (t : ByteArray) (A4 A5 A6 : Option Addr) (n4 q4 n5 q5 n6 q6 : Nat) (w : World) : Calls Tryz.prog 175 #[(.iface 92 (.agg #[.slice A4 n4 q4]))] w fun e w' => e = .returned (.bool true) ∧ Below w.heap.size w w' := by
  have f1 := ta_3_1
  have f2 := ta_3_2
  have f3 := ta_3_3
  go_enter Tryz.func175, Tryz.ntmps175
  go_wp2_with fail
  go_ret
  exact ⟨rfl, Below.refl _ _⟩

set_option maxHeartbeats 800000 in
set_option maxRecDepth 100000 in
theorem value3_any (n s : Int) (t : ByteArray) (A4 A5 A6 : Option Addr) (n4 q4 n5 q5 n6 q6 : Nat) (w : World) : Calls Tryz.prog 59 #[.agg #[.slice A4 n4 q4]] w fun e w' => e = .returned (.agg #[.int .i64 3, .int .i64 0, .int .i64 0, .string ⟨#[]⟩, .slice A4 n4 q4, .slice none 0 0, .slice none 0 0]) ∧ Below w.heap.size w w' := by
  go_enter Tryz.func59, Tryz.ntmps59
  go_wp2_with fail
  refine bodyPost_ret (v := .agg #[.int .i64 3, .int .i64 0, .int .i64 0, .string ⟨#[]⟩, .slice A4 n4 q4, .slice none 0 0, .slice none 0 0]) (by simp [results, Tryz.results59, go_sem]) rfl ⟨rfl, ?_⟩
  repeat' (first | refine Below.setCell ?_ (by first | (simp; done) | (simp; omega) | omega) _ | refine Below.alloc ?_ (by first | (simp; done) | (simp; omega) | omega) _ | exact Below.refl _ _)

set_option maxHeartbeats 800000 in
set_option maxRecDepth 100000 in
theorem content4_any (n s : Int) (t : ByteArray) (A4 A5 A6 : Option Addr) (n4 q4 n5 q5 n6 q6 : Nat) (w : World) : Calls Tryz.prog 24 #[.agg #[.int .i64 4, .int .i64 n, .int .i64 s, .string t, .slice A4 n4 q4, .slice A5 n5 q5, .slice A6 n6 q6]] w fun e w' => e = .returned (.iface 95 (.agg #[.int .i64 n, .int .i64 s])) ∧ Below w.heap.size w w' := by
  go_enter Tryz.func24, Tryz.ntmps24
  go_wp2_with fail
  go_ret
  exact ⟨rfl, (Below.refl _ _).alloc (Nat.le_refl _) _⟩

set_option maxHeartbeats 800000 in
set_option maxRecDepth 100000 in
theorem element4_any (n s : Int) (t : ByteArray) (A4 A5 A6 : Option Addr) (n4 q4 n5 q5 n6 q6 : Nat) (w : World) : Calls Tryz.prog 175 #[(.iface 95 (.agg #[.int .i64 n, .int .i64 s]))] w fun e w' => e = .returned (.bool false) ∧ Below w.heap.size w w' := by
  have f1 := ta_4_1
  have f2 := ta_4_2
  have f3 := ta_4_3
  go_enter Tryz.func175, Tryz.ntmps175
  go_wp2_with fail
  go_ret
  exact ⟨rfl, Below.refl _ _⟩

set_option maxHeartbeats 800000 in
set_option maxRecDepth 100000 in
theorem value4_any (n s : Int) (t : ByteArray) (A4 A5 A6 : Option Addr) (n4 q4 n5 q5 n6 q6 : Nat) (w : World) : Calls Tryz.prog 154 #[.agg #[.int .i64 n, .int .i64 s]] w fun e w' => e = .returned (.agg #[.int .i64 4, .int .i64 n, .int .i64 s, .string ⟨#[]⟩, .slice none 0 0, .slice none 0 0, .slice none 0 0]) ∧ Below w.heap.size w w' := by
  go_enter Tryz.func154, Tryz.ntmps154
  go_wp2_with fail
  refine bodyPost_ret (v := .agg #[.int .i64 4, .int .i64 n, .int .i64 s, .string ⟨#[]⟩, .slice none 0 0, .slice none 0 0, .slice none 0 0]) (by simp [results, Tryz.results154, go_sem]) rfl ⟨rfl, ?_⟩
  repeat' (first | refine Below.setCell ?_ (by first | (simp; done) | (simp; omega) | omega) _ | refine Below.alloc ?_ (by first | (simp; done) | (simp; omega) | omega) _ | exact Below.refl _ _)

set_option maxHeartbeats 800000 in
set_option maxRecDepth 100000 in
theorem content5_any (n s : Int) (t : ByteArray) (A4 A5 A6 : Option Addr) (n4 q4 n5 q5 n6 q6 : Nat) (w : World) : Calls Tryz.prog 24 #[.agg #[.int .i64 5, .int .i64 n, .int .i64 s, .string t, .slice A4 n4 q4, .slice A5 n5 q5, .slice A6 n6 q6]] w fun e w' => e = .returned (.iface 97 (.agg #[.slice A5 n5 q5, .slice A6 n6 q6])) ∧ Below w.heap.size w w' := by
  go_enter Tryz.func24, Tryz.ntmps24
  go_wp2_with fail
  go_ret
  exact ⟨rfl, (Below.refl _ _).alloc (Nat.le_refl _) _⟩

set_option maxHeartbeats 800000 in
set_option maxRecDepth 100000 in
theorem element5_any (n s : Int) (t : ByteArray) (A4 A5 A6 : Option Addr) (n4 q4 n5 q5 n6 q6 : Nat) (w : World) : Calls Tryz.prog 175 #[(.iface 97 (.agg #[.slice A5 n5 q5, .slice A6 n6 q6]))] w fun e w' => e = .returned (.bool false) ∧ Below w.heap.size w w' := by
  have f1 := ta_5_1
  have f2 := ta_5_2
  have f3 := ta_5_3
  go_enter Tryz.func175, Tryz.ntmps175
  go_wp2_with fail
  go_ret
  exact ⟨rfl, Below.refl _ _⟩

set_option maxHeartbeats 800000 in
set_option maxRecDepth 100000 in
theorem value5_any (n s : Int) (t : ByteArray) (A4 A5 A6 : Option Addr) (n4 q4 n5 q5 n6 q6 : Nat) (w : World) : Calls Tryz.prog 119 #[.agg #[.slice A5 n5 q5, .slice A6 n6 q6]] w fun e w' => e = .returned (.agg #[.int .i64 5, .int .i64 0, .int .i64 0, .string ⟨#[]⟩, .slice none 0 0, .slice A5 n5 q5, .slice A6 n6 q6]) ∧ Below w.heap.size w w' := by
  go_enter Tryz.func119, Tryz.ntmps119
  go_wp2_with fail
  refine bodyPost_ret (v := .agg #[.int .i64 5, .int .i64 0, .int .i64 0, .string ⟨#[]⟩, .slice none 0 0, .slice A5 n5 q5, .slice A6 n6 q6]) (by simp [results, Tryz.results119, go_sem]) rfl ⟨rfl, ?_⟩
  repeat' (first | refine Below.setCell ?_ (by first | (simp; done) | (simp; omega) | omega) _ | refine Below.alloc ?_ (by first | (simp; done) | (simp; omega) | omega) _ | exact Below.refl _ _)

set_option maxHeartbeats 800000 in
set_option maxRecDepth 100000 in
theorem content6_any (n s : Int) (t : ByteArray) (A4 A5 A6 : Option Addr) (n4 q4 n5 q5 n6 q6 : Nat) (w : World) : Calls Tryz.prog 24 #[.agg #[.int .i64 6, .int .i64 n, .int .i64 s, .string t, .slice A4 n4 q4, .slice A5 n5 q5, .slice A6 n6 q6]] w fun e w' => e = .returned (.iface 101 (.agg #[.int .i64 n])) ∧ Below w.heap.size w w' := by
  go_enter Tryz.func24, Tryz.ntmps24
  go_wp2_with fail
  go_ret
  exact ⟨rfl, (Below.refl _ _).alloc (Nat.le_refl _) _⟩

set_option maxHeartbeats 800000 in
set_option maxRecDepth 100000 in
theorem element6_any (n s : Int) (t : ByteArray) (A4 A5 A6 : Option Addr) (n4 q4 n5 q5 n6 q6 : Nat) (w : World) : Calls Tryz.prog 175 #[(.iface 101 (.agg #[.int .i64 n]))] w fun e w' => e = .returned (.bool false) ∧ Below w.heap.size w w' := by
  have f1 := ta_6_1
  have f2 := ta_6_2
  have f3 := ta_6_3
  go_enter Tryz.func175, Tryz.ntmps175
  go_wp2_with fail
  go_ret
  exact ⟨rfl, Below.refl _ _⟩

set_option maxHeartbeats 800000 in
set_option maxRecDepth 100000 in
theorem value6_any (n s : Int) (t : ByteArray) (A4 A5 A6 : Option Addr) (n4 q4 n5 q5 n6 q6 : Nat) (w : World) : Calls Tryz.prog 120 #[.agg #[.int .i64 n]] w fun e w' => e = .returned (.agg #[.int .i64 6, .int .i64 n, .int .i64 0, .string ⟨#[]⟩, .slice none 0 0, .slice none 0 0, .slice none 0 0]) ∧ Below w.heap.size w w' := by
  go_enter Tryz.func120, Tryz.ntmps120
  go_wp2_with fail
  refine bodyPost_ret (v := .agg #[.int .i64 6, .int .i64 n, .int .i64 0, .string ⟨#[]⟩, .slice none 0 0, .slice none 0 0, .slice none 0 0]) (by simp [results, Tryz.results120, go_sem]) rfl ⟨rfl, ?_⟩
  repeat' (first | refine Below.setCell ?_ (by first | (simp; done) | (simp; omega) | omega) _ | refine Below.alloc ?_ (by first | (simp; done) | (simp; omega) | omega) _ | exact Below.refl _ _)

set_option maxHeartbeats 800000 in
set_option maxRecDepth 100000 in
theorem content0_any (k : Int) (n s : Int) (t : ByteArray) (A4 A5 A6 : Option Addr) (n4 q4 n5 q5 n6 q6 : Nat) (w : World) (h1 : k ≠ 1) (h2 : k ≠ 2) (h3 : k ≠ 3) (h4 : k ≠ 4) (h5 : k ≠ 5) (h6 : k ≠ 6) : Calls Tryz.prog 24 #[.agg #[.int .i64 k, .int .i64 n, .int .i64 s, .string t, .slice A4 n4 q4, .slice A5 n5 q5, .slice A6 n6 q6]] w fun e w' => e = .returned .nilIface ∧ Below w.heap.size w w' := by
  have b1 : (k == 1) = false := by simp [h1]
  have b2 : (k == 2) = false := by simp [h2]
  have b3 : (k == 3) = false := by simp [h3]
  have b4 : (k == 4) = false := by simp [h4]
  have b5 : (k == 5) = false := by simp [h5]
  have b6 : (k == 6) = false := by simp [h6]
  go_enter Tryz.func24, Tryz.ntmps24
  go_wp2_with fail
  go_ret
  exact ⟨rfl, (Below.refl _ _).alloc (Nat.le_refl _) _⟩

set_option maxHeartbeats 800000 in
set_option maxRecDepth 100000 in
theorem element0_any (w : World) : Calls Tryz.prog 175 #[.nilIface] w fun e w' => e = .returned (.bool false) ∧ Below w.heap.size w w' := by
  have f1 := ta_0_1
  have f2 := ta_0_2
  have f3 := ta_0_3
  go_enter Tryz.func175, Tryz.ntmps175
  go_wp2_with fail
  go_ret
  exact ⟨rfl, Below.refl _ _⟩

def contV (k n s : Int) (t : ByteArray) (A4 A5 A6 : Option Addr) (n4 q4 n5 q5 n6 q6 : Nat) : Value :=
  if k = 1 then (.iface 86 (.agg #[.int .i64 n])) else if k = 2 then (.iface 89 (.agg #[.string t])) else if k = 3 then (.iface 92 (.agg #[.slice A4 n4 q4])) else if k = 4 then (.iface 95 (.agg #[.int .i64 n, .int .i64 s])) else if k = 5 then (.iface 97 (.agg #[.slice A5 n5 q5, .slice A6 n6 q6])) else if k = 6 then (.iface 101 (.agg #[.int .i64 n])) else .nilIface
theorem contV_any (k : Int) (n s : Int) (t : ByteArray) (A4 A5 A6 : Option Addr) (n4 q4 n5 q5 n6 q6 : Nat) (w : World) : Calls Tryz.prog 24 #[.agg #[.int .i64 k, .int .i64 n, .int .i64 s, .string t, .slice A4 n4 q4, .slice A5 n5 q5, .slice A6 n6 q6]] w fun e w' => e = .returned (contV k n s t A4 A5 A6 n4 q4 n5 q5 n6 q6) ∧ Below w.heap.size w w' := by

  by_cases h1 : k = 1
  · subst h1
    have e : contV 1 n s t A4 A5 A6 n4 q4 n5 q5 n6 q6 = (.iface 86 (.agg #[.int .i64 n])) := by simp [contV]
    rw [e]
    exact content1_any n s t A4 A5 A6 n4 q4 n5 q5 n6 q6 w
  by_cases h2 : k = 2
  · subst h2
    have e : contV 2 n s t A4 A5 A6 n4 q4 n5 q5 n6 q6 = (.iface 89 (.agg #[.string t])) := by simp [contV]
    rw [e]
    exact content2_any n s t A4 A5 A6 n4 q4 n5 q5 n6 q6 w
  by_cases h3 : k = 3
  · subst h3
    have e : contV 3 n s t A4 A5 A6 n4 q4 n5 q5 n6 q6 = (.iface 92 (.agg #[.slice A4 n4 q4])) := by simp [contV]
    rw [e]
    exact content3_any n s t A4 A5 A6 n4 q4 n5 q5 n6 q6 w
  by_cases h4 : k = 4
  · subst h4
    have e : contV 4 n s t A4 A5 A6 n4 q4 n5 q5 n6 q6 = (.iface 95 (.agg #[.int .i64 n, .int .i64 s])) := by simp [contV]
    rw [e]
    exact content4_any n s t A4 A5 A6 n4 q4 n5 q5 n6 q6 w
  by_cases h5 : k = 5
  · subst h5
    have e : contV 5 n s t A4 A5 A6 n4 q4 n5 q5 n6 q6 = (.iface 97 (.agg #[.slice A5 n5 q5, .slice A6 n6 q6])) := by simp [contV]
    rw [e]
    exact content5_any n s t A4 A5 A6 n4 q4 n5 q5 n6 q6 w
  by_cases h6 : k = 6
  · subst h6
    have e : contV 6 n s t A4 A5 A6 n4 q4 n5 q5 n6 q6 = (.iface 101 (.agg #[.int .i64 n])) := by simp [contV]
    rw [e]
    exact content6_any n s t A4 A5 A6 n4 q4 n5 q5 n6 q6 w
  have e : contV k n s t A4 A5 A6 n4 q4 n5 q5 n6 q6 = .nilIface := by simp [contV, h1, h2, h3, h4, h5, h6]
  rw [e]
  exact content0_any k n s t A4 A5 A6 n4 q4 n5 q5 n6 q6 w h1 h2 h3 h4 h5 h6
theorem element_any (k : Int) (n s : Int) (t : ByteArray) (A4 A5 A6 : Option Addr) (n4 q4 n5 q5 n6 q6 : Nat) (w : World) : Calls Tryz.prog 175 #[contV k n s t A4 A5 A6 n4 q4 n5 q5 n6 q6] w (EqP (k = 1 ∨ k = 2 ∨ k = 3) w) := by

  by_cases h1 : k = 1
  · subst h1
    have e : contV 1 n s t A4 A5 A6 n4 q4 n5 q5 n6 q6 = (.iface 86 (.agg #[.int .i64 n])) := by simp [contV]
    rw [e]
    exact (element1_any n s t A4 A5 A6 n4 q4 n5 q5 n6 q6 w).mono (EqP.of (by simp))
  by_cases h2 : k = 2
  · subst h2
    have e : contV 2 n s t A4 A5 A6 n4 q4 n5 q5 n6 q6 = (.iface 89 (.agg #[.string t])) := by simp [contV]
    rw [e]
    exact (element2_any n s t A4 A5 A6 n4 q4 n5 q5 n6 q6 w).mono (EqP.of (by simp))
  by_cases h3 : k = 3
  · subst h3
    have e : contV 3 n s t A4 A5 A6 n4 q4 n5 q5 n6 q6 = (.iface 92 (.agg #[.slice A4 n4 q4])) := by simp [contV]
    rw [e]
    exact (element3_any n s t A4 A5 A6 n4 q4 n5 q5 n6 q6 w).mono (EqP.of (by simp))
  by_cases h4 : k = 4
  · subst h4
    have e : contV 4 n s t A4 A5 A6 n4 q4 n5 q5 n6 q6 = (.iface 95 (.agg #[.int .i64 n, .int .i64 s])) := by simp [contV]
    rw [e]
    exact (element4_any n s t A4 A5 A6 n4 q4 n5 q5 n6 q6 w).mono (EqP.of (by simp))
  by_cases h5 : k = 5
  · subst h5
    have e : contV 5 n s t A4 A5 A6 n4 q4 n5 q5 n6 q6 = (.iface 97 (.agg #[.slice A5 n5 q5, .slice A6 n6 q6])) := by simp [contV]
    rw [e]
    exact (element5_any n s t A4 A5 A6 n4 q4 n5 q5 n6 q6 w).mono (EqP.of (by simp))
  by_cases h6 : k = 6
  · subst h6
    have e : contV 6 n s t A4 A5 A6 n4 q4 n5 q5 n6 q6 = (.iface 101 (.agg #[.int .i64 n])) := by simp [contV]
    rw [e]
    exact (element6_any n s t A4 A5 A6 n4 q4 n5 q5 n6 q6 w).mono (EqP.of (by simp))
  have e : contV k n s t A4 A5 A6 n4 q4 n5 q5 n6 q6 = .nilIface := by simp [contV, h1, h2, h3, h4, h5, h6]
  rw [e]
  exact (element0_any w).mono (EqP.of (by simp [h1, h2, h3]))
end Go.Proofs.YtabcmnlmmpbmnaaGreatDoor

/-
  Which values are valid, said plainly, in the model's way and in the program's. (Written by genwithin.py.)
-/

namespace Go.Proofs.YtabcmnlmmpbmnaaGreatDoor
open Go.RowKit
set_option linter.unusedVariables false

def Core (L : Prop) (k n s : Int) (t : ByteArray) (l : List Dt) (cc : List ByteArray) (r : List Dt) : Prop :=
  (k = 1 ∧ NumOk n ∧ s = 0 ∧ t = ⟨#[]⟩ ∧ l = [] ∧ cc = [] ∧ r = []) ∨
  (k = 2 ∧ VT t ∧ n = 0 ∧ s = 0 ∧ l = [] ∧ cc = [] ∧ r = []) ∨
  (k = 3 ∧ L ∧ n = 0 ∧ s = 0 ∧ t = ⟨#[]⟩ ∧ cc = [] ∧ r = []) ∨
  (k = 4 ∧ (NumOk n ∧ NumOk s) ∧ t = ⟨#[]⟩ ∧ l = [] ∧ cc = [] ∧ r = []) ∨
  (k = 5 ∧ TblOk cc r ∧ n = 0 ∧ s = 0 ∧ t = ⟨#[]⟩ ∧ l = []) ∨
  (k = 6 ∧ (1 ≤ n ∧ n ≤ 8) ∧ s = 0 ∧ t = ⟨#[]⟩ ∧ l = [] ∧ cc = [] ∧ r = [])
def isEl : Dt → Prop
  | .agg (.int k :: _) => k = 1 ∨ k = 2 ∨ k = 3
  | _ => False
mutual
def Dt.SV : Dt → Prop
  | .agg [.int k, .int n, .int s, .str t, .lst l, .lst c, .lst r] => ∃ cc : List ByteArray, c = cc.map .str ∧ Core (SVs l ∧ l.length ≤ 8 ∧ 1 + deps l ≤ 3) k n s t l cc r
  | _ => False
def SVs : List Dt → Prop
  | [] => True
  | x :: xs => (isEl x ∧ x.SV) ∧ SVs xs
end
def W : Nat → Dt → Prop
  | 0, _ => False
  | m + 1, d => match d with
    | .agg [.int k, .int n, .int s, .str t, .lst l, .lst c, .lst r] => ∃ cc : List ByteArray, c = cc.map .str ∧ Core (l.length ≤ 8 ∧ (l = [] ∨ 1 ≤ m) ∧ ∀ x ∈ l, isEl x ∧ W m x) k n s t l cc r
    | _ => False
theorem SV_mk (k n s : Int) (t : ByteArray) (l : List Dt) (cc : List ByteArray) (r : List Dt) : Dt.SV (.agg [.int k, .int n, .int s, .str t, .lst l, .lst (cc.map .str), .lst r]) ↔ Core (SVs l ∧ l.length ≤ 8 ∧ 1 + deps l ≤ 3) k n s t l cc r := by
  simp only [Dt.SV]
  constructor
  · rintro ⟨cc', e, h⟩
    rwa [strs_inj e]
  · intro h
    exact ⟨cc, rfl, h⟩
theorem W_mk (m : Nat) (k n s : Int) (t : ByteArray) (l : List Dt) (cc : List ByteArray) (r : List Dt) : W (m + 1) (.agg [.int k, .int n, .int s, .str t, .lst l, .lst (cc.map .str), .lst r]) ↔ Core (l.length ≤ 8 ∧ (l = [] ∨ 1 ≤ m) ∧ ∀ x ∈ l, isEl x ∧ W m x) k n s t l cc r := by
  simp only [W]
  constructor
  · rintro ⟨cc', e, h⟩
    rwa [strs_inj e]
  · intro h
    exact ⟨cc, rfl, h⟩
theorem SVs_all : ∀ l : List Dt, SVs l ↔ ∀ x ∈ l, isEl x ∧ x.SV
  | [] => by simp [SVs]
  | x :: xs => by simp [SVs, SVs_all xs]
theorem deps_le : ∀ (l : List Dt) (m : Nat), deps l ≤ m ↔ ∀ x ∈ l, x.dep ≤ m
  | [], m => by simp [deps]
  | x :: xs, m => by
    have := deps_le xs m
    simp only [deps, List.mem_cons, forall_eq_or_imp]
    rw [← this]
    omega
theorem dep_pos {d : Dt} (h : IsVal d) : 1 ≤ d.dep := by cases h; rw [dep_mk]; omega
theorem Core_imp {L L' : Prop} {k n s : Int} {t : ByteArray} {l : List Dt} {cc : List ByteArray} {r : List Dt} (hL : k = 3 → L → L') (h : Core L k n s t l cc r) : Core L' k n s t l cc r := by
  rcases h with h | h | h | h | h | h
  · exact .inl h
  · exact .inr (.inl h)
  · exact .inr (.inr (.inl ⟨h.1, hL h.1 h.2.1, h.2.2⟩))
  · exact .inr (.inr (.inr (.inl h)))
  · exact .inr (.inr (.inr (.inr (.inl h))))
  · exact .inr (.inr (.inr (.inr (.inr h))))
theorem Core_flat {L : Prop} {k n s : Int} {t : ByteArray} {l : List Dt} {cc : List ByteArray} {r : List Dt} (h : Core L k n s t l cc r) : (k = 3 ∧ L) ∨ l = [] := by
  rcases h with h | h | h | h | h | h
  · exact .inr h.2.2.2.2.1
  · exact .inr h.2.2.2.2.1
  · exact .inl ⟨h.1, h.2.1⟩
  · exact .inr h.2.2.2.1
  · exact .inr h.2.2.2.2.2
  · exact .inr h.2.2.2.2.1
theorem W_iff : ∀ (m : Nat), m ≤ 3 → ∀ d, IsVal d → (W m d ↔ d.SV ∧ d.dep ≤ m)
  | 0, _, d, hd => by
    have := dep_pos hd
    simp only [W, false_iff]
    intro h
    omega
  | m + 1, hm, d, hd => by
    cases hd with
    | mk k n s t l cc r hl hr =>
    rw [W_mk, SV_mk, dep_mk]
    have ih : ∀ x ∈ l, (W m x ↔ x.SV ∧ x.dep ≤ m) := fun x hx => W_iff m (by omega) x (hl x hx)
    constructor
    · intro h
      have hd : 1 + deps l ≤ m + 1 := by
        rcases Core_flat h with ⟨_, h1⟩ | h1
        · have := (deps_le l m).2 fun x hx => ((ih x hx).1 (h1.2.2 x hx).2).2
          omega
        · subst h1; simp [deps]
      exact ⟨Core_imp (fun _ h1 => ⟨(SVs_all l).2 fun x hx => ⟨(h1.2.2 x hx).1, ((ih x hx).1 (h1.2.2 x hx).2).1⟩, h1.1, by omega⟩) h, hd⟩
    · rintro ⟨h, hd⟩
      refine Core_imp (fun _ h1 => ⟨h1.2.1, ?_, fun x hx => ⟨((SVs_all l).1 h1.1 x hx).1, (ih x hx).2 ⟨((SVs_all l).1 h1.1 x hx).2, (deps_le l m).1 (by omega) x hx⟩⟩⟩) h
      cases l with
      | nil => exact .inl rfl
      | cons x xs =>
        have h2 := (deps_le (x :: xs) m).1 (by omega) x (by simp)
        have h3 := dep_pos (hl x (by simp))
        exact .inr (by omega)
theorem W3_iff {d : Dt} (hd : IsVal d) : W 3 d ↔ d.SV := by
  rw [W_iff 3 (Nat.le_refl _) d hd]
  refine ⟨fun h => h.1, fun h => ⟨h, ?_⟩⟩
  cases hd with
  | mk k n s t l cc r hl hr =>
  rw [SV_mk] at h
  rw [dep_mk]
  rcases Core_flat h with ⟨_, h1⟩ | h1
  · exact h1.2.2
  · subst h1; simp [deps]
end Go.Proofs.YtabcmnlmmpbmnaaGreatDoor
