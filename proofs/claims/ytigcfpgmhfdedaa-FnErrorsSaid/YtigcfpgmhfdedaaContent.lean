/-
  What a value consists of, by its kind: the program's contentOf, isElement, and each content's value. (Written by genvalok.py.)
-/
import Derived.Test.YtigcfpgmhfdedaaTabOk
namespace Go.Proofs.Ytigcfpgmhfdedaa
open Go.RowKit
set_option linter.unusedVariables false

theorem ta_1_1 (v : Value) (w : World) : (Instr.typeAssert (.iface 112 v) 99 112 true).run Try.prog w = .ok (.tuple #[v, .bool true]) w := by kernel_rfl
theorem ta_1_2 (v : Value) (w : World) : (Instr.typeAssert (.iface 112 v) 99 114 true).run Try.prog w = .ok (.tuple #[.agg #[.string ⟨#[]⟩], .bool false]) w := by kernel_rfl
theorem ta_1_3 (v : Value) (w : World) : (Instr.typeAssert (.iface 112 v) 99 56 true).run Try.prog w = .ok (.tuple #[.agg #[.slice none 0 0], .bool false]) w := by kernel_rfl
theorem ta_1_4 (v : Value) (w : World) : (Instr.typeAssert (.iface 112 v) 99 116 true).run Try.prog w = .ok (.tuple #[.agg #[.int .i64 0, .int .i64 0], .bool false]) w := by kernel_rfl
theorem ta_1_5 (v : Value) (w : World) : (Instr.typeAssert (.iface 112 v) 99 118 true).run Try.prog w = .ok (.tuple #[.agg #[.slice none 0 0, .slice none 0 0], .bool false]) w := by kernel_rfl
theorem ta_1_6 (v : Value) (w : World) : (Instr.typeAssert (.iface 112 v) 99 77 true).run Try.prog w = .ok (.tuple #[.agg #[.int .i64 0], .bool false]) w := by kernel_rfl
theorem ta_2_1 (v : Value) (w : World) : (Instr.typeAssert (.iface 114 v) 99 112 true).run Try.prog w = .ok (.tuple #[.agg #[.int .i64 0], .bool false]) w := by kernel_rfl
theorem ta_2_2 (v : Value) (w : World) : (Instr.typeAssert (.iface 114 v) 99 114 true).run Try.prog w = .ok (.tuple #[v, .bool true]) w := by kernel_rfl
theorem ta_2_3 (v : Value) (w : World) : (Instr.typeAssert (.iface 114 v) 99 56 true).run Try.prog w = .ok (.tuple #[.agg #[.slice none 0 0], .bool false]) w := by kernel_rfl
theorem ta_2_4 (v : Value) (w : World) : (Instr.typeAssert (.iface 114 v) 99 116 true).run Try.prog w = .ok (.tuple #[.agg #[.int .i64 0, .int .i64 0], .bool false]) w := by kernel_rfl
theorem ta_2_5 (v : Value) (w : World) : (Instr.typeAssert (.iface 114 v) 99 118 true).run Try.prog w = .ok (.tuple #[.agg #[.slice none 0 0, .slice none 0 0], .bool false]) w := by kernel_rfl
theorem ta_2_6 (v : Value) (w : World) : (Instr.typeAssert (.iface 114 v) 99 77 true).run Try.prog w = .ok (.tuple #[.agg #[.int .i64 0], .bool false]) w := by kernel_rfl
theorem ta_3_1 (v : Value) (w : World) : (Instr.typeAssert (.iface 56 v) 99 112 true).run Try.prog w = .ok (.tuple #[.agg #[.int .i64 0], .bool false]) w := by kernel_rfl
theorem ta_3_2 (v : Value) (w : World) : (Instr.typeAssert (.iface 56 v) 99 114 true).run Try.prog w = .ok (.tuple #[.agg #[.string ⟨#[]⟩], .bool false]) w := by kernel_rfl
theorem ta_3_3 (v : Value) (w : World) : (Instr.typeAssert (.iface 56 v) 99 56 true).run Try.prog w = .ok (.tuple #[v, .bool true]) w := by kernel_rfl
theorem ta_3_4 (v : Value) (w : World) : (Instr.typeAssert (.iface 56 v) 99 116 true).run Try.prog w = .ok (.tuple #[.agg #[.int .i64 0, .int .i64 0], .bool false]) w := by kernel_rfl
theorem ta_3_5 (v : Value) (w : World) : (Instr.typeAssert (.iface 56 v) 99 118 true).run Try.prog w = .ok (.tuple #[.agg #[.slice none 0 0, .slice none 0 0], .bool false]) w := by kernel_rfl
theorem ta_3_6 (v : Value) (w : World) : (Instr.typeAssert (.iface 56 v) 99 77 true).run Try.prog w = .ok (.tuple #[.agg #[.int .i64 0], .bool false]) w := by kernel_rfl
theorem ta_4_1 (v : Value) (w : World) : (Instr.typeAssert (.iface 116 v) 99 112 true).run Try.prog w = .ok (.tuple #[.agg #[.int .i64 0], .bool false]) w := by kernel_rfl
theorem ta_4_2 (v : Value) (w : World) : (Instr.typeAssert (.iface 116 v) 99 114 true).run Try.prog w = .ok (.tuple #[.agg #[.string ⟨#[]⟩], .bool false]) w := by kernel_rfl
theorem ta_4_3 (v : Value) (w : World) : (Instr.typeAssert (.iface 116 v) 99 56 true).run Try.prog w = .ok (.tuple #[.agg #[.slice none 0 0], .bool false]) w := by kernel_rfl
theorem ta_4_4 (v : Value) (w : World) : (Instr.typeAssert (.iface 116 v) 99 116 true).run Try.prog w = .ok (.tuple #[v, .bool true]) w := by kernel_rfl
theorem ta_4_5 (v : Value) (w : World) : (Instr.typeAssert (.iface 116 v) 99 118 true).run Try.prog w = .ok (.tuple #[.agg #[.slice none 0 0, .slice none 0 0], .bool false]) w := by kernel_rfl
theorem ta_4_6 (v : Value) (w : World) : (Instr.typeAssert (.iface 116 v) 99 77 true).run Try.prog w = .ok (.tuple #[.agg #[.int .i64 0], .bool false]) w := by kernel_rfl
theorem ta_5_1 (v : Value) (w : World) : (Instr.typeAssert (.iface 118 v) 99 112 true).run Try.prog w = .ok (.tuple #[.agg #[.int .i64 0], .bool false]) w := by kernel_rfl
theorem ta_5_2 (v : Value) (w : World) : (Instr.typeAssert (.iface 118 v) 99 114 true).run Try.prog w = .ok (.tuple #[.agg #[.string ⟨#[]⟩], .bool false]) w := by kernel_rfl
theorem ta_5_3 (v : Value) (w : World) : (Instr.typeAssert (.iface 118 v) 99 56 true).run Try.prog w = .ok (.tuple #[.agg #[.slice none 0 0], .bool false]) w := by kernel_rfl
theorem ta_5_4 (v : Value) (w : World) : (Instr.typeAssert (.iface 118 v) 99 116 true).run Try.prog w = .ok (.tuple #[.agg #[.int .i64 0, .int .i64 0], .bool false]) w := by kernel_rfl
theorem ta_5_5 (v : Value) (w : World) : (Instr.typeAssert (.iface 118 v) 99 118 true).run Try.prog w = .ok (.tuple #[v, .bool true]) w := by kernel_rfl
theorem ta_5_6 (v : Value) (w : World) : (Instr.typeAssert (.iface 118 v) 99 77 true).run Try.prog w = .ok (.tuple #[.agg #[.int .i64 0], .bool false]) w := by kernel_rfl
theorem ta_6_1 (v : Value) (w : World) : (Instr.typeAssert (.iface 77 v) 99 112 true).run Try.prog w = .ok (.tuple #[.agg #[.int .i64 0], .bool false]) w := by kernel_rfl
theorem ta_6_2 (v : Value) (w : World) : (Instr.typeAssert (.iface 77 v) 99 114 true).run Try.prog w = .ok (.tuple #[.agg #[.string ⟨#[]⟩], .bool false]) w := by kernel_rfl
theorem ta_6_3 (v : Value) (w : World) : (Instr.typeAssert (.iface 77 v) 99 56 true).run Try.prog w = .ok (.tuple #[.agg #[.slice none 0 0], .bool false]) w := by kernel_rfl
theorem ta_6_4 (v : Value) (w : World) : (Instr.typeAssert (.iface 77 v) 99 116 true).run Try.prog w = .ok (.tuple #[.agg #[.int .i64 0, .int .i64 0], .bool false]) w := by kernel_rfl
theorem ta_6_5 (v : Value) (w : World) : (Instr.typeAssert (.iface 77 v) 99 118 true).run Try.prog w = .ok (.tuple #[.agg #[.slice none 0 0, .slice none 0 0], .bool false]) w := by kernel_rfl
theorem ta_6_6 (v : Value) (w : World) : (Instr.typeAssert (.iface 77 v) 99 77 true).run Try.prog w = .ok (.tuple #[v, .bool true]) w := by kernel_rfl
theorem ta_0_1 (w : World) : (Instr.typeAssert .nilIface 99 112 true).run Try.prog w = .ok (.tuple #[.agg #[.int .i64 0], .bool false]) w := by kernel_rfl
theorem ta_0_2 (w : World) : (Instr.typeAssert .nilIface 99 114 true).run Try.prog w = .ok (.tuple #[.agg #[.string ⟨#[]⟩], .bool false]) w := by kernel_rfl
theorem ta_0_3 (w : World) : (Instr.typeAssert .nilIface 99 56 true).run Try.prog w = .ok (.tuple #[.agg #[.slice none 0 0], .bool false]) w := by kernel_rfl
theorem ta_0_4 (w : World) : (Instr.typeAssert .nilIface 99 116 true).run Try.prog w = .ok (.tuple #[.agg #[.int .i64 0, .int .i64 0], .bool false]) w := by kernel_rfl
theorem ta_0_5 (w : World) : (Instr.typeAssert .nilIface 99 118 true).run Try.prog w = .ok (.tuple #[.agg #[.slice none 0 0, .slice none 0 0], .bool false]) w := by kernel_rfl
theorem ta_0_6 (w : World) : (Instr.typeAssert .nilIface 99 77 true).run Try.prog w = .ok (.tuple #[.agg #[.int .i64 0], .bool false]) w := by kernel_rfl

set_option maxHeartbeats 800000 in
set_option maxRecDepth 100000 in
theorem content1_any (n s : Int) (t : ByteArray) (A4 A5 A6 : Option Addr) (n4 q4 n5 q5 n6 q6 : Nat) (w : World) : Calls Try.prog 79 #[.agg #[.int .i64 1, .int .i64 n, .int .i64 s, .string t, .slice A4 n4 q4, .slice A5 n5 q5, .slice A6 n6 q6]] w fun e w' => e = .returned (.iface 112 (.agg #[.int .i64 n])) ∧ Below w.heap.size w w' := by
  go_enter Try.func79, Try.ntmps79
  go_wp2_with fail
  go_ret
  exact ⟨rfl, (Below.refl _ _).alloc (Nat.le_refl _) _⟩

set_option maxHeartbeats 800000 in
set_option maxRecDepth 100000 in
theorem element1_any (n s : Int) (t : ByteArray) (A4 A5 A6 : Option Addr) (n4 q4 n5 q5 n6 q6 : Nat) (w : World) : Calls Try.prog 112 #[(.iface 112 (.agg #[.int .i64 n]))] w fun e w' => e = .returned (.bool true) ∧ Below w.heap.size w w' := by
  have f1 := ta_1_1
  have f2 := ta_1_2
  have f3 := ta_1_3
  go_enter Try.func112, Try.ntmps112
  go_wp2_with fail
  go_ret
  exact ⟨rfl, Below.refl _ _⟩


set_option maxHeartbeats 800000 in
set_option maxRecDepth 100000 in
theorem value1_any (n s : Int) (t : ByteArray) (A4 A5 A6 : Option Addr) (n4 q4 n5 q5 n6 q6 : Nat) (w : World) : Calls Try.prog 167 #[.agg #[.int .i64 n]] w fun e w' => e = .returned (.agg #[.int .i64 1, .int .i64 n, .int .i64 0, .string ⟨#[]⟩, .slice none 0 0, .slice none 0 0, .slice none 0 0]) ∧ Below w.heap.size w w' := by
  go_enter Try.func167, Try.ntmps167
  go_wp2_with fail
  refine bodyPost_ret (v := .agg #[.int .i64 1, .int .i64 n, .int .i64 0, .string ⟨#[]⟩, .slice none 0 0, .slice none 0 0, .slice none 0 0]) (by simp [results, Try.results167, go_sem]) rfl ⟨rfl, ?_⟩
  repeat' (first | refine Below.setCell ?_ (by first | (simp; done) | (simp; omega) | omega) _ | refine Below.alloc ?_ (by first | (simp; done) | (simp; omega) | omega) _ | exact Below.refl _ _)


set_option maxHeartbeats 800000 in
set_option maxRecDepth 100000 in
theorem content2_any (n s : Int) (t : ByteArray) (A4 A5 A6 : Option Addr) (n4 q4 n5 q5 n6 q6 : Nat) (w : World) : Calls Try.prog 79 #[.agg #[.int .i64 2, .int .i64 n, .int .i64 s, .string t, .slice A4 n4 q4, .slice A5 n5 q5, .slice A6 n6 q6]] w fun e w' => e = .returned (.iface 114 (.agg #[.string t])) ∧ Below w.heap.size w w' := by
  go_enter Try.func79, Try.ntmps79
  go_wp2_with fail
  go_ret
  exact ⟨rfl, (Below.refl _ _).alloc (Nat.le_refl _) _⟩

set_option maxHeartbeats 800000 in
set_option maxRecDepth 100000 in
theorem element2_any (n s : Int) (t : ByteArray) (A4 A5 A6 : Option Addr) (n4 q4 n5 q5 n6 q6 : Nat) (w : World) : Calls Try.prog 112 #[(.iface 114 (.agg #[.string t]))] w fun e w' => e = .returned (.bool true) ∧ Below w.heap.size w w' := by
  have f1 := ta_2_1
  have f2 := ta_2_2
  have f3 := ta_2_3
  go_enter Try.func112, Try.ntmps112
  go_wp2_with fail
  go_ret
  exact ⟨rfl, Below.refl _ _⟩


set_option maxHeartbeats 800000 in
set_option maxRecDepth 100000 in
theorem value2_any (n s : Int) (t : ByteArray) (A4 A5 A6 : Option Addr) (n4 q4 n5 q5 n6 q6 : Nat) (w : World) : Calls Try.prog 168 #[.agg #[.string t]] w fun e w' => e = .returned (.agg #[.int .i64 2, .int .i64 0, .int .i64 0, .string t, .slice none 0 0, .slice none 0 0, .slice none 0 0]) ∧ Below w.heap.size w w' := by
  go_enter Try.func168, Try.ntmps168
  go_wp2_with fail
  refine bodyPost_ret (v := .agg #[.int .i64 2, .int .i64 0, .int .i64 0, .string t, .slice none 0 0, .slice none 0 0, .slice none 0 0]) (by simp [results, Try.results168, go_sem]) rfl ⟨rfl, ?_⟩
  repeat' (first | refine Below.setCell ?_ (by first | (simp; done) | (simp; omega) | omega) _ | refine Below.alloc ?_ (by first | (simp; done) | (simp; omega) | omega) _ | exact Below.refl _ _)


set_option maxHeartbeats 800000 in
set_option maxRecDepth 100000 in
theorem content3_any (n s : Int) (t : ByteArray) (A4 A5 A6 : Option Addr) (n4 q4 n5 q5 n6 q6 : Nat) (w : World) : Calls Try.prog 79 #[.agg #[.int .i64 3, .int .i64 n, .int .i64 s, .string t, .slice A4 n4 q4, .slice A5 n5 q5, .slice A6 n6 q6]] w fun e w' => e = .returned (.iface 56 (.agg #[.slice A4 n4 q4])) ∧ Below w.heap.size w w' := by
  go_enter Try.func79, Try.ntmps79
  go_wp2_with fail
  go_ret
  exact ⟨rfl, (Below.refl _ _).alloc (Nat.le_refl _) _⟩

set_option maxHeartbeats 800000 in
set_option maxRecDepth 100000 in
theorem element3_any (n s : Int) (t : ByteArray) (A4 A5 A6 : Option Addr) (n4 q4 n5 q5 n6 q6 : Nat) (w : World) : Calls Try.prog 112 #[(.iface 56 (.agg #[.slice A4 n4 q4]))] w fun e w' => e = .returned (.bool true) ∧ Below w.heap.size w w' := by
  have f1 := ta_3_1
  have f2 := ta_3_2
  have f3 := ta_3_3
  go_enter Try.func112, Try.ntmps112
  go_wp2_with fail
  go_ret
  exact ⟨rfl, Below.refl _ _⟩


set_option maxHeartbeats 800000 in
set_option maxRecDepth 100000 in
theorem value3_any (n s : Int) (t : ByteArray) (A4 A5 A6 : Option Addr) (n4 q4 n5 q5 n6 q6 : Nat) (w : World) : Calls Try.prog 34 #[.agg #[.slice A4 n4 q4]] w fun e w' => e = .returned (.agg #[.int .i64 3, .int .i64 0, .int .i64 0, .string ⟨#[]⟩, .slice A4 n4 q4, .slice none 0 0, .slice none 0 0]) ∧ Below w.heap.size w w' := by
  go_enter Try.func34, Try.ntmps34
  go_wp2_with fail
  refine bodyPost_ret (v := .agg #[.int .i64 3, .int .i64 0, .int .i64 0, .string ⟨#[]⟩, .slice A4 n4 q4, .slice none 0 0, .slice none 0 0]) (by simp [results, Try.results34, go_sem]) rfl ⟨rfl, ?_⟩
  repeat' (first | refine Below.setCell ?_ (by first | (simp; done) | (simp; omega) | omega) _ | refine Below.alloc ?_ (by first | (simp; done) | (simp; omega) | omega) _ | exact Below.refl _ _)


set_option maxHeartbeats 800000 in
set_option maxRecDepth 100000 in
theorem content4_any (n s : Int) (t : ByteArray) (A4 A5 A6 : Option Addr) (n4 q4 n5 q5 n6 q6 : Nat) (w : World) : Calls Try.prog 79 #[.agg #[.int .i64 4, .int .i64 n, .int .i64 s, .string t, .slice A4 n4 q4, .slice A5 n5 q5, .slice A6 n6 q6]] w fun e w' => e = .returned (.iface 116 (.agg #[.int .i64 n, .int .i64 s])) ∧ Below w.heap.size w w' := by
  go_enter Try.func79, Try.ntmps79
  go_wp2_with fail
  go_ret
  exact ⟨rfl, (Below.refl _ _).alloc (Nat.le_refl _) _⟩

set_option maxHeartbeats 800000 in
set_option maxRecDepth 100000 in
theorem element4_any (n s : Int) (t : ByteArray) (A4 A5 A6 : Option Addr) (n4 q4 n5 q5 n6 q6 : Nat) (w : World) : Calls Try.prog 112 #[(.iface 116 (.agg #[.int .i64 n, .int .i64 s]))] w fun e w' => e = .returned (.bool false) ∧ Below w.heap.size w w' := by
  have f1 := ta_4_1
  have f2 := ta_4_2
  have f3 := ta_4_3
  go_enter Try.func112, Try.ntmps112
  go_wp2_with fail
  go_ret
  exact ⟨rfl, Below.refl _ _⟩


set_option maxHeartbeats 800000 in
set_option maxRecDepth 100000 in
theorem value4_any (n s : Int) (t : ByteArray) (A4 A5 A6 : Option Addr) (n4 q4 n5 q5 n6 q6 : Nat) (w : World) : Calls Try.prog 169 #[.agg #[.int .i64 n, .int .i64 s]] w fun e w' => e = .returned (.agg #[.int .i64 4, .int .i64 n, .int .i64 s, .string ⟨#[]⟩, .slice none 0 0, .slice none 0 0, .slice none 0 0]) ∧ Below w.heap.size w w' := by
  go_enter Try.func169, Try.ntmps169
  go_wp2_with fail
  refine bodyPost_ret (v := .agg #[.int .i64 4, .int .i64 n, .int .i64 s, .string ⟨#[]⟩, .slice none 0 0, .slice none 0 0, .slice none 0 0]) (by simp [results, Try.results169, go_sem]) rfl ⟨rfl, ?_⟩
  repeat' (first | refine Below.setCell ?_ (by first | (simp; done) | (simp; omega) | omega) _ | refine Below.alloc ?_ (by first | (simp; done) | (simp; omega) | omega) _ | exact Below.refl _ _)


set_option maxHeartbeats 800000 in
set_option maxRecDepth 100000 in
theorem content5_any (n s : Int) (t : ByteArray) (A4 A5 A6 : Option Addr) (n4 q4 n5 q5 n6 q6 : Nat) (w : World) : Calls Try.prog 79 #[.agg #[.int .i64 5, .int .i64 n, .int .i64 s, .string t, .slice A4 n4 q4, .slice A5 n5 q5, .slice A6 n6 q6]] w fun e w' => e = .returned (.iface 118 (.agg #[.slice A5 n5 q5, .slice A6 n6 q6])) ∧ Below w.heap.size w w' := by
  go_enter Try.func79, Try.ntmps79
  go_wp2_with fail
  go_ret
  exact ⟨rfl, (Below.refl _ _).alloc (Nat.le_refl _) _⟩

set_option maxHeartbeats 800000 in
set_option maxRecDepth 100000 in
theorem element5_any (n s : Int) (t : ByteArray) (A4 A5 A6 : Option Addr) (n4 q4 n5 q5 n6 q6 : Nat) (w : World) : Calls Try.prog 112 #[(.iface 118 (.agg #[.slice A5 n5 q5, .slice A6 n6 q6]))] w fun e w' => e = .returned (.bool false) ∧ Below w.heap.size w w' := by
  have f1 := ta_5_1
  have f2 := ta_5_2
  have f3 := ta_5_3
  go_enter Try.func112, Try.ntmps112
  go_wp2_with fail
  go_ret
  exact ⟨rfl, Below.refl _ _⟩


set_option maxHeartbeats 800000 in
set_option maxRecDepth 100000 in
theorem value5_any (n s : Int) (t : ByteArray) (A4 A5 A6 : Option Addr) (n4 q4 n5 q5 n6 q6 : Nat) (w : World) : Calls Try.prog 170 #[.agg #[.slice A5 n5 q5, .slice A6 n6 q6]] w fun e w' => e = .returned (.agg #[.int .i64 5, .int .i64 0, .int .i64 0, .string ⟨#[]⟩, .slice none 0 0, .slice A5 n5 q5, .slice A6 n6 q6]) ∧ Below w.heap.size w w' := by
  go_enter Try.func170, Try.ntmps170
  go_wp2_with fail
  refine bodyPost_ret (v := .agg #[.int .i64 5, .int .i64 0, .int .i64 0, .string ⟨#[]⟩, .slice none 0 0, .slice A5 n5 q5, .slice A6 n6 q6]) (by simp [results, Try.results170, go_sem]) rfl ⟨rfl, ?_⟩
  repeat' (first | refine Below.setCell ?_ (by first | (simp; done) | (simp; omega) | omega) _ | refine Below.alloc ?_ (by first | (simp; done) | (simp; omega) | omega) _ | exact Below.refl _ _)


set_option maxHeartbeats 800000 in
set_option maxRecDepth 100000 in
theorem content6_any (n s : Int) (t : ByteArray) (A4 A5 A6 : Option Addr) (n4 q4 n5 q5 n6 q6 : Nat) (w : World) : Calls Try.prog 79 #[.agg #[.int .i64 6, .int .i64 n, .int .i64 s, .string t, .slice A4 n4 q4, .slice A5 n5 q5, .slice A6 n6 q6]] w fun e w' => e = .returned (.iface 77 (.agg #[.int .i64 n])) ∧ Below w.heap.size w w' := by
  go_enter Try.func79, Try.ntmps79
  go_wp2_with fail
  go_ret
  exact ⟨rfl, (Below.refl _ _).alloc (Nat.le_refl _) _⟩

set_option maxHeartbeats 800000 in
set_option maxRecDepth 100000 in
theorem element6_any (n s : Int) (t : ByteArray) (A4 A5 A6 : Option Addr) (n4 q4 n5 q5 n6 q6 : Nat) (w : World) : Calls Try.prog 112 #[(.iface 77 (.agg #[.int .i64 n]))] w fun e w' => e = .returned (.bool false) ∧ Below w.heap.size w w' := by
  have f1 := ta_6_1
  have f2 := ta_6_2
  have f3 := ta_6_3
  go_enter Try.func112, Try.ntmps112
  go_wp2_with fail
  go_ret
  exact ⟨rfl, Below.refl _ _⟩


set_option maxHeartbeats 800000 in
set_option maxRecDepth 100000 in
theorem value6_any (n s : Int) (t : ByteArray) (A4 A5 A6 : Option Addr) (n4 q4 n5 q5 n6 q6 : Nat) (w : World) : Calls Try.prog 53 #[.agg #[.int .i64 n]] w fun e w' => e = .returned (.agg #[.int .i64 6, .int .i64 n, .int .i64 0, .string ⟨#[]⟩, .slice none 0 0, .slice none 0 0, .slice none 0 0]) ∧ Below w.heap.size w w' := by
  go_enter Try.func53, Try.ntmps53
  go_wp2_with fail
  refine bodyPost_ret (v := .agg #[.int .i64 6, .int .i64 n, .int .i64 0, .string ⟨#[]⟩, .slice none 0 0, .slice none 0 0, .slice none 0 0]) (by simp [results, Try.results53, go_sem]) rfl ⟨rfl, ?_⟩
  repeat' (first | refine Below.setCell ?_ (by first | (simp; done) | (simp; omega) | omega) _ | refine Below.alloc ?_ (by first | (simp; done) | (simp; omega) | omega) _ | exact Below.refl _ _)


set_option maxHeartbeats 800000 in
set_option maxRecDepth 100000 in
theorem content0_any (k : Int) (n s : Int) (t : ByteArray) (A4 A5 A6 : Option Addr) (n4 q4 n5 q5 n6 q6 : Nat) (w : World) (h1 : k ≠ 1) (h2 : k ≠ 2) (h3 : k ≠ 3) (h4 : k ≠ 4) (h5 : k ≠ 5) (h6 : k ≠ 6) : Calls Try.prog 79 #[.agg #[.int .i64 k, .int .i64 n, .int .i64 s, .string t, .slice A4 n4 q4, .slice A5 n5 q5, .slice A6 n6 q6]] w fun e w' => e = .returned .nilIface ∧ Below w.heap.size w w' := by
  have b1 : (k == 1) = false := by simp [h1]
  have b2 : (k == 2) = false := by simp [h2]
  have b3 : (k == 3) = false := by simp [h3]
  have b4 : (k == 4) = false := by simp [h4]
  have b5 : (k == 5) = false := by simp [h5]
  have b6 : (k == 6) = false := by simp [h6]
  go_enter Try.func79, Try.ntmps79
  go_wp2_with fail
  go_ret
  exact ⟨rfl, (Below.refl _ _).alloc (Nat.le_refl _) _⟩

set_option maxHeartbeats 800000 in
set_option maxRecDepth 100000 in
theorem element0_any (w : World) : Calls Try.prog 112 #[.nilIface] w fun e w' => e = .returned (.bool false) ∧ Below w.heap.size w w' := by
  have f1 := ta_0_1
  have f2 := ta_0_2
  have f3 := ta_0_3
  go_enter Try.func112, Try.ntmps112
  go_wp2_with fail
  go_ret
  exact ⟨rfl, Below.refl _ _⟩


def contV (k n s : Int) (t : ByteArray) (A4 A5 A6 : Option Addr) (n4 q4 n5 q5 n6 q6 : Nat) : Value :=
  if k = 1 then (.iface 112 (.agg #[.int .i64 n])) else if k = 2 then (.iface 114 (.agg #[.string t])) else if k = 3 then (.iface 56 (.agg #[.slice A4 n4 q4])) else if k = 4 then (.iface 116 (.agg #[.int .i64 n, .int .i64 s])) else if k = 5 then (.iface 118 (.agg #[.slice A5 n5 q5, .slice A6 n6 q6])) else if k = 6 then (.iface 77 (.agg #[.int .i64 n])) else .nilIface
theorem contV_any (k : Int) (n s : Int) (t : ByteArray) (A4 A5 A6 : Option Addr) (n4 q4 n5 q5 n6 q6 : Nat) (w : World) : Calls Try.prog 79 #[.agg #[.int .i64 k, .int .i64 n, .int .i64 s, .string t, .slice A4 n4 q4, .slice A5 n5 q5, .slice A6 n6 q6]] w fun e w' => e = .returned (contV k n s t A4 A5 A6 n4 q4 n5 q5 n6 q6) ∧ Below w.heap.size w w' := by

  by_cases h1 : k = 1
  · subst h1
    have e : contV 1 n s t A4 A5 A6 n4 q4 n5 q5 n6 q6 = (.iface 112 (.agg #[.int .i64 n])) := by simp [contV]
    rw [e]
    exact content1_any n s t A4 A5 A6 n4 q4 n5 q5 n6 q6 w
  by_cases h2 : k = 2
  · subst h2
    have e : contV 2 n s t A4 A5 A6 n4 q4 n5 q5 n6 q6 = (.iface 114 (.agg #[.string t])) := by simp [contV]
    rw [e]
    exact content2_any n s t A4 A5 A6 n4 q4 n5 q5 n6 q6 w
  by_cases h3 : k = 3
  · subst h3
    have e : contV 3 n s t A4 A5 A6 n4 q4 n5 q5 n6 q6 = (.iface 56 (.agg #[.slice A4 n4 q4])) := by simp [contV]
    rw [e]
    exact content3_any n s t A4 A5 A6 n4 q4 n5 q5 n6 q6 w
  by_cases h4 : k = 4
  · subst h4
    have e : contV 4 n s t A4 A5 A6 n4 q4 n5 q5 n6 q6 = (.iface 116 (.agg #[.int .i64 n, .int .i64 s])) := by simp [contV]
    rw [e]
    exact content4_any n s t A4 A5 A6 n4 q4 n5 q5 n6 q6 w
  by_cases h5 : k = 5
  · subst h5
    have e : contV 5 n s t A4 A5 A6 n4 q4 n5 q5 n6 q6 = (.iface 118 (.agg #[.slice A5 n5 q5, .slice A6 n6 q6])) := by simp [contV]
    rw [e]
    exact content5_any n s t A4 A5 A6 n4 q4 n5 q5 n6 q6 w
  by_cases h6 : k = 6
  · subst h6
    have e : contV 6 n s t A4 A5 A6 n4 q4 n5 q5 n6 q6 = (.iface 77 (.agg #[.int .i64 n])) := by simp [contV]
    rw [e]
    exact content6_any n s t A4 A5 A6 n4 q4 n5 q5 n6 q6 w
  have e : contV k n s t A4 A5 A6 n4 q4 n5 q5 n6 q6 = .nilIface := by simp [contV, h1, h2, h3, h4, h5, h6]
  rw [e]
  exact content0_any k n s t A4 A5 A6 n4 q4 n5 q5 n6 q6 w h1 h2 h3 h4 h5 h6
theorem element_any (k : Int) (n s : Int) (t : ByteArray) (A4 A5 A6 : Option Addr) (n4 q4 n5 q5 n6 q6 : Nat) (w : World) : Calls Try.prog 112 #[contV k n s t A4 A5 A6 n4 q4 n5 q5 n6 q6] w (EqP (k = 1 ∨ k = 2 ∨ k = 3) w) := by

  by_cases h1 : k = 1
  · subst h1
    have e : contV 1 n s t A4 A5 A6 n4 q4 n5 q5 n6 q6 = (.iface 112 (.agg #[.int .i64 n])) := by simp [contV]
    rw [e]
    exact (element1_any n s t A4 A5 A6 n4 q4 n5 q5 n6 q6 w).mono (EqP.of (by simp))
  by_cases h2 : k = 2
  · subst h2
    have e : contV 2 n s t A4 A5 A6 n4 q4 n5 q5 n6 q6 = (.iface 114 (.agg #[.string t])) := by simp [contV]
    rw [e]
    exact (element2_any n s t A4 A5 A6 n4 q4 n5 q5 n6 q6 w).mono (EqP.of (by simp))
  by_cases h3 : k = 3
  · subst h3
    have e : contV 3 n s t A4 A5 A6 n4 q4 n5 q5 n6 q6 = (.iface 56 (.agg #[.slice A4 n4 q4])) := by simp [contV]
    rw [e]
    exact (element3_any n s t A4 A5 A6 n4 q4 n5 q5 n6 q6 w).mono (EqP.of (by simp))
  by_cases h4 : k = 4
  · subst h4
    have e : contV 4 n s t A4 A5 A6 n4 q4 n5 q5 n6 q6 = (.iface 116 (.agg #[.int .i64 n, .int .i64 s])) := by simp [contV]
    rw [e]
    exact (element4_any n s t A4 A5 A6 n4 q4 n5 q5 n6 q6 w).mono (EqP.of (by simp))
  by_cases h5 : k = 5
  · subst h5
    have e : contV 5 n s t A4 A5 A6 n4 q4 n5 q5 n6 q6 = (.iface 118 (.agg #[.slice A5 n5 q5, .slice A6 n6 q6])) := by simp [contV]
    rw [e]
    exact (element5_any n s t A4 A5 A6 n4 q4 n5 q5 n6 q6 w).mono (EqP.of (by simp))
  by_cases h6 : k = 6
  · subst h6
    have e : contV 6 n s t A4 A5 A6 n4 q4 n5 q5 n6 q6 = (.iface 77 (.agg #[.int .i64 n])) := by simp [contV]
    rw [e]
    exact (element6_any n s t A4 A5 A6 n4 q4 n5 q5 n6 q6 w).mono (EqP.of (by simp))
  have e : contV k n s t A4 A5 A6 n4 q4 n5 q5 n6 q6 = .nilIface := by simp [contV, h1, h2, h3, h4, h5, h6]
  rw [e]
  exact (element0_any w).mono (EqP.of (by simp [h1, h2, h3]))
end Go.Proofs.Ytigcfpgmhfdedaa
