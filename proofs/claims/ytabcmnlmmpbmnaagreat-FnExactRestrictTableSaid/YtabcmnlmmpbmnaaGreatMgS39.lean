/-
  Texts that the proof rests on, put together: Content, VMath, OpMath2, OpMath3, LstMath.
-/
import Derived.Test.YtabcmnlmmpbmnaaGreatMgS38
import Derived.Test.YtabcmnlmmpbmnaaGreatMgS24
import Derived.Test.YtabcmnlmmpbmnaaGreatMgS11
/-
  What a value consists of, by its kind: the program's contentOf, isElement, and each content's value. (Written by genvalok.py.)
-/

namespace Go.Proofs.YtabcmnlmmpbmnaaGreat
open Go.RowKit
set_option linter.unusedVariables false

theorem ta_1_1 (v : Value) (w : World) : (Instr.typeAssert (.iface 134 v) 143 134 true).run Tryz.prog w = .ok (.tuple #[v, .bool true]) w := by kernel_rfl
theorem ta_1_2 (v : Value) (w : World) : (Instr.typeAssert (.iface 134 v) 143 161 true).run Tryz.prog w = .ok (.tuple #[.agg #[.string ⟨#[]⟩], .bool false]) w := by kernel_rfl
theorem ta_1_3 (v : Value) (w : World) : (Instr.typeAssert (.iface 134 v) 143 130 true).run Tryz.prog w = .ok (.tuple #[.agg #[.slice none 0 0], .bool false]) w := by kernel_rfl
theorem ta_1_5 (v : Value) (w : World) : (Instr.typeAssert (.iface 134 v) 143 101 true).run Tryz.prog w = .ok (.tuple #[.agg #[.slice none 0 0, .slice none 0 0], .bool false]) w := by kernel_rfl
theorem ta_2_1 (v : Value) (w : World) : (Instr.typeAssert (.iface 161 v) 143 134 true).run Tryz.prog w = .ok (.tuple #[.agg #[.int .i64 0], .bool false]) w := by kernel_rfl
theorem ta_2_2 (v : Value) (w : World) : (Instr.typeAssert (.iface 161 v) 143 161 true).run Tryz.prog w = .ok (.tuple #[v, .bool true]) w := by kernel_rfl
theorem ta_2_3 (v : Value) (w : World) : (Instr.typeAssert (.iface 161 v) 143 130 true).run Tryz.prog w = .ok (.tuple #[.agg #[.slice none 0 0], .bool false]) w := by kernel_rfl
theorem ta_2_5 (v : Value) (w : World) : (Instr.typeAssert (.iface 161 v) 143 101 true).run Tryz.prog w = .ok (.tuple #[.agg #[.slice none 0 0, .slice none 0 0], .bool false]) w := by kernel_rfl
theorem ta_3_1 (v : Value) (w : World) : (Instr.typeAssert (.iface 130 v) 143 134 true).run Tryz.prog w = .ok (.tuple #[.agg #[.int .i64 0], .bool false]) w := by kernel_rfl
theorem ta_3_2 (v : Value) (w : World) : (Instr.typeAssert (.iface 130 v) 143 161 true).run Tryz.prog w = .ok (.tuple #[.agg #[.string ⟨#[]⟩], .bool false]) w := by kernel_rfl
theorem ta_3_3 (v : Value) (w : World) : (Instr.typeAssert (.iface 130 v) 143 130 true).run Tryz.prog w = .ok (.tuple #[v, .bool true]) w := by kernel_rfl
theorem ta_3_5 (v : Value) (w : World) : (Instr.typeAssert (.iface 130 v) 143 101 true).run Tryz.prog w = .ok (.tuple #[.agg #[.slice none 0 0, .slice none 0 0], .bool false]) w := by kernel_rfl
theorem ta_4_1 (v : Value) (w : World) : (Instr.typeAssert (.iface 132 v) 143 134 true).run Tryz.prog w = .ok (.tuple #[.agg #[.int .i64 0], .bool false]) w := by kernel_rfl
theorem ta_4_2 (v : Value) (w : World) : (Instr.typeAssert (.iface 132 v) 143 161 true).run Tryz.prog w = .ok (.tuple #[.agg #[.string ⟨#[]⟩], .bool false]) w := by kernel_rfl
theorem ta_4_3 (v : Value) (w : World) : (Instr.typeAssert (.iface 132 v) 143 130 true).run Tryz.prog w = .ok (.tuple #[.agg #[.slice none 0 0], .bool false]) w := by kernel_rfl
theorem ta_4_4 (v : Value) (w : World) : (Instr.typeAssert (.iface 132 v) 143 132 true).run Tryz.prog w = .ok (.tuple #[v, .bool true]) w := by kernel_rfl
theorem ta_4_5 (v : Value) (w : World) : (Instr.typeAssert (.iface 132 v) 143 101 true).run Tryz.prog w = .ok (.tuple #[.agg #[.slice none 0 0, .slice none 0 0], .bool false]) w := by kernel_rfl
theorem ta_5_1 (v : Value) (w : World) : (Instr.typeAssert (.iface 101 v) 143 134 true).run Tryz.prog w = .ok (.tuple #[.agg #[.int .i64 0], .bool false]) w := by kernel_rfl
theorem ta_5_2 (v : Value) (w : World) : (Instr.typeAssert (.iface 101 v) 143 161 true).run Tryz.prog w = .ok (.tuple #[.agg #[.string ⟨#[]⟩], .bool false]) w := by kernel_rfl
theorem ta_5_3 (v : Value) (w : World) : (Instr.typeAssert (.iface 101 v) 143 130 true).run Tryz.prog w = .ok (.tuple #[.agg #[.slice none 0 0], .bool false]) w := by kernel_rfl
theorem ta_5_4 (v : Value) (w : World) : (Instr.typeAssert (.iface 101 v) 143 132 true).run Tryz.prog w = .ok (.tuple #[.agg #[.int .i64 0, .int .i64 0], .bool false]) w := by kernel_rfl
theorem ta_5_5 (v : Value) (w : World) : (Instr.typeAssert (.iface 101 v) 143 101 true).run Tryz.prog w = .ok (.tuple #[v, .bool true]) w := by kernel_rfl
theorem ta_6_1 (v : Value) (w : World) : (Instr.typeAssert (.iface 75 v) 143 134 true).run Tryz.prog w = .ok (.tuple #[.agg #[.int .i64 0], .bool false]) w := by kernel_rfl
theorem ta_6_2 (v : Value) (w : World) : (Instr.typeAssert (.iface 75 v) 143 161 true).run Tryz.prog w = .ok (.tuple #[.agg #[.string ⟨#[]⟩], .bool false]) w := by kernel_rfl
theorem ta_6_3 (v : Value) (w : World) : (Instr.typeAssert (.iface 75 v) 143 130 true).run Tryz.prog w = .ok (.tuple #[.agg #[.slice none 0 0], .bool false]) w := by kernel_rfl
theorem ta_6_4 (v : Value) (w : World) : (Instr.typeAssert (.iface 75 v) 143 132 true).run Tryz.prog w = .ok (.tuple #[.agg #[.int .i64 0, .int .i64 0], .bool false]) w := by kernel_rfl
theorem ta_6_5 (v : Value) (w : World) : (Instr.typeAssert (.iface 75 v) 143 101 true).run Tryz.prog w = .ok (.tuple #[.agg #[.slice none 0 0, .slice none 0 0], .bool false]) w := by kernel_rfl
theorem ta_6_6 (v : Value) (w : World) : (Instr.typeAssert (.iface 75 v) 143 75 true).run Tryz.prog w = .ok (.tuple #[v, .bool true]) w := by kernel_rfl
theorem ta_0_1 (w : World) : (Instr.typeAssert .nilIface 143 134 true).run Tryz.prog w = .ok (.tuple #[.agg #[.int .i64 0], .bool false]) w := by kernel_rfl
theorem ta_0_2 (w : World) : (Instr.typeAssert .nilIface 143 161 true).run Tryz.prog w = .ok (.tuple #[.agg #[.string ⟨#[]⟩], .bool false]) w := by kernel_rfl
theorem ta_0_3 (w : World) : (Instr.typeAssert .nilIface 143 130 true).run Tryz.prog w = .ok (.tuple #[.agg #[.slice none 0 0], .bool false]) w := by kernel_rfl
theorem ta_0_4 (w : World) : (Instr.typeAssert .nilIface 143 132 true).run Tryz.prog w = .ok (.tuple #[.agg #[.int .i64 0, .int .i64 0], .bool false]) w := by kernel_rfl
theorem ta_0_5 (w : World) : (Instr.typeAssert .nilIface 143 101 true).run Tryz.prog w = .ok (.tuple #[.agg #[.slice none 0 0, .slice none 0 0], .bool false]) w := by kernel_rfl
theorem ta_0_6 (w : World) : (Instr.typeAssert .nilIface 143 75 true).run Tryz.prog w = .ok (.tuple #[.agg #[.int .i64 0], .bool false]) w := by kernel_rfl

set_option maxHeartbeats 800000 in
set_option maxRecDepth 100000 in
theorem content1_any (n s : Int) (t : ByteArray) (A4 A5 A6 : Option Addr) (n4 q4 n5 q5 n6 q6 : Nat) (w : World) : Calls Tryz.prog 143 #[.agg #[.int .i64 1, .int .i64 n, .int .i64 s, .string t, .slice A4 n4 q4, .slice A5 n5 q5, .slice A6 n6 q6]] w fun e w' => e = .returned (.iface 134 (.agg #[.int .i64 n])) ∧ Below w.heap.size w w' := by
  go_enter Tryz.func143, Tryz.ntmps143
  go_wp2_with fail
  go_ret
  exact ⟨rfl, (Below.refl _ _).alloc (Nat.le_refl _) _⟩

set_option maxHeartbeats 800000 in
set_option maxRecDepth 100000 in
theorem element1_any (n s : Int) (t : ByteArray) (A4 A5 A6 : Option Addr) (n4 q4 n5 q5 n6 q6 : Nat) (w : World) : Calls Tryz.prog 220 #[(.iface 134 (.agg #[.int .i64 n]))] w fun e w' => e = .returned (.bool true) ∧ Below w.heap.size w w' := by
  have f1 := ta_1_1
  have f2 := ta_1_2
  have f3 := ta_1_3
  go_enter Tryz.func220, Tryz.ntmps220
  go_wp2_with fail
  go_ret
  exact ⟨rfl, Below.refl _ _⟩

set_option maxHeartbeats 800000 in
set_option maxRecDepth 100000 in
theorem value1_any (n s : Int) (t : ByteArray) (A4 A5 A6 : Option Addr) (n4 q4 n5 q5 n6 q6 : Nat) (w : World) : Calls Tryz.prog 135 #[.agg #[.int .i64 n]] w fun e w' => e = .returned (.agg #[.int .i64 1, .int .i64 n, .int .i64 0, .string ⟨#[]⟩, .slice none 0 0, .slice none 0 0, .slice none 0 0]) ∧ Below w.heap.size w w' := by
  go_enter Tryz.func135, Tryz.ntmps135
  go_wp2_with fail
  refine bodyPost_ret (v := .agg #[.int .i64 1, .int .i64 n, .int .i64 0, .string ⟨#[]⟩, .slice none 0 0, .slice none 0 0, .slice none 0 0]) (by simp [results, Tryz.results135, go_sem]) rfl ⟨rfl, ?_⟩
  repeat' (first | refine Below.setCell ?_ (by first | (simp; done) | (simp; omega) | omega) _ | refine Below.alloc ?_ (by first | (simp; done) | (simp; omega) | omega) _ | exact Below.refl _ _)

set_option maxHeartbeats 800000 in
set_option maxRecDepth 100000 in
theorem content2_any (n s : Int) (t : ByteArray) (A4 A5 A6 : Option Addr) (n4 q4 n5 q5 n6 q6 : Nat) (w : World) : Calls Tryz.prog 143 #[.agg #[.int .i64 2, .int .i64 n, .int .i64 s, .string t, .slice A4 n4 q4, .slice A5 n5 q5, .slice A6 n6 q6]] w fun e w' => e = .returned (.iface 161 (.agg #[.string t])) ∧ Below w.heap.size w w' := by
  go_enter Tryz.func143, Tryz.ntmps143
  go_wp2_with fail
  go_ret
  exact ⟨rfl, (Below.refl _ _).alloc (Nat.le_refl _) _⟩

set_option maxHeartbeats 800000 in
set_option maxRecDepth 100000 in
theorem element2_any (n s : Int) (t : ByteArray) (A4 A5 A6 : Option Addr) (n4 q4 n5 q5 n6 q6 : Nat) (w : World) : Calls Tryz.prog 220 #[(.iface 161 (.agg #[.string t]))] w fun e w' => e = .returned (.bool true) ∧ Below w.heap.size w w' := by
  have f1 := ta_2_1
  have f2 := ta_2_2
  have f3 := ta_2_3
  go_enter Tryz.func220, Tryz.ntmps220
  go_wp2_with fail
  go_ret
  exact ⟨rfl, Below.refl _ _⟩

set_option maxHeartbeats 800000 in
set_option maxRecDepth 100000 in
theorem value2_any (n s : Int) (t : ByteArray) (A4 A5 A6 : Option Addr) (n4 q4 n5 q5 n6 q6 : Nat) (w : World) : Calls Tryz.prog 206 #[.agg #[.string t]] w fun e w' => e = .returned (.agg #[.int .i64 2, .int .i64 0, .int .i64 0, .string t, .slice none 0 0, .slice none 0 0, .slice none 0 0]) ∧ Below w.heap.size w w' := by
  go_enter Tryz.func206, Tryz.ntmps206
  go_wp2_with fail
  refine bodyPost_ret (v := .agg #[.int .i64 2, .int .i64 0, .int .i64 0, .string t, .slice none 0 0, .slice none 0 0, .slice none 0 0]) (by simp [results, Tryz.results206, go_sem]) rfl ⟨rfl, ?_⟩
  repeat' (first | refine Below.setCell ?_ (by first | (simp; done) | (simp; omega) | omega) _ | refine Below.alloc ?_ (by first | (simp; done) | (simp; omega) | omega) _ | exact Below.refl _ _)

set_option maxHeartbeats 800000 in
set_option maxRecDepth 100000 in
theorem content3_any (n s : Int) (t : ByteArray) (A4 A5 A6 : Option Addr) (n4 q4 n5 q5 n6 q6 : Nat) (w : World) : Calls Tryz.prog 143 #[.agg #[.int .i64 3, .int .i64 n, .int .i64 s, .string t, .slice A4 n4 q4, .slice A5 n5 q5, .slice A6 n6 q6]] w fun e w' => e = .returned (.iface 130 (.agg #[.slice A4 n4 q4])) ∧ Below w.heap.size w w' := by
  go_enter Tryz.func143, Tryz.ntmps143
  go_wp2_with fail
  go_ret
  exact ⟨rfl, (Below.refl _ _).alloc (Nat.le_refl _) _⟩

set_option maxHeartbeats 800000 in
set_option maxRecDepth 100000 in
theorem element3_any (n s : Int) (t : ByteArray) (A4 A5 A6 : Option Addr) (n4 q4 n5 q5 n6 q6 : Nat) (w : World) : Calls Tryz.prog 220 #[(.iface 130 (.agg #[.slice A4 n4 q4]))] w fun e w' => e = .returned (.bool true) ∧ Below w.heap.size w w' := by
  have f1 := ta_3_1
  have f2 := ta_3_2
  have f3 := ta_3_3
  go_enter Tryz.func220, Tryz.ntmps220
  go_wp2_with fail
  go_ret
  exact ⟨rfl, Below.refl _ _⟩

set_option maxHeartbeats 800000 in
set_option maxRecDepth 100000 in
theorem value3_any (n s : Int) (t : ByteArray) (A4 A5 A6 : Option Addr) (n4 q4 n5 q5 n6 q6 : Nat) (w : World) : Calls Tryz.prog 133 #[.agg #[.slice A4 n4 q4]] w fun e w' => e = .returned (.agg #[.int .i64 3, .int .i64 0, .int .i64 0, .string ⟨#[]⟩, .slice A4 n4 q4, .slice none 0 0, .slice none 0 0]) ∧ Below w.heap.size w w' := by
  go_enter Tryz.func133, Tryz.ntmps133
  go_wp2_with fail
  refine bodyPost_ret (v := .agg #[.int .i64 3, .int .i64 0, .int .i64 0, .string ⟨#[]⟩, .slice A4 n4 q4, .slice none 0 0, .slice none 0 0]) (by simp [results, Tryz.results133, go_sem]) rfl ⟨rfl, ?_⟩
  repeat' (first | refine Below.setCell ?_ (by first | (simp; done) | (simp; omega) | omega) _ | refine Below.alloc ?_ (by first | (simp; done) | (simp; omega) | omega) _ | exact Below.refl _ _)

set_option maxHeartbeats 800000 in
set_option maxRecDepth 100000 in
theorem content4_any (n s : Int) (t : ByteArray) (A4 A5 A6 : Option Addr) (n4 q4 n5 q5 n6 q6 : Nat) (w : World) : Calls Tryz.prog 143 #[.agg #[.int .i64 4, .int .i64 n, .int .i64 s, .string t, .slice A4 n4 q4, .slice A5 n5 q5, .slice A6 n6 q6]] w fun e w' => e = .returned (.iface 132 (.agg #[.int .i64 n, .int .i64 s])) ∧ Below w.heap.size w w' := by
  go_enter Tryz.func143, Tryz.ntmps143
  go_wp2_with fail
  go_ret
  exact ⟨rfl, (Below.refl _ _).alloc (Nat.le_refl _) _⟩

set_option maxHeartbeats 800000 in
set_option maxRecDepth 100000 in
theorem element4_any (n s : Int) (t : ByteArray) (A4 A5 A6 : Option Addr) (n4 q4 n5 q5 n6 q6 : Nat) (w : World) : Calls Tryz.prog 220 #[(.iface 132 (.agg #[.int .i64 n, .int .i64 s]))] w fun e w' => e = .returned (.bool false) ∧ Below w.heap.size w w' := by
  have f1 := ta_4_1
  have f2 := ta_4_2
  have f3 := ta_4_3
  go_enter Tryz.func220, Tryz.ntmps220
  go_wp2_with fail
  go_ret
  exact ⟨rfl, Below.refl _ _⟩

set_option maxHeartbeats 800000 in
set_option maxRecDepth 100000 in
theorem value4_any (n s : Int) (t : ByteArray) (A4 A5 A6 : Option Addr) (n4 q4 n5 q5 n6 q6 : Nat) (w : World) : Calls Tryz.prog 134 #[.agg #[.int .i64 n, .int .i64 s]] w fun e w' => e = .returned (.agg #[.int .i64 4, .int .i64 n, .int .i64 s, .string ⟨#[]⟩, .slice none 0 0, .slice none 0 0, .slice none 0 0]) ∧ Below w.heap.size w w' := by
  go_enter Tryz.func134, Tryz.ntmps134
  go_wp2_with fail
  refine bodyPost_ret (v := .agg #[.int .i64 4, .int .i64 n, .int .i64 s, .string ⟨#[]⟩, .slice none 0 0, .slice none 0 0, .slice none 0 0]) (by simp [results, Tryz.results134, go_sem]) rfl ⟨rfl, ?_⟩
  repeat' (first | refine Below.setCell ?_ (by first | (simp; done) | (simp; omega) | omega) _ | refine Below.alloc ?_ (by first | (simp; done) | (simp; omega) | omega) _ | exact Below.refl _ _)

set_option maxHeartbeats 800000 in
set_option maxRecDepth 100000 in
theorem content5_any (n s : Int) (t : ByteArray) (A4 A5 A6 : Option Addr) (n4 q4 n5 q5 n6 q6 : Nat) (w : World) : Calls Tryz.prog 143 #[.agg #[.int .i64 5, .int .i64 n, .int .i64 s, .string t, .slice A4 n4 q4, .slice A5 n5 q5, .slice A6 n6 q6]] w fun e w' => e = .returned (.iface 101 (.agg #[.slice A5 n5 q5, .slice A6 n6 q6])) ∧ Below w.heap.size w w' := by
  go_enter Tryz.func143, Tryz.ntmps143
  go_wp2_with fail
  go_ret
  exact ⟨rfl, (Below.refl _ _).alloc (Nat.le_refl _) _⟩

set_option maxHeartbeats 800000 in
set_option maxRecDepth 100000 in
theorem element5_any (n s : Int) (t : ByteArray) (A4 A5 A6 : Option Addr) (n4 q4 n5 q5 n6 q6 : Nat) (w : World) : Calls Tryz.prog 220 #[(.iface 101 (.agg #[.slice A5 n5 q5, .slice A6 n6 q6]))] w fun e w' => e = .returned (.bool false) ∧ Below w.heap.size w w' := by
  have f1 := ta_5_1
  have f2 := ta_5_2
  have f3 := ta_5_3
  go_enter Tryz.func220, Tryz.ntmps220
  go_wp2_with fail
  go_ret
  exact ⟨rfl, Below.refl _ _⟩

set_option maxHeartbeats 800000 in
set_option maxRecDepth 100000 in
theorem value5_any (n s : Int) (t : ByteArray) (A4 A5 A6 : Option Addr) (n4 q4 n5 q5 n6 q6 : Nat) (w : World) : Calls Tryz.prog 97 #[.agg #[.slice A5 n5 q5, .slice A6 n6 q6]] w fun e w' => e = .returned (.agg #[.int .i64 5, .int .i64 0, .int .i64 0, .string ⟨#[]⟩, .slice none 0 0, .slice A5 n5 q5, .slice A6 n6 q6]) ∧ Below w.heap.size w w' := by
  go_enter Tryz.func97, Tryz.ntmps97
  go_wp2_with fail
  refine bodyPost_ret (v := .agg #[.int .i64 5, .int .i64 0, .int .i64 0, .string ⟨#[]⟩, .slice none 0 0, .slice A5 n5 q5, .slice A6 n6 q6]) (by simp [results, Tryz.results97, go_sem]) rfl ⟨rfl, ?_⟩
  repeat' (first | refine Below.setCell ?_ (by first | (simp; done) | (simp; omega) | omega) _ | refine Below.alloc ?_ (by first | (simp; done) | (simp; omega) | omega) _ | exact Below.refl _ _)

set_option maxHeartbeats 800000 in
set_option maxRecDepth 100000 in
theorem content6_any (n s : Int) (t : ByteArray) (A4 A5 A6 : Option Addr) (n4 q4 n5 q5 n6 q6 : Nat) (w : World) : Calls Tryz.prog 143 #[.agg #[.int .i64 6, .int .i64 n, .int .i64 s, .string t, .slice A4 n4 q4, .slice A5 n5 q5, .slice A6 n6 q6]] w fun e w' => e = .returned (.iface 75 (.agg #[.int .i64 n])) ∧ Below w.heap.size w w' := by
  go_enter Tryz.func143, Tryz.ntmps143
  go_wp2_with fail
  go_ret
  exact ⟨rfl, (Below.refl _ _).alloc (Nat.le_refl _) _⟩

set_option maxHeartbeats 800000 in
set_option maxRecDepth 100000 in
theorem element6_any (n s : Int) (t : ByteArray) (A4 A5 A6 : Option Addr) (n4 q4 n5 q5 n6 q6 : Nat) (w : World) : Calls Tryz.prog 220 #[(.iface 75 (.agg #[.int .i64 n]))] w fun e w' => e = .returned (.bool false) ∧ Below w.heap.size w w' := by
  have f1 := ta_6_1
  have f2 := ta_6_2
  have f3 := ta_6_3
  go_enter Tryz.func220, Tryz.ntmps220
  go_wp2_with fail
  go_ret
  exact ⟨rfl, Below.refl _ _⟩

set_option maxHeartbeats 800000 in
set_option maxRecDepth 100000 in
theorem value6_any (n s : Int) (t : ByteArray) (A4 A5 A6 : Option Addr) (n4 q4 n5 q5 n6 q6 : Nat) (w : World) : Calls Tryz.prog 63 #[.agg #[.int .i64 n]] w fun e w' => e = .returned (.agg #[.int .i64 6, .int .i64 n, .int .i64 0, .string ⟨#[]⟩, .slice none 0 0, .slice none 0 0, .slice none 0 0]) ∧ Below w.heap.size w w' := by
  go_enter Tryz.func63, Tryz.ntmps63
  go_wp2_with fail
  refine bodyPost_ret (v := .agg #[.int .i64 6, .int .i64 n, .int .i64 0, .string ⟨#[]⟩, .slice none 0 0, .slice none 0 0, .slice none 0 0]) (by simp [results, Tryz.results63, go_sem]) rfl ⟨rfl, ?_⟩
  repeat' (first | refine Below.setCell ?_ (by first | (simp; done) | (simp; omega) | omega) _ | refine Below.alloc ?_ (by first | (simp; done) | (simp; omega) | omega) _ | exact Below.refl _ _)

set_option maxHeartbeats 800000 in
set_option maxRecDepth 100000 in
theorem content0_any (k : Int) (n s : Int) (t : ByteArray) (A4 A5 A6 : Option Addr) (n4 q4 n5 q5 n6 q6 : Nat) (w : World) (h1 : k ≠ 1) (h2 : k ≠ 2) (h3 : k ≠ 3) (h4 : k ≠ 4) (h5 : k ≠ 5) (h6 : k ≠ 6) : Calls Tryz.prog 143 #[.agg #[.int .i64 k, .int .i64 n, .int .i64 s, .string t, .slice A4 n4 q4, .slice A5 n5 q5, .slice A6 n6 q6]] w fun e w' => e = .returned .nilIface ∧ Below w.heap.size w w' := by
  have b1 : (k == 1) = false := by simp [h1]
  have b2 : (k == 2) = false := by simp [h2]
  have b3 : (k == 3) = false := by simp [h3]
  have b4 : (k == 4) = false := by simp [h4]
  have b5 : (k == 5) = false := by simp [h5]
  have b6 : (k == 6) = false := by simp [h6]
  go_enter Tryz.func143, Tryz.ntmps143
  go_wp2_with fail
  go_ret
  exact ⟨rfl, (Below.refl _ _).alloc (Nat.le_refl _) _⟩

set_option maxHeartbeats 800000 in
set_option maxRecDepth 100000 in
theorem element0_any (w : World) : Calls Tryz.prog 220 #[.nilIface] w fun e w' => e = .returned (.bool false) ∧ Below w.heap.size w w' := by
  have f1 := ta_0_1
  have f2 := ta_0_2
  have f3 := ta_0_3
  go_enter Tryz.func220, Tryz.ntmps220
  go_wp2_with fail
  go_ret
  exact ⟨rfl, Below.refl _ _⟩

def contV (k n s : Int) (t : ByteArray) (A4 A5 A6 : Option Addr) (n4 q4 n5 q5 n6 q6 : Nat) : Value :=
  if k = 1 then (.iface 134 (.agg #[.int .i64 n])) else if k = 2 then (.iface 161 (.agg #[.string t])) else if k = 3 then (.iface 130 (.agg #[.slice A4 n4 q4])) else if k = 4 then (.iface 132 (.agg #[.int .i64 n, .int .i64 s])) else if k = 5 then (.iface 101 (.agg #[.slice A5 n5 q5, .slice A6 n6 q6])) else if k = 6 then (.iface 75 (.agg #[.int .i64 n])) else .nilIface
theorem contV_any (k : Int) (n s : Int) (t : ByteArray) (A4 A5 A6 : Option Addr) (n4 q4 n5 q5 n6 q6 : Nat) (w : World) : Calls Tryz.prog 143 #[.agg #[.int .i64 k, .int .i64 n, .int .i64 s, .string t, .slice A4 n4 q4, .slice A5 n5 q5, .slice A6 n6 q6]] w fun e w' => e = .returned (contV k n s t A4 A5 A6 n4 q4 n5 q5 n6 q6) ∧ Below w.heap.size w w' := by

  by_cases h1 : k = 1
  · subst h1
    have e : contV 1 n s t A4 A5 A6 n4 q4 n5 q5 n6 q6 = (.iface 134 (.agg #[.int .i64 n])) := by simp [contV]
    rw [e]
    exact content1_any n s t A4 A5 A6 n4 q4 n5 q5 n6 q6 w
  by_cases h2 : k = 2
  · subst h2
    have e : contV 2 n s t A4 A5 A6 n4 q4 n5 q5 n6 q6 = (.iface 161 (.agg #[.string t])) := by simp [contV]
    rw [e]
    exact content2_any n s t A4 A5 A6 n4 q4 n5 q5 n6 q6 w
  by_cases h3 : k = 3
  · subst h3
    have e : contV 3 n s t A4 A5 A6 n4 q4 n5 q5 n6 q6 = (.iface 130 (.agg #[.slice A4 n4 q4])) := by simp [contV]
    rw [e]
    exact content3_any n s t A4 A5 A6 n4 q4 n5 q5 n6 q6 w
  by_cases h4 : k = 4
  · subst h4
    have e : contV 4 n s t A4 A5 A6 n4 q4 n5 q5 n6 q6 = (.iface 132 (.agg #[.int .i64 n, .int .i64 s])) := by simp [contV]
    rw [e]
    exact content4_any n s t A4 A5 A6 n4 q4 n5 q5 n6 q6 w
  by_cases h5 : k = 5
  · subst h5
    have e : contV 5 n s t A4 A5 A6 n4 q4 n5 q5 n6 q6 = (.iface 101 (.agg #[.slice A5 n5 q5, .slice A6 n6 q6])) := by simp [contV]
    rw [e]
    exact content5_any n s t A4 A5 A6 n4 q4 n5 q5 n6 q6 w
  by_cases h6 : k = 6
  · subst h6
    have e : contV 6 n s t A4 A5 A6 n4 q4 n5 q5 n6 q6 = (.iface 75 (.agg #[.int .i64 n])) := by simp [contV]
    rw [e]
    exact content6_any n s t A4 A5 A6 n4 q4 n5 q5 n6 q6 w
  have e : contV k n s t A4 A5 A6 n4 q4 n5 q5 n6 q6 = .nilIface := by simp [contV, h1, h2, h3, h4, h5, h6]
  rw [e]
  exact content0_any k n s t A4 A5 A6 n4 q4 n5 q5 n6 q6 w h1 h2 h3 h4 h5 h6
theorem element_any (k : Int) (n s : Int) (t : ByteArray) (A4 A5 A6 : Option Addr) (n4 q4 n5 q5 n6 q6 : Nat) (w : World) : Calls Tryz.prog 220 #[contV k n s t A4 A5 A6 n4 q4 n5 q5 n6 q6] w (EqP (k = 1 ∨ k = 2 ∨ k = 3) w) := by

  by_cases h1 : k = 1
  · subst h1
    have e : contV 1 n s t A4 A5 A6 n4 q4 n5 q5 n6 q6 = (.iface 134 (.agg #[.int .i64 n])) := by simp [contV]
    rw [e]
    exact (element1_any n s t A4 A5 A6 n4 q4 n5 q5 n6 q6 w).mono (EqP.of (by simp))
  by_cases h2 : k = 2
  · subst h2
    have e : contV 2 n s t A4 A5 A6 n4 q4 n5 q5 n6 q6 = (.iface 161 (.agg #[.string t])) := by simp [contV]
    rw [e]
    exact (element2_any n s t A4 A5 A6 n4 q4 n5 q5 n6 q6 w).mono (EqP.of (by simp))
  by_cases h3 : k = 3
  · subst h3
    have e : contV 3 n s t A4 A5 A6 n4 q4 n5 q5 n6 q6 = (.iface 130 (.agg #[.slice A4 n4 q4])) := by simp [contV]
    rw [e]
    exact (element3_any n s t A4 A5 A6 n4 q4 n5 q5 n6 q6 w).mono (EqP.of (by simp))
  by_cases h4 : k = 4
  · subst h4
    have e : contV 4 n s t A4 A5 A6 n4 q4 n5 q5 n6 q6 = (.iface 132 (.agg #[.int .i64 n, .int .i64 s])) := by simp [contV]
    rw [e]
    exact (element4_any n s t A4 A5 A6 n4 q4 n5 q5 n6 q6 w).mono (EqP.of (by simp))
  by_cases h5 : k = 5
  · subst h5
    have e : contV 5 n s t A4 A5 A6 n4 q4 n5 q5 n6 q6 = (.iface 101 (.agg #[.slice A5 n5 q5, .slice A6 n6 q6])) := by simp [contV]
    rw [e]
    exact (element5_any n s t A4 A5 A6 n4 q4 n5 q5 n6 q6 w).mono (EqP.of (by simp))
  by_cases h6 : k = 6
  · subst h6
    have e : contV 6 n s t A4 A5 A6 n4 q4 n5 q5 n6 q6 = (.iface 75 (.agg #[.int .i64 n])) := by simp [contV]
    rw [e]
    exact (element6_any n s t A4 A5 A6 n4 q4 n5 q5 n6 q6 w).mono (EqP.of (by simp))
  have e : contV k n s t A4 A5 A6 n4 q4 n5 q5 n6 q6 = .nilIface := by simp [contV, h1, h2, h3, h4, h5, h6]
  rw [e]
  exact (element0_any w).mono (EqP.of (by simp [h1, h2, h3]))
end Go.Proofs.YtabcmnlmmpbmnaaGreat

/-
  Which values are valid, said plainly, in the model's way and in the program's. (Written by genwithin.py.)
-/

namespace Go.Proofs.YtabcmnlmmpbmnaaGreat
open Go.RowKit
set_option linter.unusedVariables false

def Core (L : Prop) (k n s : Int) (t : ByteArray) (l : List Dt) (cc : List ByteArray) (r : List Dt) : Prop :=
  (k = 1 ∧ NumOk n ∧ s = 0 ∧ t = ⟨#[]⟩ ∧ l = [] ∧ cc = [] ∧ r = []) ∨
  (k = 2 ∧ VT t ∧ n = 0 ∧ s = 0 ∧ l = [] ∧ cc = [] ∧ r = []) ∨
  (k = 3 ∧ L ∧ n = 0 ∧ s = 0 ∧ t = ⟨#[]⟩ ∧ cc = [] ∧ r = []) ∨
  (k = 4 ∧ (NumOk n ∧ NumOk s) ∧ t = ⟨#[]⟩ ∧ l = [] ∧ cc = [] ∧ r = []) ∨
  (k = 5 ∧ TblOk cc r ∧ n = 0 ∧ s = 0 ∧ t = ⟨#[]⟩ ∧ l = []) ∨
  (k = 6 ∧ (1 ≤ n ∧ n ≤ 8) ∧ s = 0 ∧ t = ⟨#[]⟩ ∧ l = [] ∧ cc = [] ∧ r = [])
def isEl : Dt → Prop
  | .agg (.int k :: _) => k = 1 ∨ k = 2 ∨ k = 3
  | _ => False
mutual
def Dt.SV : Dt → Prop
  | .agg [.int k, .int n, .int s, .str t, .lst l, .lst c, .lst r] => ∃ cc : List ByteArray, c = cc.map .str ∧ Core (SVs l ∧ l.length ≤ 8 ∧ 1 + deps l ≤ 3) k n s t l cc r
  | _ => False
def SVs : List Dt → Prop
  | [] => True
  | x :: xs => (isEl x ∧ x.SV) ∧ SVs xs
end
def W : Nat → Dt → Prop
  | 0, _ => False
  | m + 1, d => match d with
    | .agg [.int k, .int n, .int s, .str t, .lst l, .lst c, .lst r] => ∃ cc : List ByteArray, c = cc.map .str ∧ Core (l.length ≤ 8 ∧ (l = [] ∨ 1 ≤ m) ∧ ∀ x ∈ l, isEl x ∧ W m x) k n s t l cc r
    | _ => False
theorem SV_mk (k n s : Int) (t : ByteArray) (l : List Dt) (cc : List ByteArray) (r : List Dt) : Dt.SV (.agg [.int k, .int n, .int s, .str t, .lst l, .lst (cc.map .str), .lst r]) ↔ Core (SVs l ∧ l.length ≤ 8 ∧ 1 + deps l ≤ 3) k n s t l cc r := by
  simp only [Dt.SV]
  constructor
  · rintro ⟨cc', e, h⟩
    rwa [strs_inj e]
  · intro h
    exact ⟨cc, rfl, h⟩
theorem W_mk (m : Nat) (k n s : Int) (t : ByteArray) (l : List Dt) (cc : List ByteArray) (r : List Dt) : W (m + 1) (.agg [.int k, .int n, .int s, .str t, .lst l, .lst (cc.map .str), .lst r]) ↔ Core (l.length ≤ 8 ∧ (l = [] ∨ 1 ≤ m) ∧ ∀ x ∈ l, isEl x ∧ W m x) k n s t l cc r := by
  simp only [W]
  constructor
  · rintro ⟨cc', e, h⟩
    rwa [strs_inj e]
  · intro h
    exact ⟨cc, rfl, h⟩
theorem SVs_all : ∀ l : List Dt, SVs l ↔ ∀ x ∈ l, isEl x ∧ x.SV
  | [] => by simp [SVs]
  | x :: xs => by simp [SVs, SVs_all xs]
theorem deps_le : ∀ (l : List Dt) (m : Nat), deps l ≤ m ↔ ∀ x ∈ l, x.dep ≤ m
  | [], m => by simp [deps]
  | x :: xs, m => by
    have := deps_le xs m
    simp only [deps, List.mem_cons, forall_eq_or_imp]
    rw [← this]
    omega
theorem dep_pos {d : Dt} (h : IsVal d) : 1 ≤ d.dep := by cases h; rw [dep_mk]; omega
theorem Core_imp {L L' : Prop} {k n s : Int} {t : ByteArray} {l : List Dt} {cc : List ByteArray} {r : List Dt} (hL : k = 3 → L → L') (h : Core L k n s t l cc r) : Core L' k n s t l cc r := by
  rcases h with h | h | h | h | h | h
  · exact .inl h
  · exact .inr (.inl h)
  · exact .inr (.inr (.inl ⟨h.1, hL h.1 h.2.1, h.2.2⟩))
  · exact .inr (.inr (.inr (.inl h)))
  · exact .inr (.inr (.inr (.inr (.inl h))))
  · exact .inr (.inr (.inr (.inr (.inr h))))
theorem Core_flat {L : Prop} {k n s : Int} {t : ByteArray} {l : List Dt} {cc : List ByteArray} {r : List Dt} (h : Core L k n s t l cc r) : (k = 3 ∧ L) ∨ l = [] := by
  rcases h with h | h | h | h | h | h
  · exact .inr h.2.2.2.2.1
  · exact .inr h.2.2.2.2.1
  · exact .inl ⟨h.1, h.2.1⟩
  · exact .inr h.2.2.2.1
  · exact .inr h.2.2.2.2.2
  · exact .inr h.2.2.2.2.1
theorem W_iff : ∀ (m : Nat), m ≤ 3 → ∀ d, IsVal d → (W m d ↔ d.SV ∧ d.dep ≤ m)
  | 0, _, d, hd => by
    have := dep_pos hd
    simp only [W, false_iff]
    intro h
    omega
  | m + 1, hm, d, hd => by
    cases hd with
    | mk k n s t l cc r hl hr =>
    rw [W_mk, SV_mk, dep_mk]
    have ih : ∀ x ∈ l, (W m x ↔ x.SV ∧ x.dep ≤ m) := fun x hx => W_iff m (by omega) x (hl x hx)
    constructor
    · intro h
      have hd : 1 + deps l ≤ m + 1 := by
        rcases Core_flat h with ⟨_, h1⟩ | h1
        · have := (deps_le l m).2 fun x hx => ((ih x hx).1 (h1.2.2 x hx).2).2
          omega
        · subst h1; simp [deps]
      exact ⟨Core_imp (fun _ h1 => ⟨(SVs_all l).2 fun x hx => ⟨(h1.2.2 x hx).1, ((ih x hx).1 (h1.2.2 x hx).2).1⟩, h1.1, by omega⟩) h, hd⟩
    · rintro ⟨h, hd⟩
      refine Core_imp (fun _ h1 => ⟨h1.2.1, ?_, fun x hx => ⟨((SVs_all l).1 h1.1 x hx).1, (ih x hx).2 ⟨((SVs_all l).1 h1.1 x hx).2, (deps_le l m).1 (by omega) x hx⟩⟩⟩) h
      cases l with
      | nil => exact .inl rfl
      | cons x xs =>
        have h2 := (deps_le (x :: xs) m).1 (by omega) x (by simp)
        have h3 := dep_pos (hl x (by simp))
        exact .inr (by omega)
theorem W3_iff {d : Dt} (hd : IsVal d) : W 3 d ↔ d.SV := by
  rw [W_iff 3 (Nat.le_refl _) d hd]
  refine ⟨fun h => h.1, fun h => ⟨h, ?_⟩⟩
  cases hd with
  | mk k n s t l cc r hl hr =>
  rw [SV_mk] at h
  rw [dep_mk]
  rcases Core_flat h with ⟨_, h1⟩ | h1
  · exact h1.2.2
  · subst h1; simp [deps]
end Go.Proofs.YtabcmnlmmpbmnaaGreat

/-
  What an operator gives for two values, errors included: plain mathematics.
-/

namespace Go.Proofs.YtabcmnlmmpbmnaaGreat
open Go.RowKit
set_option linter.unusedVariables false

/-- The first operand's error. -/
def ErrOf (a : Dt) (c : Int) : Prop := (¬ a.SV ∧ c = 4) ∨ (a.SV ∧ a.kd = 6 ∧ c = a.nm)
def Fine (a : Dt) : Prop := a.SV ∧ a.kd ≠ 6
/-- What the operator gives. -/
inductive Ap (op : Int) (a b : Dt) : Dt → Prop
  | left (c : Int) (h : ErrOf a c) : Ap op a b (errD c)
  | right (c : Int) (ha : Fine a) (h : ErrOf b c) : Ap op a b (errD c)
  | both (ha : Fine a) (hb : Fine b) : Ap op a b (binD op a b)
theorem errOf_one {a : Dt} {c c' : Int} (h : ErrOf a c) (h' : ErrOf a c') : c = c' := by
  rcases h with ⟨h1, h2⟩ | ⟨h1, h2, h3⟩ <;> rcases h' with ⟨g1, g2⟩ | ⟨g1, g2, g3⟩
  · omega
  · exact absurd g1 h1
  · exact absurd h1 g1
  · omega
theorem errOf_not {a : Dt} {c : Int} (h : ErrOf a c) (hf : Fine a) : False := by
  rcases h with ⟨h1, h2⟩ | ⟨h1, h2, h3⟩
  · exact h1 hf.1
  · exact hf.2 h2
theorem Ap.one {op : Int} {a b d d' : Dt} (h : Ap op a b d) (h' : Ap op a b d') : d = d' := by
  cases h with
  | left c h => cases h' with
    | left c' h' => rw [errOf_one h h']
    | right c' h' _ => exact (errOf_not h h').elim
    | both h' _ => exact (errOf_not h h').elim
  | right c ha h => cases h' with
    | left c' h' => exact (errOf_not h' ha).elim
    | right c' _ h' => rw [errOf_one h h']
    | both _ h' => exact (errOf_not h h').elim
  | both ha hb => cases h' with
    | left c' h' => exact (errOf_not h' ha).elim
    | right c' _ h' => exact (errOf_not h' hb).elim
    | both _ _ => rfl
theorem Ap.val {op : Int} {a b d : Dt} (h : Ap op a b d) (ha : IsVal a) (hb : IsVal b) : IsVal d := by
  cases h with
  | left c h => exact isVal_flatD _ _ _
  | right c h1 h => exact isVal_flatD _ _ _
  | both h1 h2 => exact isVal_binD ha hb
theorem Ap.wt {op : Int} {a b d : Dt} (h : Ap op a b d) (ha : IsVal a) (hb : IsVal b) : d.wt ≤ a.wt + b.wt := by
  cases h with
  | left c h => unfold errD; rw [wt_flatD]; omega
  | right c h1 h => unfold errD; rw [wt_flatD]; omega
  | both h1 h2 => exact wt_binD ha hb
end Go.Proofs.YtabcmnlmmpbmnaaGreat

/-
  What an operator gives is a valid value; numbers may change places.
-/

namespace Go.Proofs.YtabcmnlmmpbmnaaGreat
open Go.RowKit
set_option linter.unusedVariables false

theorem valD_mk (k n : Int) (t : ByteArray) (l : List Dt) : (valD k n t l).SV ↔ Core (SVs l ∧ l.length ≤ 8 ∧ 1 + deps l ≤ 3) k n 0 t l [] [] := by
  rw [show valD k n t l = .agg [.int k, .int n, .int 0, .str t, .lst l, .lst (([] : List ByteArray).map .str), .lst []] from rfl, SV_mk]
theorem errD_ok {c : Int} (h1 : 1 ≤ c) (h2 : c ≤ 8) : (errD c).SV := by
  unfold errD
  rw [valD_mk]
  exact .inr (.inr (.inr (.inr (.inr ⟨rfl, ⟨h1, h2⟩, rfl, rfl, rfl, rfl, rfl⟩))))
theorem numD_ok {n : Int} (h : NumOk n) : (valD 1 n ⟨#[]⟩ []).SV := by
  rw [valD_mk]
  exact .inl ⟨rfl, h, rfl, rfl, rfl, rfl, rfl⟩
theorem chkD_ok (n : Int) : (chkD n).SV := by
  unfold chkD chkK chkN
  by_cases h : NumOkB n = true
  · rw [if_pos h, if_pos h]
    exact numD_ok ((NumOkB_iff n).1 h)
  · rw [if_neg h, if_neg h]
    exact errD_ok (c := 5) (by omega) (by omega)
theorem truD_ok (b : Bool) : (truD b).SV := by
  unfold truD
  refine numD_ok ?_
  cases b <;> (unfold truN NumOk; simp)
theorem okTs_cat {s t : ByteArray} (hs : okTs s s.size) (ht : okTs t t.size) : okTs (s ++ t) (s ++ t).size := by
  intro k h _
  by_cases hk : k < s.size
  · rw [ByteArray.getElem_append_left hk]
    exact hs k hk hk
  · have h2 : k - s.size < t.size := by rw [size_cat] at h; omega
    rw [ByteArray.getElem_append_right (by omega)]
    exact ht _ h2 h2
theorem parts_txt {a : Dt} (ha : IsVal a) (h : a.SV) (hk : a.kd = 2) : VT a.tx := by
  obtain ⟨k, n, s, t, l, c, r, hl, hr⟩ := ha
  rw [SV_mk] at h
  have hk : k = 2 := hk
  subst hk
  rcases h with h | h | h | h | h | h
  · exact absurd h.1 (by omega)
  · exact h.2.1
  all_goals exact absurd h.1 (by omega)
theorem parts_lst {a : Dt} (ha : IsVal a) (h : a.SV) (hk : a.kd = 3) : SVs a.el ∧ 1 + deps a.el ≤ 3 := by
  obtain ⟨k, n, s, t, l, c, r, hl, hr⟩ := ha
  rw [SV_mk] at h
  have hk : k = 3 := hk
  subst hk
  rcases h with h | h | h | h | h | h
  · exact absurd h.1 (by omega)
  · exact absurd h.1 (by omega)
  · exact ⟨h.2.1.1, h.2.1.2.2⟩
  all_goals exact absurd h.1 (by omega)
theorem parts_err {a : Dt} (ha : IsVal a) (h : a.SV) (hk : a.kd = 6) : 1 ≤ a.nm ∧ a.nm ≤ 8 := by
  obtain ⟨k, n, s, t, l, c, r, hl, hr⟩ := ha
  rw [SV_mk] at h
  have hk : k = 6 := hk
  subst hk
  rcases h with h | h | h | h | h | h
  · exact absurd h.1 (by omega)
  · exact absurd h.1 (by omega)
  · exact absurd h.1 (by omega)
  · exact absurd h.1 (by omega)
  · exact absurd h.1 (by omega)
  · exact h.2.1
theorem errOf_bd {a : Dt} {c : Int} (ha : IsVal a) (h : ErrOf a c) : 1 ≤ c ∧ c ≤ 8 := by
  rcases h with ⟨_, rfl⟩ | ⟨h1, h2, rfl⟩
  · omega
  · exact parts_err ha h1 h2
theorem deps_cat : ∀ (l m : List Dt) (k : Nat), deps l ≤ k → deps m ≤ k → deps (l ++ m) ≤ k
  | [], m, k, _, h => h
  | x :: l, m, k, h1, h2 => by
    have := deps_cat l m k
    simp only [deps, List.cons_append] at h1 ⊢
    omega
theorem addD_ok {a b : Dt} (ha : IsVal a) (hb : IsVal b) (h1 : a.SV) (h2 : b.SV) : (addD a b).SV := by
  unfold addD
  split
  · exact chkD_ok _
  · split
    · rename_i h
      unfold catT
      split
      · exact errD_ok (by omega) (by omega)
      · rename_i hs
        have v1 := parts_txt ha h1 h.1
        have v2 := parts_txt hb h2 h.2
        rw [valD_mk]
        exact .inr (.inl ⟨rfl, ⟨by rw [size_cat]; omega, okTs_cat v1.2 v2.2⟩, rfl, rfl, rfl, rfl, rfl⟩)
    · split
      · rename_i h
        unfold catL
        split
        · exact errD_ok (by omega) (by omega)
        · rename_i hs
          have v1 := parts_lst ha h1 h.1
          have v2 := parts_lst hb h2 h.2
          rw [valD_mk]
          refine .inr (.inr (.inl ⟨rfl, ⟨?_, by rw [List.length_append]; omega, ?_⟩, rfl, rfl, rfl, rfl, rfl⟩))
          · rw [SVs_all]
            intro x hx
            rcases List.mem_append.1 hx with hx | hx
            · exact (SVs_all _).1 v1.1 x hx
            · exact (SVs_all _).1 v2.1 x hx
          · have := deps_cat a.el b.el 2 (by omega) (by omega)
            omega
      · exact errD_ok (by omega) (by omega)
theorem Ap.sv {op : Int} {a b d : Dt} (h : Ap op a b d) (ha : IsVal a) (hb : IsVal b) : d.SV := by
  cases h with
  | left c h => exact errD_ok (errOf_bd ha h).1 (errOf_bd ha h).2
  | right c _ h => exact errD_ok (errOf_bd hb h).1 (errOf_bd hb h).2
  | both h1 h2 =>
    unfold binD
    split
    · exact addD_ok ha hb h1.1 h2.1
    · unfold numD lessD
      (repeat' split) <;> first | exact chkD_ok _ | exact truD_ok _ | exact errD_ok (by omega) (by omega)
end Go.Proofs.YtabcmnlmmpbmnaaGreat

/-
  What the functions of lists and streams give: plain mathematics.
-/

namespace Go.Proofs.YtabcmnlmmpbmnaaGreat
open Go.RowKit
set_option linter.unusedVariables false

theorem wt_err (c : Int) : (errD c).wt = 0 := wt_flatD 6 c
/-- A function of one value, the operand's error first. -/
inductive One (f : Dt → Dt) (a : Dt) : Dt → Prop
  | err (c : Int) (h : ErrOf a c) : One f a (errD c)
  | ok (h : Fine a) : One f a (f a)
theorem One.one {f : Dt → Dt} {a d d' : Dt} (h : One f a d) (h' : One f a d') : d = d' := by
  cases h with
  | err c h => cases h' with
    | err c' h' => rw [errOf_one h h']
    | ok h' => exact (errOf_not h h').elim
  | ok h => cases h' with
    | err c' h' => exact (errOf_not h' h).elim
    | ok h' => rfl
theorem One.val {f : Dt → Dt} {a d : Dt} (h : One f a d) (hf : IsVal (f a)) : IsVal d := by
  cases h with
  | err c h => exact isVal_flatD _ _ _
  | ok h => exact hf
theorem One.wt {f : Dt → Dt} {a d : Dt} (h : One f a d) (hf : (f a).wt ≤ a.wt) : d.wt ≤ a.wt := by
  cases h with
  | err c h => rw [wt_err]; omega
  | ok h => exact hf

/-- A function of a number and a list or a stream. -/
def PairErr (a b : Dt) (c : Int) : Prop := (ErrOf a c ∨ (Fine a ∧ ErrOf b c)) ∨ (Fine a ∧ Fine b ∧ (a.kd ≠ 1 ∨ (b.kd ≠ 3 ∧ b.kd ≠ 4)) ∧ c = 4)
def PairOk (a b : Dt) : Prop := Fine a ∧ Fine b ∧ a.kd = 1 ∧ (b.kd = 3 ∨ b.kd = 4)
theorem pairErr_not {a b : Dt} {c : Int} (h : PairErr a b c) (h' : PairOk a b) : False := by
  rcases h with (h | ⟨_, h⟩) | ⟨_, _, h | ⟨h, g⟩, _⟩
  · exact errOf_not h h'.1
  · exact errOf_not h h'.2.1
  · exact h h'.2.2.1
  · rcases h'.2.2.2 with e | e
    · exact h e
    · exact g e
theorem pairErr_one {a b : Dt} {c c' : Int} (h : PairErr a b c) (h' : PairErr a b c') : c = c' := by
  rcases h with (h | ⟨f, h⟩) | ⟨f, g, _, rfl⟩ <;> rcases h' with (h' | ⟨f', h'⟩) | ⟨f', g', _, rfl⟩
  · exact errOf_one h h'
  · exact (errOf_not h f').elim
  · exact (errOf_not h f').elim
  · exact (errOf_not h' f).elim
  · exact errOf_one h h'
  · exact (errOf_not h g').elim
  · exact (errOf_not h' f).elim
  · exact (errOf_not h' g).elim
  · rfl
inductive Two (f : Dt → Dt → Dt) (a b : Dt) : Dt → Prop
  | err (c : Int) (h : PairErr a b c) : Two f a b (errD c)
  | ok (h : PairOk a b) : Two f a b (f a b)
theorem Two.one {f : Dt → Dt → Dt} {a b d d' : Dt} (h : Two f a b d) (h' : Two f a b d') : d = d' := by
  cases h with
  | err c h => cases h' with
    | err c' h' => rw [pairErr_one h h']
    | ok h' => exact (pairErr_not h h').elim
  | ok h => cases h' with
    | err c' h' => exact (pairErr_not h' h).elim
    | ok h' => rfl
theorem Two.val {f : Dt → Dt → Dt} {a b d : Dt} (h : Two f a b d) (hf : IsVal (f a b)) : IsVal d := by
  cases h with
  | err c h => exact isVal_flatD _ _ _
  | ok h => exact hf
theorem Two.wt {f : Dt → Dt → Dt} {a b d : Dt} (h : Two f a b d) (hf : (f a b).wt ≤ a.wt + b.wt) : d.wt ≤ a.wt + b.wt := by
  cases h with
  | err c h => rw [wt_err]; omega
  | ok h => exact hf

/-- A number within the limits, or an error. -/
def NE (d : Dt) : Prop := (∃ s, NumOk s ∧ d = valD 1 s ⟨#[]⟩ []) ∨ (∃ c, 1 ≤ c ∧ c ≤ 8 ∧ d = errD c)
theorem NE.val {d : Dt} (h : NE d) : IsVal d := by
  rcases h with ⟨s, _, rfl⟩ | ⟨c, _, _, rfl⟩
  · exact isVal_flatD _ _ _
  · exact isVal_flatD _ _ _
theorem NE.wt {d : Dt} (h : NE d) : d.wt = 0 := by
  rcases h with ⟨s, _, rfl⟩ | ⟨c, _, _, rfl⟩
  · exact wt_flatD _ _
  · exact wt_err _
/-- A value's cells say its kind. -/
theorem kd_cell {w : World} {B : Nat} {d : Dt} {y0 y1 : Int} {cs : List Value} (hd : IsVal d) (h : Rd w B d (.int .i64 y0 :: .int .i64 y1 :: cs)) : d.kd = y0 ∧ d.nm = y1 := by
  cases hd
  obtain ⟨A4, c4, A5, c5, A6, c6, hc, _⟩ := Rd.ofValue h
  simp only [List.cons.injEq, Value.int.injEq] at hc
  exact ⟨hc.1.2.symm, hc.2.1.2.symm⟩
end Go.Proofs.YtabcmnlmmpbmnaaGreat
