/-
  Texts that the proof rests on, put together: SpecVal, ValLaw.
-/
import Derived.Test.YtabcmnlmmpbmnaaGreatMgH42
import Derived.Test.YtabcmnlmmpbmnaaGreatMgH5
import Derived.Test.YtabcmnlmmpbmnaaGreatMgH7
/-
  IsValidValue, the model's: by kinds; and the law FnExactIsValidValue's contracts. (Written by genvalall.py.)
-/

namespace Go.Proofs.YtabcmnlmmpbmnaaGreat
open Go.RowKit
set_option linter.unusedVariables false

theorem EqP.iffS {P Q : Prop} {w : World} (hPQ : P ↔ Q) (e : Ending) (w' : World) (h : EqP P w e w') : EqP Q w e w' := by
  obtain ⟨b, h1, h2, h3⟩ := h
  exact ⟨b, h1, h2.trans hPQ, h3⟩

set_option maxHeartbeats 1600000 in
set_option maxRecDepth 100000 in
theorem specV0_of (k : Int) (n s : Int) (t : ByteArray) (l : List Dt) (cc : List ByteArray) (r : List Dt) (A4 A5 A6 : Option Addr) (q4 q5 q6 : Nat) (w : World) (h1 : k ≠ 1) (h2 : k ≠ 2) (h3 : k ≠ 3) (h4 : k ≠ 4) (h5 : k ≠ 5) (h6 : k ≠ 6) (hln : l.length ≤ 9223372036854775807) (hcn : cc.length ≤ 1048576) (hrn : r.length ≤ 1048576) :
    Calls Tryz.prog 16 #[.agg #[.int .i64 k, .int .i64 n, .int .i64 s, .string t, .slice A4 l.length q4, .slice A5 cc.length q5, .slice A6 r.length q6]] w (EqP ((l = []) ∧ (cc = [] ∧ r = []) ∧ (t = ⟨#[]⟩) ∧ (s = 0) ∧ (False)) w) := by
  have b1 : (k == 1) = false := by simp [h1]
  have n1 : (k != 1) = true := by simp [h1]
  have b2 : (k == 2) = false := by simp [h2]
  have n2 : (k != 2) = true := by simp [h2]
  have b3 : (k == 3) = false := by simp [h3]
  have n3 : (k != 3) = true := by simp [h3]
  have b4 : (k == 4) = false := by simp [h4]
  have n4 : (k != 4) = true := by simp [h4]
  have b5 : (k == 5) = false := by simp [h5]
  have n5 : (k != 5) = true := by simp [h5]
  have b6 : (k == 6) = false := by simp [h6]
  have n6 : (k != 6) = true := by simp [h6]
  by_cases c0 : 0 < l.length
  · have c0' : (l.length : Int) > 0 := by omega
    go_enter Tryz.func16, Tryz.ntmps16
    go_wp2_with fail
    go_ret
    exact ⟨false, rfl, iff_of_false (by simp) (fun hh => by have := hh.1; rw [this] at c0; simp at c0), (Below.refl _ _).alloc (Nat.le_refl _) _⟩
  have l0 : l.length = 0 := by omega
  obtain rfl : l = [] := List.eq_nil_of_length_eq_zero l0
  by_cases c1 : 0 < cc.length + r.length
  · have c1' : ((cc.length : Int) + r.length) > 0 := by omega
    go_enter Tryz.func16, Tryz.ntmps16
    go_wp2_with fail
    go_ret
    exact ⟨false, rfl, iff_of_false (by simp) (fun hh => by have := hh.2.1; rw [this.1, this.2] at c1; simp at c1), (Below.refl _ _).alloc (Nat.le_refl _) _⟩
  obtain rfl : cc = [] := List.eq_nil_of_length_eq_zero (by omega)
  obtain rfl : r = [] := List.eq_nil_of_length_eq_zero (by omega)
  clear c1
  by_cases c2 : t = ⟨#[]⟩
  rotate_left
  · have e9 : (⟨#[]⟩ : ByteArray).toList = [] := by first | rfl | (rw [ByteArray.toList_eq])
    have e2 : ¬ t.toList = [] := fun e => c2 (bytes_inj (by rw [e, e9]))
    have e0 : (t.toList == []) = false := by simp [e2]
    have e1 : (t.toList != []) = true := by simp [e2]
    clear e9
    have C2 := Lib.hid c2
    clear c2
    go_enter Tryz.func16, Tryz.ntmps16
    go_wp2_with fail
    go_ret
    exact ⟨false, rfl, iff_of_false (by simp) (fun hh => C2.out hh.2.2.1), (Below.refl _ _).alloc (Nat.le_refl _) _⟩
  subst c2
  by_cases c3 : s = 0
  rotate_left
  · have e1 : (s != 0) = true := by simp [c3]
    have C3 := Lib.hid c3
    clear c3
    go_enter Tryz.func16, Tryz.ntmps16
    go_wp2_with fail
    go_ret
    exact ⟨false, rfl, iff_of_false (by simp) (fun hh => C3.out hh.2.2.2.1), (Below.refl _ _).alloc (Nat.le_refl _) _⟩
  subst c3
  go_enter Tryz.func16, Tryz.ntmps16
  go_wp2_with fail
  go_ret
  exact ⟨false, rfl, by simp, (Below.refl _ _).alloc (Nat.le_refl _) _⟩

set_option maxHeartbeats 1600000 in
set_option maxRecDepth 100000 in
theorem specV1_of (n s : Int) (t : ByteArray) (l : List Dt) (cc : List ByteArray) (r : List Dt) (A4 A5 A6 : Option Addr) (q4 q5 q6 : Nat) (w : World) (hln : l.length ≤ 9223372036854775807) (hcn : cc.length ≤ 1048576) (hrn : r.length ≤ 1048576) :
    Calls Tryz.prog 16 #[.agg #[.int .i64 1, .int .i64 n, .int .i64 s, .string t, .slice A4 l.length q4, .slice A5 cc.length q5, .slice A6 r.length q6]] w (EqP ((l = []) ∧ (cc = [] ∧ r = []) ∧ (t = ⟨#[]⟩) ∧ (s = 0) ∧ (NumOk n)) w) := by
  by_cases c0 : 0 < l.length
  · have c0' : (l.length : Int) > 0 := by omega
    go_enter Tryz.func16, Tryz.ntmps16
    go_wp2_with fail
    go_ret
    exact ⟨false, rfl, iff_of_false (by simp) (fun hh => by have := hh.1; rw [this] at c0; simp at c0), (Below.refl _ _).alloc (Nat.le_refl _) _⟩
  have l0 : l.length = 0 := by omega
  obtain rfl : l = [] := List.eq_nil_of_length_eq_zero l0
  by_cases c1 : 0 < cc.length + r.length
  · have c1' : ((cc.length : Int) + r.length) > 0 := by omega
    go_enter Tryz.func16, Tryz.ntmps16
    go_wp2_with fail
    go_ret
    exact ⟨false, rfl, iff_of_false (by simp) (fun hh => by have := hh.2.1; rw [this.1, this.2] at c1; simp at c1), (Below.refl _ _).alloc (Nat.le_refl _) _⟩
  obtain rfl : cc = [] := List.eq_nil_of_length_eq_zero (by omega)
  obtain rfl : r = [] := List.eq_nil_of_length_eq_zero (by omega)
  clear c1
  by_cases c2 : t = ⟨#[]⟩
  rotate_left
  · have e9 : (⟨#[]⟩ : ByteArray).toList = [] := by first | rfl | (rw [ByteArray.toList_eq])
    have e2 : ¬ t.toList = [] := fun e => c2 (bytes_inj (by rw [e, e9]))
    have e0 : (t.toList == []) = false := by simp [e2]
    have e1 : (t.toList != []) = true := by simp [e2]
    clear e9
    have C2 := Lib.hid c2
    clear c2
    go_enter Tryz.func16, Tryz.ntmps16
    go_wp2_with fail
    go_ret
    exact ⟨false, rfl, iff_of_false (by simp) (fun hh => C2.out hh.2.2.1), (Below.refl _ _).alloc (Nat.le_refl _) _⟩
  subst c2
  by_cases c3 : s = 0
  rotate_left
  · have e1 : (s != 0) = true := by simp [c3]
    have C3 := Lib.hid c3
    clear c3
    go_enter Tryz.func16, Tryz.ntmps16
    go_wp2_with fail
    go_ret
    exact ⟨false, rfl, iff_of_false (by simp) (fun hh => C3.out hh.2.2.2.1), (Below.refl _ _).alloc (Nat.le_refl _) _⟩
  subst c3
  go_enter Tryz.func16, Tryz.ntmps16
  go_wp2_with fail
  refine (l3Number_any n _).mono ?_
  rintro e w2 ⟨b, rfl, hb, rfl⟩
  have HB := Lib.hid hb
  clear hb
  go_wp2_with fail
  go_ret
  exact ⟨b, rfl, HB.out.trans ⟨fun h => by simp_all, fun hh => by simp_all⟩, (Below.refl _ _).alloc (Nat.le_refl _) _⟩

set_option maxHeartbeats 1600000 in
set_option maxRecDepth 100000 in
theorem specV2_of (n s : Int) (t : ByteArray) (l : List Dt) (cc : List ByteArray) (r : List Dt) (A4 A5 A6 : Option Addr) (q4 q5 q6 : Nat) (w : World) (ht : t.size ≤ 1048576) (hln : l.length ≤ 9223372036854775807) (hcn : cc.length ≤ 1048576) (hrn : r.length ≤ 1048576) :
    Calls Tryz.prog 16 #[.agg #[.int .i64 2, .int .i64 n, .int .i64 s, .string t, .slice A4 l.length q4, .slice A5 cc.length q5, .slice A6 r.length q6]] w (EqP ((l = []) ∧ (cc = [] ∧ r = []) ∧ (s = 0) ∧ (n = 0 ∧ VT t)) w) := by
  by_cases c0 : 0 < l.length
  · have c0' : (l.length : Int) > 0 := by omega
    go_enter Tryz.func16, Tryz.ntmps16
    go_wp2_with fail
    go_ret
    exact ⟨false, rfl, iff_of_false (by simp) (fun hh => by have := hh.1; rw [this] at c0; simp at c0), (Below.refl _ _).alloc (Nat.le_refl _) _⟩
  have l0 : l.length = 0 := by omega
  obtain rfl : l = [] := List.eq_nil_of_length_eq_zero l0
  by_cases c1 : 0 < cc.length + r.length
  · have c1' : ((cc.length : Int) + r.length) > 0 := by omega
    go_enter Tryz.func16, Tryz.ntmps16
    go_wp2_with fail
    go_ret
    exact ⟨false, rfl, iff_of_false (by simp) (fun hh => by have := hh.2.1; rw [this.1, this.2] at c1; simp at c1), (Below.refl _ _).alloc (Nat.le_refl _) _⟩
  obtain rfl : cc = [] := List.eq_nil_of_length_eq_zero (by omega)
  obtain rfl : r = [] := List.eq_nil_of_length_eq_zero (by omega)
  clear c1
  by_cases c3 : s = 0
  rotate_left
  · have e1 : (s != 0) = true := by simp [c3]
    have C3 := Lib.hid c3
    clear c3
    go_enter Tryz.func16, Tryz.ntmps16
    go_wp2_with fail
    go_ret
    exact ⟨false, rfl, iff_of_false (by simp) (fun hh => C3.out hh.2.2.1), (Below.refl _ _).alloc (Nat.le_refl _) _⟩
  subst c3
  by_cases c4 : n = 0
  rotate_left
  · have e1 : (n == 0) = false := by simp [c4]
    have C4 := Lib.hid c4
    clear c4
    go_enter Tryz.func16, Tryz.ntmps16
    go_wp2_with fail
    go_ret
    exact ⟨false, rfl, iff_of_false (by simp) (fun hh => C4.out hh.2.2.2.1), (Below.refl _ _).alloc (Nat.le_refl _) _⟩
  subst c4
  go_enter Tryz.func16, Tryz.ntmps16
  go_wp2_with fail
  refine (specText_any t _ ht).mono ?_
  rintro e w2 ⟨b, rfl, hb, rfl⟩
  have HB := Lib.hid hb
  clear hb
  go_wp2_with fail
  go_ret
  exact ⟨b, rfl, HB.out.trans ⟨fun h => by simp_all, fun hh => by simp_all⟩, (Below.refl _ _).alloc (Nat.le_refl _) _⟩

set_option maxHeartbeats 1600000 in
set_option maxRecDepth 100000 in
theorem specV3_of (n s : Int) (t : ByteArray) (l : List Dt) (cc : List ByteArray) (r : List Dt) (A4 A5 A6 : Option Addr) (q4 q5 q6 : Nat) (w : World) (L : Prop) (hL : ∀ w', Below w.heap.size w w' → Calls Tryz.prog 60 #[.agg #[.int .i64 3, .int .i64 n, .int .i64 s, .string t, .slice A4 l.length q4, .slice A5 cc.length q5, .slice A6 r.length q6]] w' (EqP L w')) (hln : l.length ≤ 9223372036854775807) (hcn : cc.length ≤ 1048576) (hrn : r.length ≤ 1048576) :
    Calls Tryz.prog 16 #[.agg #[.int .i64 3, .int .i64 n, .int .i64 s, .string t, .slice A4 l.length q4, .slice A5 cc.length q5, .slice A6 r.length q6]] w (EqP ((cc = [] ∧ r = []) ∧ (t = ⟨#[]⟩) ∧ (s = 0) ∧ (n = 0 ∧ L)) w) := by
  have HL := Lib.hid hL
  clear hL
  by_cases c1 : 0 < cc.length + r.length
  · have c1' : ((cc.length : Int) + r.length) > 0 := by omega
    go_enter Tryz.func16, Tryz.ntmps16
    go_wp2_with fail
    go_ret
    exact ⟨false, rfl, iff_of_false (by simp) (fun hh => by have := hh.1; rw [this.1, this.2] at c1; simp at c1), (Below.refl _ _).alloc (Nat.le_refl _) _⟩
  obtain rfl : cc = [] := List.eq_nil_of_length_eq_zero (by omega)
  obtain rfl : r = [] := List.eq_nil_of_length_eq_zero (by omega)
  clear c1
  by_cases c2 : t = ⟨#[]⟩
  rotate_left
  · have e9 : (⟨#[]⟩ : ByteArray).toList = [] := by first | rfl | (rw [ByteArray.toList_eq])
    have e2 : ¬ t.toList = [] := fun e => c2 (bytes_inj (by rw [e, e9]))
    have e0 : (t.toList == []) = false := by simp [e2]
    have e1 : (t.toList != []) = true := by simp [e2]
    clear e9
    have C2 := Lib.hid c2
    clear c2
    go_enter Tryz.func16, Tryz.ntmps16
    go_wp2_with fail
    go_ret
    exact ⟨false, rfl, iff_of_false (by simp) (fun hh => C2.out hh.2.1), (Below.refl _ _).alloc (Nat.le_refl _) _⟩
  subst c2
  by_cases c3 : s = 0
  rotate_left
  · have e1 : (s != 0) = true := by simp [c3]
    have C3 := Lib.hid c3
    clear c3
    go_enter Tryz.func16, Tryz.ntmps16
    go_wp2_with fail
    go_ret
    exact ⟨false, rfl, iff_of_false (by simp) (fun hh => C3.out hh.2.2.1), (Below.refl _ _).alloc (Nat.le_refl _) _⟩
  subst c3
  by_cases c4 : n = 0
  rotate_left
  · have e1 : (n == 0) = false := by simp [c4]
    have C4 := Lib.hid c4
    clear c4
    go_enter Tryz.func16, Tryz.ntmps16
    go_wp2_with fail
    go_ret
    exact ⟨false, rfl, iff_of_false (by simp) (fun hh => C4.out hh.2.2.2.1), (Below.refl _ _).alloc (Nat.le_refl _) _⟩
  subst c4
  go_enter Tryz.func16, Tryz.ntmps16
  go_wp2_with fail
  refine (HL.out _ ((Below.refl _ _).alloc (Nat.le_refl _) _)).mono ?_
  rintro e w2 ⟨b, rfl, hb, hbel⟩
  have HB := Lib.hid (And.intro hb hbel)
  clear hb hbel
  go_wp2_with fail
  go_ret
  exact ⟨b, rfl, HB.out.1.trans ⟨fun h => by simp_all, fun hh => by simp_all⟩, Below.trans ((Below.refl _ _).alloc (Nat.le_refl _) _) (HB.out.2.mono (by simp))⟩

set_option maxHeartbeats 1600000 in
set_option maxRecDepth 100000 in
theorem specV4_of (n s : Int) (t : ByteArray) (l : List Dt) (cc : List ByteArray) (r : List Dt) (A4 A5 A6 : Option Addr) (q4 q5 q6 : Nat) (w : World) (hln : l.length ≤ 9223372036854775807) (hcn : cc.length ≤ 1048576) (hrn : r.length ≤ 1048576) :
    Calls Tryz.prog 16 #[.agg #[.int .i64 4, .int .i64 n, .int .i64 s, .string t, .slice A4 l.length q4, .slice A5 cc.length q5, .slice A6 r.length q6]] w (EqP ((l = []) ∧ (cc = [] ∧ r = []) ∧ (t = ⟨#[]⟩) ∧ (NumOk n ∧ NumOk s)) w) := by
  by_cases c0 : 0 < l.length
  · have c0' : (l.length : Int) > 0 := by omega
    go_enter Tryz.func16, Tryz.ntmps16
    go_wp2_with fail
    go_ret
    exact ⟨false, rfl, iff_of_false (by simp) (fun hh => by have := hh.1; rw [this] at c0; simp at c0), (Below.refl _ _).alloc (Nat.le_refl _) _⟩
  have l0 : l.length = 0 := by omega
  obtain rfl : l = [] := List.eq_nil_of_length_eq_zero l0
  by_cases c1 : 0 < cc.length + r.length
  · have c1' : ((cc.length : Int) + r.length) > 0 := by omega
    go_enter Tryz.func16, Tryz.ntmps16
    go_wp2_with fail
    go_ret
    exact ⟨false, rfl, iff_of_false (by simp) (fun hh => by have := hh.2.1; rw [this.1, this.2] at c1; simp at c1), (Below.refl _ _).alloc (Nat.le_refl _) _⟩
  obtain rfl : cc = [] := List.eq_nil_of_length_eq_zero (by omega)
  obtain rfl : r = [] := List.eq_nil_of_length_eq_zero (by omega)
  clear c1
  by_cases c2 : t = ⟨#[]⟩
  rotate_left
  · have e9 : (⟨#[]⟩ : ByteArray).toList = [] := by first | rfl | (rw [ByteArray.toList_eq])
    have e2 : ¬ t.toList = [] := fun e => c2 (bytes_inj (by rw [e, e9]))
    have e0 : (t.toList == []) = false := by simp [e2]
    have e1 : (t.toList != []) = true := by simp [e2]
    clear e9
    have C2 := Lib.hid c2
    clear c2
    go_enter Tryz.func16, Tryz.ntmps16
    go_wp2_with fail
    go_ret
    exact ⟨false, rfl, iff_of_false (by simp) (fun hh => C2.out hh.2.2.1), (Below.refl _ _).alloc (Nat.le_refl _) _⟩
  subst c2
  go_enter Tryz.func16, Tryz.ntmps16
  go_wp2_with fail
  refine (l3Number_any n _).mono ?_
  rintro e w2 ⟨b, rfl, hb, rfl⟩
  have HB := Lib.hid hb
  clear hb
  cases b
  · go_wp2_with fail
    go_ret
    exact ⟨false, rfl, iff_of_false (by simp) (fun hh => absurd (HB.out.2 hh.2.2.2.1) (by simp)), (Below.refl _ _).alloc (Nat.le_refl _) _⟩
  go_wp2_with fail
  refine (l3Number_any s _).mono ?_
  rintro e w2 ⟨b, rfl, hb, rfl⟩
  have HB2 := Lib.hid hb
  clear hb
  go_wp2_with fail
  go_ret
  exact ⟨b, rfl, HB2.out.trans ⟨fun h => ⟨by simp, by simp, by simp, HB.out.1 (by trivial), h⟩, fun hh => hh.2.2.2.2⟩, (Below.refl _ _).alloc (Nat.le_refl _) _⟩

set_option maxHeartbeats 1600000 in
set_option maxRecDepth 100000 in
theorem specV5_of (n s : Int) (t : ByteArray) (l : List Dt) (cc : List ByteArray) (r : List Dt) (A4 A5 A6 : Option Addr) (q4 q5 q6 : Nat) (w : World) (T : Prop) (hT : ∀ w', Below w.heap.size w w' → Calls Tryz.prog 61 #[.agg #[.int .i64 5, .int .i64 n, .int .i64 s, .string t, .slice A4 l.length q4, .slice A5 cc.length q5, .slice A6 r.length q6]] w' (EqP T w')) (hln : l.length ≤ 9223372036854775807) (hcn : cc.length ≤ 1048576) (hrn : r.length ≤ 1048576) :
    Calls Tryz.prog 16 #[.agg #[.int .i64 5, .int .i64 n, .int .i64 s, .string t, .slice A4 l.length q4, .slice A5 cc.length q5, .slice A6 r.length q6]] w (EqP ((l = []) ∧ (t = ⟨#[]⟩) ∧ (s = 0) ∧ (n = 0 ∧ T)) w) := by
  have HL := Lib.hid hT
  clear hT
  by_cases c0 : 0 < l.length
  · have c0' : (l.length : Int) > 0 := by omega
    go_enter Tryz.func16, Tryz.ntmps16
    go_wp2_with fail
    go_ret
    exact ⟨false, rfl, iff_of_false (by simp) (fun hh => by have := hh.1; rw [this] at c0; simp at c0), (Below.refl _ _).alloc (Nat.le_refl _) _⟩
  have l0 : l.length = 0 := by omega
  obtain rfl : l = [] := List.eq_nil_of_length_eq_zero l0
  by_cases c2 : t = ⟨#[]⟩
  rotate_left
  · have e9 : (⟨#[]⟩ : ByteArray).toList = [] := by first | rfl | (rw [ByteArray.toList_eq])
    have e2 : ¬ t.toList = [] := fun e => c2 (bytes_inj (by rw [e, e9]))
    have e0 : (t.toList == []) = false := by simp [e2]
    have e1 : (t.toList != []) = true := by simp [e2]
    clear e9
    have C2 := Lib.hid c2
    clear c2
    go_enter Tryz.func16, Tryz.ntmps16
    go_wp2_with fail
    go_ret
    exact ⟨false, rfl, iff_of_false (by simp) (fun hh => C2.out hh.2.1), (Below.refl _ _).alloc (Nat.le_refl _) _⟩
  subst c2
  by_cases c3 : s = 0
  rotate_left
  · have e1 : (s != 0) = true := by simp [c3]
    have C3 := Lib.hid c3
    clear c3
    go_enter Tryz.func16, Tryz.ntmps16
    go_wp2_with fail
    go_ret
    exact ⟨false, rfl, iff_of_false (by simp) (fun hh => C3.out hh.2.2.1), (Below.refl _ _).alloc (Nat.le_refl _) _⟩
  subst c3
  by_cases c4 : n = 0
  rotate_left
  · have e1 : (n == 0) = false := by simp [c4]
    have C4 := Lib.hid c4
    clear c4
    go_enter Tryz.func16, Tryz.ntmps16
    go_wp2_with fail
    go_ret
    exact ⟨false, rfl, iff_of_false (by simp) (fun hh => C4.out hh.2.2.2.1), (Below.refl _ _).alloc (Nat.le_refl _) _⟩
  subst c4
  go_enter Tryz.func16, Tryz.ntmps16
  go_wp2_with fail
  refine (HL.out _ ((Below.refl _ _).alloc (Nat.le_refl _) _)).mono ?_
  rintro e w2 ⟨b, rfl, hb, hbel⟩
  have HB := Lib.hid (And.intro hb hbel)
  clear hb hbel
  go_wp2_with fail
  go_ret
  exact ⟨b, rfl, HB.out.1.trans ⟨fun h => by simp_all, fun hh => by simp_all⟩, Below.trans ((Below.refl _ _).alloc (Nat.le_refl _) _) (HB.out.2.mono (by simp))⟩

set_option maxHeartbeats 1600000 in
set_option maxRecDepth 100000 in
theorem specV6_of (n s : Int) (t : ByteArray) (l : List Dt) (cc : List ByteArray) (r : List Dt) (A4 A5 A6 : Option Addr) (q4 q5 q6 : Nat) (w : World) (hln : l.length ≤ 9223372036854775807) (hcn : cc.length ≤ 1048576) (hrn : r.length ≤ 1048576) :
    Calls Tryz.prog 16 #[.agg #[.int .i64 6, .int .i64 n, .int .i64 s, .string t, .slice A4 l.length q4, .slice A5 cc.length q5, .slice A6 r.length q6]] w (EqP ((l = []) ∧ (cc = [] ∧ r = []) ∧ (t = ⟨#[]⟩) ∧ (s = 0) ∧ (1 ≤ n ∧ n ≤ 8)) w) := by
  by_cases c0 : 0 < l.length
  · have c0' : (l.length : Int) > 0 := by omega
    go_enter Tryz.func16, Tryz.ntmps16
    go_wp2_with fail
    go_ret
    exact ⟨false, rfl, iff_of_false (by simp) (fun hh => by have := hh.1; rw [this] at c0; simp at c0), (Below.refl _ _).alloc (Nat.le_refl _) _⟩
  have l0 : l.length = 0 := by omega
  obtain rfl : l = [] := List.eq_nil_of_length_eq_zero l0
  by_cases c1 : 0 < cc.length + r.length
  · have c1' : ((cc.length : Int) + r.length) > 0 := by omega
    go_enter Tryz.func16, Tryz.ntmps16
    go_wp2_with fail
    go_ret
    exact ⟨false, rfl, iff_of_false (by simp) (fun hh => by have := hh.2.1; rw [this.1, this.2] at c1; simp at c1), (Below.refl _ _).alloc (Nat.le_refl _) _⟩
  obtain rfl : cc = [] := List.eq_nil_of_length_eq_zero (by omega)
  obtain rfl : r = [] := List.eq_nil_of_length_eq_zero (by omega)
  clear c1
  by_cases c2 : t = ⟨#[]⟩
  rotate_left
  · have e9 : (⟨#[]⟩ : ByteArray).toList = [] := by first | rfl | (rw [ByteArray.toList_eq])
    have e2 : ¬ t.toList = [] := fun e => c2 (bytes_inj (by rw [e, e9]))
    have e0 : (t.toList == []) = false := by simp [e2]
    have e1 : (t.toList != []) = true := by simp [e2]
    clear e9
    have C2 := Lib.hid c2
    clear c2
    go_enter Tryz.func16, Tryz.ntmps16
    go_wp2_with fail
    go_ret
    exact ⟨false, rfl, iff_of_false (by simp) (fun hh => C2.out hh.2.2.1), (Below.refl _ _).alloc (Nat.le_refl _) _⟩
  subst c2
  by_cases c3 : s = 0
  rotate_left
  · have e1 : (s != 0) = true := by simp [c3]
    have C3 := Lib.hid c3
    clear c3
    go_enter Tryz.func16, Tryz.ntmps16
    go_wp2_with fail
    go_ret
    exact ⟨false, rfl, iff_of_false (by simp) (fun hh => C3.out hh.2.2.2.1), (Below.refl _ _).alloc (Nat.le_refl _) _⟩
  subst c3
  go_enter Tryz.func16, Tryz.ntmps16
  go_wp2_with fail
  refine (l1In_any n 1 8 _).mono ?_
  rintro e w2 ⟨b, rfl, hb, rfl⟩
  have HB := Lib.hid hb
  clear hb
  go_wp2_with fail
  go_ret
  exact ⟨b, rfl, HB.out.trans ⟨fun h => by simp_all, fun hh => by simp_all⟩, (Below.refl _ _).alloc (Nat.le_refl _) _⟩
end Go.Proofs.YtabcmnlmmpbmnaaGreat

/-
  The law FnExactIsValidValue. (Written by genvlaw.py.)
-/

namespace Go.Proofs.YtabcmnlmmpbmnaaGreat
open Go.RowKit
set_option linter.unusedVariables false

theorem specValidV {d : Dt} (hd : IsVal d) : SpecVC d := by
  induction hd with
  | mk k n s t l cc r hl hr ih =>
  intro hwt cs w h
  have hdv := IsVal.mk k n s t l cc r hl hr
  obtain ⟨A4, q4, A5, q5, A6, q6, rfl, r4, r5, r6⟩ := Rd.ofValue h
  have hwt' := hwt
  simp only [Dt.wt, wts, wts_strs, List.length_map] at hwt'
  have hcs : ∀ s ∈ cc, s.size ≤ 1048576 := fun s hs => by
    have h1 := wts_mem1 (List.mem_map_of_mem (f := Dt.str) hs)
    rw [wts_strs] at h1
    simp only [Dt.wt] at h1
    omega
  have hc5 := r5.lst_len.2.1
  have hln : l.length ≤ 9223372036854775807 := by omega
  have hcn : cc.length ≤ 1048576 := by omega
  have hrn : r.length ≤ 1048576 := by omega
  rw [List.length_map] at *
  by_cases e1 : k = 1
  · subst e1
    refine (specV1_of n s t l cc r A4 A5 A6 q4 q5 q6 w hln hcn hrn).mono (EqP.iffS ?_)
    rw [SV_mk]
    simp only [Core]
    constructor
    · intro hh
      simp_all
    · intro hh
      simp_all
  by_cases e2 : k = 2
  · subst e2
    refine (specV2_of n s t l cc r A4 A5 A6 q4 q5 q6 w (by omega) hln hcn hrn).mono (EqP.iffS ?_)
    rw [SV_mk]
    simp only [Core]
    constructor
    · intro hh
      simp_all
    · intro hh
      simp_all
  by_cases e3 : k = 3
  · subst e3
    refine (specV3_of n s t l cc r A4 A5 A6 q4 q5 q6 w _ (fun w' hb => l3List_of 3 n s t l cc r hdv hl hwt ih A4 A5 A6 q4 q5 q6 w' ((h.below hb).more hb.size) ((r4.below hb).more hb.size)) hln hcn hrn).mono (EqP.iffS ?_)
    rw [SV_mk]
    simp only [Core]
    constructor
    · intro hh
      simp_all
    · intro hh
      simp_all
  by_cases e4 : k = 4
  · subst e4
    refine (specV4_of n s t l cc r A4 A5 A6 q4 q5 q6 w hln hcn hrn).mono (EqP.iffS ?_)
    rw [SV_mk]
    simp only [Core]
    constructor
    · intro hh
      simp_all
    · intro hh
      simp_all
  by_cases e5 : k = 5
  · subst e5
    refine (specV5_of n s t l cc r A4 A5 A6 q4 q5 q6 w _ (fun w' hb => l3Table_any 5 n s t A4 l.length q4 A5 A6 q5 q6 cc r w' ((r5.strs.below hb).more hb.size) hc5 ((r6.below hb).more hb.size) hr hcn hcs) hln hcn hrn).mono (EqP.iffS ?_)
    rw [SV_mk]
    simp only [Core]
    constructor
    · intro hh
      simp_all
    · intro hh
      simp_all
  by_cases e6 : k = 6
  · subst e6
    refine (specV6_of n s t l cc r A4 A5 A6 q4 q5 q6 w hln hcn hrn).mono (EqP.iffS ?_)
    rw [SV_mk]
    simp only [Core]
    constructor
    · intro hh
      simp_all
    · intro hh
      simp_all
  refine (specV0_of k n s t l cc r A4 A5 A6 q4 q5 q6 w e1 e2 e3 e4 e5 e6 hln hcn hrn).mono (EqP.iffS ?_)
  rw [SV_mk]
  simp [Core, e1, e2, e3, e4, e5, e6]

end Go.Proofs.YtabcmnlmmpbmnaaGreat
