/-
  Texts that the proof rests on, put together: NodeI.
-/
import Derived.Test.YtmoacmlkmclfoaaMgX17
import Derived.Deep.QuietTactic
import Derived.BigQuiet
/-
  What the methods isValid answer. (Written by gen10n.py.)
-/

namespace Go.Proofs.Ytmoacmlkmclfoaa
open Go.RowKit
set_option linter.unusedVariables false

set_option maxHeartbeats 1600000 in
set_option maxRecDepth 100000 in
theorem numberNode_any (n : Int) (t : ByteArray) (A : Option Addr) (m c : Nat) (w : World) (hs : t.size ≤ 1048576) (hm : m ≤ 1048577) :
    Calls Try.prog 66 #[.agg #[.int .i64 n, .string t, .slice A m c]] w (EqP (ok_numberNode n t m) w) := by
  by_cases q : 0 ≤ n
  rotate_left
  · skip
    have HN := Lib.hid q
    have q9 : ¬ 0 ≤ n := q
    have q10 : n < 0 := by omega
    go_enter Try.func66, Try.ntmps66
    go_wp2_with fail
    go_wp2_with fail
    go_ret
    exact ⟨false, rfl, ⟨fun h => (by cases h), fun h => by have h1 := (id h).1; omega⟩, (Below.refl _ _).alloc (Nat.le_refl _) _⟩
  have q_4 := q
  by_cases q : n ≤ 1000000000
  rotate_left
  · skip
    have HN := Lib.hid q
    have q9 : ¬ n ≤ 1000000000 := q
    have q10 : 1000000000 < n := by omega
    go_enter Try.func66, Try.ntmps66
    go_wp2_with fail
    go_wp2_with fail
    go_ret
    exact ⟨false, rfl, ⟨fun h => (by cases h), fun h => by have h1 := (id h).2.1; omega⟩, (Below.refl _ _).alloc (Nat.le_refl _) _⟩
  have q_3 := q
  by_cases q : t = ⟨#[]⟩
  rotate_left
  · skip
    have hb : (t.toList == []) = false := text_no q
    have HN := Lib.hid q
    clear q
    go_enter Try.func66, Try.ntmps66
    go_wp2_with fail
    go_wp2_with fail
    go_ret
    exact ⟨false, rfl, ⟨fun h => (by cases h), fun h => absurd ((id h).2.2.1) HN.out⟩, (Below.refl _ _).alloc (Nat.le_refl _) _⟩
  subst q
  by_cases q : m = 0
  rotate_left
  · skip
    have hb : ((m : Int) == 0) = false := by simp; omega
    have HN := Lib.hid q
    clear q
    go_enter Try.func66, Try.ntmps66
    go_wp2_with fail
    go_wp2_with fail
    go_ret
    exact ⟨false, rfl, ⟨fun h => (by cases h), fun h => absurd ((id h).2.2.2) HN.out⟩, (Below.refl _ _).alloc (Nat.le_refl _) _⟩
  subst q
  go_enter Try.func66, Try.ntmps66
  go_wp2_with fail
  go_wp2_with fail
  go_ret
  exact ⟨true, rfl, ⟨fun _ => id ⟨by omega, by omega, rfl, rfl⟩, fun _ => rfl⟩, (Below.refl _ _).alloc (Nat.le_refl _) _⟩

set_option maxHeartbeats 1600000 in
set_option maxRecDepth 100000 in
theorem textNode_any (n : Int) (t : ByteArray) (A : Option Addr) (m c : Nat) (w : World) (hs : t.size ≤ 1048576) (hm : m ≤ 1048577) :
    Calls Try.prog 67 #[.agg #[.int .i64 n, .string t, .slice A m c]] w (EqP (ok_textNode n t m) w) := by
  by_cases q : n = 0
  rotate_left
  · skip
    have hb : ((n : Int) == 0) = false := by simp [q]
    have HN := Lib.hid q
    clear q
    go_enter Try.func67, Try.ntmps67
    go_wp2_with fail
    go_wp2_with fail
    go_ret
    exact ⟨false, rfl, ⟨fun h => (by cases h), fun h => absurd ((id h).1) HN.out⟩, (Below.refl _ _).alloc (Nat.le_refl _) _⟩
  subst q
  by_cases q : m = 0
  rotate_left
  · skip
    have hb : ((m : Int) == 0) = false := by simp; omega
    have HN := Lib.hid q
    clear q
    go_enter Try.func67, Try.ntmps67
    go_wp2_with fail
    refine (implText_any t _ hs).mono ?_
    rintro e w1 ⟨b, rfl, hb, rfl⟩
    have HB := Lib.hid hb
    clear hb
    cases b
    all_goals
      go_wp2_with fail
      go_ret
      exact ⟨false, rfl, ⟨fun h => (by cases h), fun h => absurd ((id h).2.2) HN.out⟩, (Below.refl _ _).alloc (Nat.le_refl _) _⟩
  subst q
  go_enter Try.func67, Try.ntmps67
  go_wp2_with fail
  refine (implText_any t _ hs).mono ?_
  rintro e w1 ⟨b, rfl, hb, rfl⟩
  have HB := Lib.hid hb
  clear hb
  cases b
  · skip
    go_wp2_with fail
    go_ret
    exact ⟨false, rfl, ⟨fun h => (by cases h), fun h => absurd ((id h).2.1) (fun h2 => by have := HB.out.2 h2; cases this)⟩, (Below.refl _ _).alloc (Nat.le_refl _) _⟩
  · skip
    go_wp2_with fail
    go_ret
    exact ⟨true, rfl, ⟨fun _ => id ⟨rfl, HB.out.1 (by trivial), rfl⟩, fun _ => rfl⟩, (Below.refl _ _).alloc (Nat.le_refl _) _⟩

set_option maxHeartbeats 1600000 in
set_option maxRecDepth 100000 in
theorem nameNode_any (n : Int) (t : ByteArray) (A : Option Addr) (m c : Nat) (w : World) (hs : t.size ≤ 1048576) (hm : m ≤ 1048577) :
    Calls Try.prog 69 #[.agg #[.int .i64 n, .string t, .slice A m c]] w (EqP (ok_nameNode n t m) w) := by
  by_cases q : n = 0
  rotate_left
  · skip
    have hb : ((n : Int) == 0) = false := by simp [q]
    have HN := Lib.hid q
    clear q
    go_enter Try.func69, Try.ntmps69
    go_wp2_with fail
    go_wp2_with fail
    go_ret
    exact ⟨false, rfl, ⟨fun h => (by cases h), fun h => absurd ((id h).1) HN.out⟩, (Below.refl _ _).alloc (Nat.le_refl _) _⟩
  subst q
  by_cases q : m = 0
  rotate_left
  · skip
    have hb : ((m : Int) == 0) = false := by simp; omega
    have HN := Lib.hid q
    clear q
    go_enter Try.func69, Try.ntmps69
    go_wp2_with fail
    refine (implNameE_any t _ hs).mono ?_
    rintro e w1 ⟨b, rfl, hb, hbel⟩
    have HB := Lib.hid hb
    have HL := Lib.hid hbel
    have hc2 := (hbel.cell (p := ⟨w.heap.size, 2, none⟩) (by simp)).trans (box_cell (s := 3) w _ rfl (by omega))
    simp only [List.getElem?_cons_zero, List.getElem?_cons_succ] at hc2
    clear hb hbel
    cases b
    all_goals
      go_wp2_with fail
      go_ret
      exact ⟨false, rfl, ⟨fun h => (by cases h), fun h => absurd ((id h).2.2) HN.out⟩, ((Below.refl _ _).alloc (Nat.le_refl _) _).trans (HL.out.mono (by simp))⟩
  subst q
  go_enter Try.func69, Try.ntmps69
  go_wp2_with fail
  refine (implNameE_any t _ hs).mono ?_
  rintro e w1 ⟨b, rfl, hb, hbel⟩
  have HB := Lib.hid hb
  have HL := Lib.hid hbel
  have hc2 := (hbel.cell (p := ⟨w.heap.size, 2, none⟩) (by simp)).trans (box_cell (s := 3) w _ rfl (by omega))
  simp only [List.getElem?_cons_zero, List.getElem?_cons_succ] at hc2
  clear hb hbel
  cases b
  · skip
    go_wp2_with fail
    go_ret
    exact ⟨false, rfl, ⟨fun h => (by cases h), fun h => absurd ((id h).2.1) (fun h2 => by have := HB.out.2 h2; cases this)⟩, ((Below.refl _ _).alloc (Nat.le_refl _) _).trans (HL.out.mono (by simp))⟩
  · skip
    go_wp2_with fail
    go_ret
    exact ⟨true, rfl, ⟨fun _ => id ⟨rfl, HB.out.1 (by trivial), rfl⟩, fun _ => rfl⟩, ((Below.refl _ _).alloc (Nat.le_refl _) _).trans (HL.out.mono (by simp))⟩

set_option maxHeartbeats 1600000 in
set_option maxRecDepth 100000 in
theorem listNode_any (n : Int) (t : ByteArray) (A : Option Addr) (m c : Nat) (w : World) (hs : t.size ≤ 1048576) (hm : m ≤ 1048577) :
    Calls Try.prog 78 #[.agg #[.int .i64 n, .string t, .slice A m c]] w (EqP (ok_listNode n t m) w) := by
  by_cases q : n = 0
  rotate_left
  · skip
    have hb : ((n : Int) == 0) = false := by simp [q]
    have HN := Lib.hid q
    clear q
    go_enter Try.func78, Try.ntmps78
    go_wp2_with fail
    go_wp2_with fail
    go_ret
    exact ⟨false, rfl, ⟨fun h => (by cases h), fun h => absurd ((id h).1) HN.out⟩, (Below.refl _ _).alloc (Nat.le_refl _) _⟩
  subst q
  by_cases q : t = ⟨#[]⟩
  rotate_left
  · skip
    have hb : (t.toList == []) = false := text_no q
    have HN := Lib.hid q
    clear q
    go_enter Try.func78, Try.ntmps78
    go_wp2_with fail
    go_wp2_with fail
    go_ret
    exact ⟨false, rfl, ⟨fun h => (by cases h), fun h => absurd ((id h).2.1) HN.out⟩, (Below.refl _ _).alloc (Nat.le_refl _) _⟩
  subst q
  by_cases q : m ≤ 8
  rotate_left
  · skip
    have q8 : ¬ (m : Int) ≤ 8 := by omega
    have HN := Lib.hid q
    clear q
    go_enter Try.func78, Try.ntmps78
    go_wp2_with fail
    go_wp2_with fail
    go_ret
    exact ⟨false, rfl, ⟨fun h => (by cases h), fun h => by have h1 := (id h).2.2; omega⟩, (Below.refl _ _).alloc (Nat.le_refl _) _⟩
  have q8 : (m : Int) ≤ 8 := by omega
  have q_1 := q
  go_enter Try.func78, Try.ntmps78
  go_wp2_with fail
  go_wp2_with fail
  go_ret
  exact ⟨true, rfl, ⟨fun _ => id ⟨rfl, rfl, by omega⟩, fun _ => rfl⟩, (Below.refl _ _).alloc (Nat.le_refl _) _⟩

set_option maxHeartbeats 1600000 in
set_option maxRecDepth 100000 in
theorem callNode_any (n : Int) (t : ByteArray) (A : Option Addr) (m c : Nat) (w : World) (hs : t.size ≤ 1048576) (hm : m ≤ 1048577) :
    Calls Try.prog 79 #[.agg #[.int .i64 n, .string t, .slice A m c]] w (EqP (ok_callNode n t m) w) := by
  by_cases q : n = 0
  rotate_left
  · skip
    have hb : ((n : Int) == 0) = false := by simp [q]
    have HN := Lib.hid q
    clear q
    go_enter Try.func79, Try.ntmps79
    go_wp2_with fail
    go_quiet (fail)
    go_wp2_with fail
    go_ret
    exact ⟨false, rfl, ⟨fun h => (by cases h), fun h => absurd ((id h).1) HN.out⟩, below_drewN ((Below.refl _ _).alloc (Nat.le_refl _) _) _⟩
  subst q
  by_cases q : (m : Int) = argC t
  · have hb : ((m : Int) == argC t) = true := by simp [q]
    have HAC := Lib.hid q
    clear q
    go_enter Try.func79, Try.ntmps79
    go_wp2_with fail
    go_quiet (first | (go_at_call 12; exact Calls.quiet_of_same (implArgC_any t _)))
    go_wp2_with fail
    go_ret
    exact ⟨true, rfl, ⟨fun _ => id ⟨rfl, HAC.out⟩, fun _ => rfl⟩, below_drewN ((Below.refl _ _).alloc (Nat.le_refl _) _) _⟩
  · have hb : ((m : Int) == argC t) = false := by simp [q]
    have HN := Lib.hid q
    clear q
    go_enter Try.func79, Try.ntmps79
    go_wp2_with fail
    go_quiet (first | (go_at_call 12; exact Calls.quiet_of_same (implArgC_any t _)))
    go_wp2_with fail
    go_ret
    exact ⟨false, rfl, ⟨fun h => (by cases h), fun h => absurd ((id h).2) HN.out⟩, below_drewN ((Below.refl _ _).alloc (Nat.le_refl _) _) _⟩

set_option maxHeartbeats 1600000 in
set_option maxRecDepth 100000 in
theorem operatorNode_any (n : Int) (t : ByteArray) (A : Option Addr) (m c : Nat) (w : World) (hs : t.size ≤ 1048576) (hm : m ≤ 1048577) :
    Calls Try.prog 80 #[.agg #[.int .i64 n, .string t, .slice A m c]] w (EqP (ok_operatorNode n t m) w) := by
  by_cases q : 1 ≤ n
  rotate_left
  · skip
    have HN := Lib.hid q
    have q9 : ¬ 1 ≤ n := q
    have q10 : n < 1 := by omega
    go_enter Try.func80, Try.ntmps80
    go_wp2_with fail
    go_wp2_with fail
    go_ret
    exact ⟨false, rfl, ⟨fun h => (by cases h), fun h => by have h1 := (id h).1; omega⟩, (Below.refl _ _).alloc (Nat.le_refl _) _⟩
  have q_4 := q
  by_cases q : n ≤ 5
  rotate_left
  · skip
    have HN := Lib.hid q
    have q9 : ¬ n ≤ 5 := q
    have q10 : 5 < n := by omega
    go_enter Try.func80, Try.ntmps80
    go_wp2_with fail
    go_wp2_with fail
    go_ret
    exact ⟨false, rfl, ⟨fun h => (by cases h), fun h => by have h1 := (id h).2.1; omega⟩, (Below.refl _ _).alloc (Nat.le_refl _) _⟩
  have q_3 := q
  by_cases q : t = ⟨#[]⟩
  rotate_left
  · skip
    have hb : (t.toList == []) = false := text_no q
    have HN := Lib.hid q
    clear q
    go_enter Try.func80, Try.ntmps80
    go_wp2_with fail
    go_wp2_with fail
    go_ret
    exact ⟨false, rfl, ⟨fun h => (by cases h), fun h => absurd ((id h).2.2.1) HN.out⟩, (Below.refl _ _).alloc (Nat.le_refl _) _⟩
  subst q
  by_cases q : m = 2
  rotate_left
  · skip
    have hb : ((m : Int) == 2) = false := by simp; omega
    have HN := Lib.hid q
    clear q
    go_enter Try.func80, Try.ntmps80
    go_wp2_with fail
    go_wp2_with fail
    go_ret
    exact ⟨false, rfl, ⟨fun h => (by cases h), fun h => absurd ((id h).2.2.2) HN.out⟩, (Below.refl _ _).alloc (Nat.le_refl _) _⟩
  subst q
  go_enter Try.func80, Try.ntmps80
  go_wp2_with fail
  go_wp2_with fail
  go_ret
  exact ⟨true, rfl, ⟨fun _ => id ⟨by omega, by omega, rfl, rfl⟩, fun _ => rfl⟩, (Below.refl _ _).alloc (Nat.le_refl _) _⟩

set_option maxHeartbeats 1600000 in
set_option maxRecDepth 100000 in
theorem ifNode_any (n : Int) (t : ByteArray) (A : Option Addr) (m c : Nat) (w : World) (hs : t.size ≤ 1048576) (hm : m ≤ 1048577) :
    Calls Try.prog 81 #[.agg #[.int .i64 n, .string t, .slice A m c]] w (EqP (ok_ifNode n t m) w) := by
  by_cases q : n = 0
  rotate_left
  · skip
    have hb : ((n : Int) == 0) = false := by simp [q]
    have HN := Lib.hid q
    clear q
    go_enter Try.func81, Try.ntmps81
    go_wp2_with fail
    go_wp2_with fail
    go_ret
    exact ⟨false, rfl, ⟨fun h => (by cases h), fun h => absurd ((id h).1) HN.out⟩, (Below.refl _ _).alloc (Nat.le_refl _) _⟩
  subst q
  by_cases q : t = ⟨#[]⟩
  rotate_left
  · skip
    have hb : (t.toList == []) = false := text_no q
    have HN := Lib.hid q
    clear q
    go_enter Try.func81, Try.ntmps81
    go_wp2_with fail
    go_wp2_with fail
    go_ret
    exact ⟨false, rfl, ⟨fun h => (by cases h), fun h => absurd ((id h).2.1) HN.out⟩, (Below.refl _ _).alloc (Nat.le_refl _) _⟩
  subst q
  by_cases q : m = 3
  rotate_left
  · skip
    have hb : ((m : Int) == 3) = false := by simp; omega
    have HN := Lib.hid q
    clear q
    go_enter Try.func81, Try.ntmps81
    go_wp2_with fail
    go_wp2_with fail
    go_ret
    exact ⟨false, rfl, ⟨fun h => (by cases h), fun h => absurd ((id h).2.2) HN.out⟩, (Below.refl _ _).alloc (Nat.le_refl _) _⟩
  subst q
  go_enter Try.func81, Try.ntmps81
  go_wp2_with fail
  go_wp2_with fail
  go_ret
  exact ⟨true, rfl, ⟨fun _ => id ⟨rfl, rfl, rfl⟩, fun _ => rfl⟩, (Below.refl _ _).alloc (Nat.le_refl _) _⟩

set_option maxHeartbeats 1600000 in
set_option maxRecDepth 100000 in
theorem bindingNode_any (n : Int) (t : ByteArray) (A : Option Addr) (m c : Nat) (w : World) (hs : t.size ≤ 1048576) (hm : m ≤ 1048577) :
    Calls Try.prog 82 #[.agg #[.int .i64 n, .string t, .slice A m c]] w (EqP (ok_bindingNode n t m) w) := by
  by_cases q : n = 0
  rotate_left
  · skip
    have hb : ((n : Int) == 0) = false := by simp [q]
    have HN := Lib.hid q
    clear q
    go_enter Try.func82, Try.ntmps82
    go_wp2_with fail
    go_wp2_with fail
    go_ret
    exact ⟨false, rfl, ⟨fun h => (by cases h), fun h => absurd ((id h).1) HN.out⟩, (Below.refl _ _).alloc (Nat.le_refl _) _⟩
  subst q
  by_cases q : m = 2
  rotate_left
  · skip
    have hb : ((m : Int) == 2) = false := by simp; omega
    have HN := Lib.hid q
    clear q
    go_enter Try.func82, Try.ntmps82
    go_wp2_with fail
    refine (implNameE_any t _ hs).mono ?_
    rintro e w1 ⟨b, rfl, hb, hbel⟩
    have HB := Lib.hid hb
    have HL := Lib.hid hbel
    have hc2 := (hbel.cell (p := ⟨w.heap.size, 2, none⟩) (by simp)).trans (box_cell (s := 3) w _ rfl (by omega))
    simp only [List.getElem?_cons_zero, List.getElem?_cons_succ] at hc2
    clear hb hbel
    cases b
    all_goals
      go_wp2_with fail
      go_ret
      exact ⟨false, rfl, ⟨fun h => (by cases h), fun h => absurd ((id h).2.2) HN.out⟩, ((Below.refl _ _).alloc (Nat.le_refl _) _).trans (HL.out.mono (by simp))⟩
  subst q
  go_enter Try.func82, Try.ntmps82
  go_wp2_with fail
  refine (implNameE_any t _ hs).mono ?_
  rintro e w1 ⟨b, rfl, hb, hbel⟩
  have HB := Lib.hid hb
  have HL := Lib.hid hbel
  have hc2 := (hbel.cell (p := ⟨w.heap.size, 2, none⟩) (by simp)).trans (box_cell (s := 3) w _ rfl (by omega))
  simp only [List.getElem?_cons_zero, List.getElem?_cons_succ] at hc2
  clear hb hbel
  cases b
  · skip
    go_wp2_with fail
    go_ret
    exact ⟨false, rfl, ⟨fun h => (by cases h), fun h => absurd ((id h).2.1) (fun h2 => by have := HB.out.2 h2; cases this)⟩, ((Below.refl _ _).alloc (Nat.le_refl _) _).trans (HL.out.mono (by simp))⟩
  · skip
    go_wp2_with fail
    go_ret
    exact ⟨true, rfl, ⟨fun _ => id ⟨rfl, HB.out.1 (by trivial), rfl⟩, fun _ => rfl⟩, ((Below.refl _ _).alloc (Nat.le_refl _) _).trans (HL.out.mono (by simp))⟩
end Go.Proofs.Ytmoacmlkmclfoaa
