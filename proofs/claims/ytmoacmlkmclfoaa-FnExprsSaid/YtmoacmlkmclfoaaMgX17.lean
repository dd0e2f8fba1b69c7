/-
  Texts that the proof rests on, put together: NodeP, NodeS.
-/
import Derived.Test.YtmoacmlkmclfoaaMgX10
import Derived.Test.YtmoacmlkmclfoaaMgX9
import Derived.Test.YtmoacmlkmclfoaaMgX7
import Derived.Test.YtmoacmlkmclfoaaMgX8
/-
  Whether a node is valid: the property; what nodeOf makes and what the methods isValid answer. (Written by gen10n.py.)
-/

namespace Go.Proofs.Ytmoacmlkmclfoaa
open Go.RowKit
set_option linter.unusedVariables false
def ok_numberNode (n : Int) (t : ByteArray) (m : Nat) : Prop := 0 ≤ n ∧ n ≤ 1000000000 ∧ t = ⟨#[]⟩ ∧ m = 0
def ok_textNode (n : Int) (t : ByteArray) (m : Nat) : Prop := n = 0 ∧ VT t ∧ m = 0
def ok_nameNode (n : Int) (t : ByteArray) (m : Nat) : Prop := n = 0 ∧ VN (nb t) ∧ m = 0
def ok_listNode (n : Int) (t : ByteArray) (m : Nat) : Prop := n = 0 ∧ t = ⟨#[]⟩ ∧ m ≤ 8
def ok_callNode (n : Int) (t : ByteArray) (m : Nat) : Prop := n = 0 ∧ (m : Int) = argC t
def ok_operatorNode (n : Int) (t : ByteArray) (m : Nat) : Prop := 1 ≤ n ∧ n ≤ 5 ∧ t = ⟨#[]⟩ ∧ m = 2
def ok_ifNode (n : Int) (t : ByteArray) (m : Nat) : Prop := n = 0 ∧ t = ⟨#[]⟩ ∧ m = 3
def ok_bindingNode (n : Int) (t : ByteArray) (m : Nat) : Prop := n = 0 ∧ VN (nb t) ∧ m = 2
def nodeQ (k n : Int) (t : ByteArray) (m : Nat) : Prop := (k = 1 ∧ ok_numberNode n t m) ∨ (k = 2 ∧ ok_textNode n t m) ∨ (k = 3 ∧ ok_nameNode n t m) ∨ (k = 4 ∧ ok_listNode n t m) ∨ (k = 5 ∧ ok_callNode n t m) ∨ (k = 6 ∧ ok_operatorNode n t m) ∨ (k = 8 ∧ ok_ifNode n t m) ∨ ((k = 7 ∨ k = 9) ∧ ok_bindingNode n t m)
def nodeP : Dt → Prop
  | .agg [.int k, .int n, .str t, .lst l] => nodeQ k n t l.length
  | _ => False
theorem EqP.ofE {P : Prop} {w : World} {b : Bool} (hb : b = true ↔ P) (e : Ending) (w' : World) (h : e = .returned (.bool b) ∧ Below w.heap.size w w') : EqP P w e w' := ⟨b, h.1, hb, h.2⟩
theorem implNameE_any (s : ByteArray) (w : World) (hs : s.size ≤ 1048576) : Calls Try.prog 70 #[.string s] w (EqP (VN (nb s)) w) := by
  have h := implValid_any (nb s) w (show s.size ≤ 1048576 from hs)
  rw [show (⟨(nb s).toArray⟩ : ByteArray) = s from bn_nb s] at h
  exact h.mono (EqP.ofE (by simp))
theorem specNameE_any (s : ByteArray) (w : World) (hs : s.size ≤ 1048576) : Calls Try.prog 39 #[.string s] w (EqP (VN (nb s)) w) := by
  have h := specValid_any (nb s) w (show s.size ≤ 1048576 from hs)
  rw [show (⟨(nb s).toArray⟩ : ByteArray) = s from bn_nb s] at h
  exact h.mono (EqP.ofE (by simp))
/-- What nodeOf makes of a node. -/
def NodeV (k n : Int) (t : ByteArray) (A : Option Addr) (m c : Nat) (v : Value) : Prop := (k = 1 ∧ v = .iface 59 (.agg #[.int .i64 n, .string t, .slice A m c])) ∨ (k = 2 ∧ v = .iface 60 (.agg #[.int .i64 n, .string t, .slice A m c])) ∨ (k = 3 ∧ v = .iface 61 (.agg #[.int .i64 n, .string t, .slice A m c])) ∨ (k = 4 ∧ v = .iface 62 (.agg #[.int .i64 n, .string t, .slice A m c])) ∨ (k = 5 ∧ v = .iface 63 (.agg #[.int .i64 n, .string t, .slice A m c])) ∨ (k = 6 ∧ v = .iface 64 (.agg #[.int .i64 n, .string t, .slice A m c])) ∨ (k = 8 ∧ v = .iface 65 (.agg #[.int .i64 n, .string t, .slice A m c])) ∨ ((k = 7 ∨ k = 9) ∧ v = .iface 66 (.agg #[.int .i64 n, .string t, .slice A m c])) ∨ (v = .nilIface ∧ ¬ k = 1 ∧ ¬ k = 2 ∧ ¬ k = 3 ∧ ¬ k = 4 ∧ ¬ k = 5 ∧ ¬ k = 6 ∧ ¬ k = 8 ∧ ¬ k = 7 ∧ ¬ k = 9)

set_option maxHeartbeats 1600000 in
set_option maxRecDepth 100000 in
theorem nodeOf_any (k n : Int) (t : ByteArray) (A : Option Addr) (m c : Nat) (w : World) :
    Calls Try.prog 17 #[.agg #[.int .i64 k, .int .i64 n, .string t, .slice A m c]] w fun e w' => ∃ v, e = .returned v ∧ NodeV k n t A m c v ∧ Below w.heap.size w w' := by
  by_cases h1 : k = 1
  · subst h1
    go_enter Try.func17, Try.ntmps17
    go_wp2_with fail
    go_ret
    exact ⟨_, rfl, by simp [NodeV], ((Below.refl _ _).alloc (Nat.le_refl _) _).alloc (by simp) _⟩
  by_cases h2 : k = 2
  · subst h2
    go_enter Try.func17, Try.ntmps17
    go_wp2_with fail
    go_ret
    exact ⟨_, rfl, by simp [NodeV], ((Below.refl _ _).alloc (Nat.le_refl _) _).alloc (by simp) _⟩
  by_cases h3 : k = 3
  · subst h3
    go_enter Try.func17, Try.ntmps17
    go_wp2_with fail
    go_ret
    exact ⟨_, rfl, by simp [NodeV], ((Below.refl _ _).alloc (Nat.le_refl _) _).alloc (by simp) _⟩
  by_cases h4 : k = 4
  · subst h4
    go_enter Try.func17, Try.ntmps17
    go_wp2_with fail
    go_ret
    exact ⟨_, rfl, by simp [NodeV], ((Below.refl _ _).alloc (Nat.le_refl _) _).alloc (by simp) _⟩
  by_cases h5 : k = 5
  · subst h5
    go_enter Try.func17, Try.ntmps17
    go_wp2_with fail
    go_ret
    exact ⟨_, rfl, by simp [NodeV], ((Below.refl _ _).alloc (Nat.le_refl _) _).alloc (by simp) _⟩
  by_cases h6 : k = 6
  · subst h6
    go_enter Try.func17, Try.ntmps17
    go_wp2_with fail
    go_ret
    exact ⟨_, rfl, by simp [NodeV], ((Below.refl _ _).alloc (Nat.le_refl _) _).alloc (by simp) _⟩
  by_cases h8 : k = 8
  · subst h8
    go_enter Try.func17, Try.ntmps17
    go_wp2_with fail
    go_ret
    exact ⟨_, rfl, by simp [NodeV], ((Below.refl _ _).alloc (Nat.le_refl _) _).alloc (by simp) _⟩
  by_cases h7 : k = 7
  · subst h7
    go_enter Try.func17, Try.ntmps17
    go_wp2_with fail
    go_ret
    exact ⟨_, rfl, by simp [NodeV], ((Below.refl _ _).alloc (Nat.le_refl _) _).alloc (by simp) _⟩
  by_cases h9 : k = 9
  · subst h9
    go_enter Try.func17, Try.ntmps17
    go_wp2_with fail
    go_ret
    exact ⟨_, rfl, by simp [NodeV], ((Below.refl _ _).alloc (Nat.le_refl _) _).alloc (by simp) _⟩
  have hb1 : ((k : Int) == 1) = false := by simp [h1]
  have hb2 : ((k : Int) == 2) = false := by simp [h2]
  have hb3 : ((k : Int) == 3) = false := by simp [h3]
  have hb4 : ((k : Int) == 4) = false := by simp [h4]
  have hb5 : ((k : Int) == 5) = false := by simp [h5]
  have hb6 : ((k : Int) == 6) = false := by simp [h6]
  have hb8 : ((k : Int) == 8) = false := by simp [h8]
  have hb7 : ((k : Int) == 7) = false := by simp [h7]
  have hb9 : ((k : Int) == 9) = false := by simp [h9]
  have HN := Lib.hid (show NodeV k n t A m c .nilIface by simp [NodeV, h1, h2, h3, h4, h5, h6, h8, h7, h9])
  clear h1 h2 h3 h4 h5 h6 h8 h7 h9
  go_enter Try.func17, Try.ntmps17
  go_wp2_with fail
  go_ret
  exact ⟨_, rfl, HN.out, ((Below.refl _ _).alloc (Nat.le_refl _) _).alloc (by simp) _⟩
end Go.Proofs.Ytmoacmlkmclfoaa

/-
  The model's l10Node. (Written by gen10n.py.)
-/

namespace Go.Proofs.Ytmoacmlkmclfoaa
open Go.RowKit
set_option linter.unusedVariables false

set_option maxHeartbeats 400000 in
set_option maxRecDepth 100000 in
theorem l1InE_any (a lo hi : Int) (b : Bool) (hb : b = decide (lo ≤ a ∧ a ≤ hi)) (w : World) : Calls Try.prog 37 #[.int .i64 a, .int .i64 lo, .int .i64 hi] w fun e w' => e = .returned (.bool b) ∧ w' = w := by
  by_cases h1 : lo ≤ a
  · by_cases h2 : a ≤ hi
    · obtain rfl : b = true := by rw [hb]; simp [h1, h2]
      clear hb
      go_enter Try.func37, Try.ntmps37
      go_wp2_with fail
      go_ret
      exact ⟨rfl, rfl⟩
    · obtain rfl : b = false := by rw [hb]; simp [h2]
      clear hb
      go_enter Try.func37, Try.ntmps37
      go_wp2_with fail
      go_ret
      exact ⟨rfl, rfl⟩
  · obtain rfl : b = false := by rw [hb]; simp [h1]
    clear hb
    go_enter Try.func37, Try.ntmps37
    go_wp2_with fail
    go_ret
    exact ⟨rfl, rfl⟩

set_option maxHeartbeats 1600000 in
set_option maxRecDepth 100000 in
theorem l10Node_1 (n : Int) (t : ByteArray) (A : Option Addr) (m c : Nat) (w : World) (hs : t.size ≤ 1048576) (hm : m ≤ 1048577) :
    Calls Try.prog 33 #[.agg #[.int .i64 1, .int .i64 n, .string t, .slice A m c]] w (EqP (ok_numberNode n t m) w) := by
  by_cases q : m = 0
  rotate_left
  · skip
    have hb : ((m : Int) == 0) = false := by simp; omega
    have HN := Lib.hid q
    clear q
    go_enter Try.func33, Try.ntmps33
    go_wp2_with fail
    go_wp2_with fail
    go_ret
    exact ⟨false, rfl, ⟨fun h => (by cases h), fun h => absurd ((id h).2.2.2) HN.out⟩, (Below.refl _ _).alloc (Nat.le_refl _) _⟩
  subst q
  by_cases q : t = ⟨#[]⟩
  rotate_left
  · skip
    have hb : (t.toList == []) = false := text_no q
    have HN := Lib.hid q
    clear q
    go_enter Try.func33, Try.ntmps33
    go_wp2_with fail
    go_wp2_with fail
    go_ret
    exact ⟨false, rfl, ⟨fun h => (by cases h), fun h => absurd ((id h).2.2.1) HN.out⟩, (Below.refl _ _).alloc (Nat.le_refl _) _⟩
  subst q
  by_cases q : 0 ≤ n
  rotate_left
  · skip
    have HN := Lib.hid q
    have q9 : ¬ 0 ≤ n := q
    have q10 : n < 0 := by omega
    go_enter Try.func33, Try.ntmps33
    go_wp2_with fail
    refine (l1InE_any _ _ _ false (by simp; omega) _).mono ?_
    rintro e w1 ⟨rfl, rfl⟩
    go_wp2_with fail
    go_ret
    exact ⟨false, rfl, ⟨fun h => (by cases h), fun h => by have h1 := (id h).1; omega⟩, (Below.refl _ _).alloc (Nat.le_refl _) _⟩
  have q_2 := q
  by_cases q : n ≤ 1000000000
  rotate_left
  · skip
    have HN := Lib.hid q
    have q9 : ¬ n ≤ 1000000000 := q
    have q10 : 1000000000 < n := by omega
    go_enter Try.func33, Try.ntmps33
    go_wp2_with fail
    refine (l1InE_any _ _ _ false (by simp; omega) _).mono ?_
    rintro e w1 ⟨rfl, rfl⟩
    go_wp2_with fail
    go_ret
    exact ⟨false, rfl, ⟨fun h => (by cases h), fun h => by have h1 := (id h).2.1; omega⟩, (Below.refl _ _).alloc (Nat.le_refl _) _⟩
  have q_1 := q
  go_enter Try.func33, Try.ntmps33
  go_wp2_with fail
  refine (l1InE_any _ _ _ true (by simp; omega) _).mono ?_
  rintro e w1 ⟨rfl, rfl⟩
  go_wp2_with fail
  go_ret
  exact ⟨true, rfl, ⟨fun _ => id ⟨by omega, by omega, rfl, rfl⟩, fun _ => rfl⟩, (Below.refl _ _).alloc (Nat.le_refl _) _⟩

set_option maxHeartbeats 1600000 in
set_option maxRecDepth 100000 in
theorem l10Node_2 (n : Int) (t : ByteArray) (A : Option Addr) (m c : Nat) (w : World) (hs : t.size ≤ 1048576) (hm : m ≤ 1048577) :
    Calls Try.prog 33 #[.agg #[.int .i64 2, .int .i64 n, .string t, .slice A m c]] w (EqP (ok_textNode n t m) w) := by
  by_cases q : m = 0
  rotate_left
  · skip
    have hb : ((m : Int) == 0) = false := by simp; omega
    have HN := Lib.hid q
    clear q
    go_enter Try.func33, Try.ntmps33
    go_wp2_with fail
    go_wp2_with fail
    go_ret
    exact ⟨false, rfl, ⟨fun h => (by cases h), fun h => absurd ((id h).2.2) HN.out⟩, (Below.refl _ _).alloc (Nat.le_refl _) _⟩
  subst q
  by_cases q : n = 0
  rotate_left
  · skip
    have hb : ((n : Int) == 0) = false := by simp [q]
    have HN := Lib.hid q
    clear q
    go_enter Try.func33, Try.ntmps33
    go_wp2_with fail
    go_wp2_with fail
    go_ret
    exact ⟨false, rfl, ⟨fun h => (by cases h), fun h => absurd ((id h).1) HN.out⟩, (Below.refl _ _).alloc (Nat.le_refl _) _⟩
  subst q
  go_enter Try.func33, Try.ntmps33
  go_wp2_with fail
  refine (specText_any t _ hs).mono ?_
  rintro e w1 ⟨b, rfl, hb, rfl⟩
  have HB := Lib.hid hb
  clear hb
  cases b
  · skip
    go_wp2_with fail
    go_ret
    exact ⟨false, rfl, ⟨fun h => (by cases h), fun h => absurd ((id h).2.1) (fun h2 => by have := HB.out.2 h2; cases this)⟩, (Below.refl _ _).alloc (Nat.le_refl _) _⟩
  · skip
    go_wp2_with fail
    go_ret
    exact ⟨true, rfl, ⟨fun _ => id ⟨rfl, HB.out.1 (by trivial), rfl⟩, fun _ => rfl⟩, (Below.refl _ _).alloc (Nat.le_refl _) _⟩

set_option maxHeartbeats 1600000 in
set_option maxRecDepth 100000 in
theorem l10Node_3 (n : Int) (t : ByteArray) (A : Option Addr) (m c : Nat) (w : World) (hs : t.size ≤ 1048576) (hm : m ≤ 1048577) :
    Calls Try.prog 33 #[.agg #[.int .i64 3, .int .i64 n, .string t, .slice A m c]] w (EqP (ok_nameNode n t m) w) := by
  by_cases q : m = 0
  rotate_left
  · skip
    have hb : ((m : Int) == 0) = false := by simp; omega
    have HN := Lib.hid q
    clear q
    go_enter Try.func33, Try.ntmps33
    go_wp2_with fail
    go_wp2_with fail
    go_ret
    exact ⟨false, rfl, ⟨fun h => (by cases h), fun h => absurd ((id h).2.2) HN.out⟩, (Below.refl _ _).alloc (Nat.le_refl _) _⟩
  subst q
  by_cases q : n = 0
  rotate_left
  · skip
    have hb : ((n : Int) == 0) = false := by simp [q]
    have HN := Lib.hid q
    clear q
    go_enter Try.func33, Try.ntmps33
    go_wp2_with fail
    go_wp2_with fail
    go_ret
    exact ⟨false, rfl, ⟨fun h => (by cases h), fun h => absurd ((id h).1) HN.out⟩, (Below.refl _ _).alloc (Nat.le_refl _) _⟩
  subst q
  go_enter Try.func33, Try.ntmps33
  go_wp2_with fail
  refine (specNameE_any t _ hs).mono ?_
  rintro e w1 ⟨b, rfl, hb, hbel⟩
  have HB := Lib.hid hb
  have HL := Lib.hid hbel
  clear hb hbel
  cases b
  · skip
    go_wp2_with fail
    go_ret
    exact ⟨false, rfl, ⟨fun h => (by cases h), fun h => absurd ((id h).2.1) (fun h2 => by have := HB.out.2 h2; cases this)⟩, ((Below.refl _ _).alloc (Nat.le_refl _) _).trans (HL.out.mono (by simp))⟩
  · skip
    go_wp2_with fail
    go_ret
    exact ⟨true, rfl, ⟨fun _ => id ⟨rfl, HB.out.1 (by trivial), rfl⟩, fun _ => rfl⟩, ((Below.refl _ _).alloc (Nat.le_refl _) _).trans (HL.out.mono (by simp))⟩

set_option maxHeartbeats 1600000 in
set_option maxRecDepth 100000 in
theorem l10Node_4 (n : Int) (t : ByteArray) (A : Option Addr) (m c : Nat) (w : World) (hs : t.size ≤ 1048576) (hm : m ≤ 1048577) :
    Calls Try.prog 33 #[.agg #[.int .i64 4, .int .i64 n, .string t, .slice A m c]] w (EqP (ok_listNode n t m) w) := by
  by_cases q : n = 0
  rotate_left
  · skip
    have hb : ((n : Int) == 0) = false := by simp [q]
    have HN := Lib.hid q
    clear q
    go_enter Try.func33, Try.ntmps33
    go_wp2_with fail
    go_wp2_with fail
    go_ret
    exact ⟨false, rfl, ⟨fun h => (by cases h), fun h => absurd ((id h).1) HN.out⟩, (Below.refl _ _).alloc (Nat.le_refl _) _⟩
  subst q
  by_cases q : t = ⟨#[]⟩
  rotate_left
  · skip
    have hb : (t.toList == []) = false := text_no q
    have HN := Lib.hid q
    clear q
    go_enter Try.func33, Try.ntmps33
    go_wp2_with fail
    go_wp2_with fail
    go_ret
    exact ⟨false, rfl, ⟨fun h => (by cases h), fun h => absurd ((id h).2.1) HN.out⟩, (Below.refl _ _).alloc (Nat.le_refl _) _⟩
  subst q
  by_cases q : m ≤ 8
  rotate_left
  · skip
    have q8 : ¬ (m : Int) ≤ 8 := by omega
    have HN := Lib.hid q
    clear q
    go_enter Try.func33, Try.ntmps33
    go_wp2_with fail
    go_wp2_with fail
    go_ret
    exact ⟨false, rfl, ⟨fun h => (by cases h), fun h => by have h1 := (id h).2.2; omega⟩, (Below.refl _ _).alloc (Nat.le_refl _) _⟩
  have q8 : (m : Int) ≤ 8 := by omega
  have q_1 := q
  go_enter Try.func33, Try.ntmps33
  go_wp2_with fail
  go_wp2_with fail
  go_ret
  exact ⟨true, rfl, ⟨fun _ => id ⟨rfl, rfl, by omega⟩, fun _ => rfl⟩, (Below.refl _ _).alloc (Nat.le_refl _) _⟩

set_option maxHeartbeats 1600000 in
set_option maxRecDepth 100000 in
theorem l10Node_5 (n : Int) (t : ByteArray) (A : Option Addr) (m c : Nat) (w : World) (hs : t.size ≤ 1048576) (hm : m ≤ 1048577) :
    Calls Try.prog 33 #[.agg #[.int .i64 5, .int .i64 n, .string t, .slice A m c]] w (EqP (ok_callNode n t m) w) := by
  by_cases q : n = 0
  rotate_left
  · skip
    have hb : ((n : Int) == 0) = false := by simp [q]
    have HN := Lib.hid q
    clear q
    go_enter Try.func33, Try.ntmps33
    go_wp2_with fail
    go_wp2_with fail
    go_ret
    exact ⟨false, rfl, ⟨fun h => (by cases h), fun h => absurd ((id h).1) HN.out⟩, (Below.refl _ _).alloc (Nat.le_refl _) _⟩
  subst q
  by_cases q : (m : Int) = argC t
  · have hb : ((m : Int) == argC t) = true := by simp [q]
    have HAC := Lib.hid q
    clear q
    go_enter Try.func33, Try.ntmps33
    go_wp2_with fail
    refine (specArgC_any t _).mono ?_
    rintro e w1 ⟨rfl, rfl⟩
    go_wp2_with fail
    go_ret
    exact ⟨true, rfl, ⟨fun _ => id ⟨rfl, HAC.out⟩, fun _ => rfl⟩, (Below.refl _ _).alloc (Nat.le_refl _) _⟩
  · have hb : ((m : Int) == argC t) = false := by simp [q]
    have HN := Lib.hid q
    clear q
    go_enter Try.func33, Try.ntmps33
    go_wp2_with fail
    refine (specArgC_any t _).mono ?_
    rintro e w1 ⟨rfl, rfl⟩
    go_wp2_with fail
    go_ret
    exact ⟨false, rfl, ⟨fun h => (by cases h), fun h => absurd ((id h).2) HN.out⟩, (Below.refl _ _).alloc (Nat.le_refl _) _⟩

set_option maxHeartbeats 1600000 in
set_option maxRecDepth 100000 in
theorem l10Node_6 (n : Int) (t : ByteArray) (A : Option Addr) (m c : Nat) (w : World) (hs : t.size ≤ 1048576) (hm : m ≤ 1048577) :
    Calls Try.prog 33 #[.agg #[.int .i64 6, .int .i64 n, .string t, .slice A m c]] w (EqP (ok_operatorNode n t m) w) := by
  by_cases q : t = ⟨#[]⟩
  rotate_left
  · skip
    have hb : (t.toList == []) = false := text_no q
    have HN := Lib.hid q
    clear q
    go_enter Try.func33, Try.ntmps33
    go_wp2_with fail
    go_wp2_with fail
    go_ret
    exact ⟨false, rfl, ⟨fun h => (by cases h), fun h => absurd ((id h).2.2.1) HN.out⟩, (Below.refl _ _).alloc (Nat.le_refl _) _⟩
  subst q
  by_cases q : m = 2
  rotate_left
  · skip
    have hb : ((m : Int) == 2) = false := by simp; omega
    have HN := Lib.hid q
    clear q
    go_enter Try.func33, Try.ntmps33
    go_wp2_with fail
    go_wp2_with fail
    go_ret
    exact ⟨false, rfl, ⟨fun h => (by cases h), fun h => absurd ((id h).2.2.2) HN.out⟩, (Below.refl _ _).alloc (Nat.le_refl _) _⟩
  subst q
  by_cases q : 1 ≤ n
  rotate_left
  · skip
    have HN := Lib.hid q
    have q9 : ¬ 1 ≤ n := q
    have q10 : n < 1 := by omega
    go_enter Try.func33, Try.ntmps33
    go_wp2_with fail
    refine (l1InE_any _ _ _ false (by simp; omega) _).mono ?_
    rintro e w1 ⟨rfl, rfl⟩
    go_wp2_with fail
    go_ret
    exact ⟨false, rfl, ⟨fun h => (by cases h), fun h => by have h1 := (id h).1; omega⟩, (Below.refl _ _).alloc (Nat.le_refl _) _⟩
  have q_2 := q
  by_cases q : n ≤ 5
  rotate_left
  · skip
    have HN := Lib.hid q
    have q9 : ¬ n ≤ 5 := q
    have q10 : 5 < n := by omega
    go_enter Try.func33, Try.ntmps33
    go_wp2_with fail
    refine (l1InE_any _ _ _ false (by simp; omega) _).mono ?_
    rintro e w1 ⟨rfl, rfl⟩
    go_wp2_with fail
    go_ret
    exact ⟨false, rfl, ⟨fun h => (by cases h), fun h => by have h1 := (id h).2.1; omega⟩, (Below.refl _ _).alloc (Nat.le_refl _) _⟩
  have q_1 := q
  go_enter Try.func33, Try.ntmps33
  go_wp2_with fail
  refine (l1InE_any _ _ _ true (by simp; omega) _).mono ?_
  rintro e w1 ⟨rfl, rfl⟩
  go_wp2_with fail
  go_ret
  exact ⟨true, rfl, ⟨fun _ => id ⟨by omega, by omega, rfl, rfl⟩, fun _ => rfl⟩, (Below.refl _ _).alloc (Nat.le_refl _) _⟩

set_option maxHeartbeats 1600000 in
set_option maxRecDepth 100000 in
theorem l10Node_8 (n : Int) (t : ByteArray) (A : Option Addr) (m c : Nat) (w : World) (hs : t.size ≤ 1048576) (hm : m ≤ 1048577) :
    Calls Try.prog 33 #[.agg #[.int .i64 8, .int .i64 n, .string t, .slice A m c]] w (EqP (ok_ifNode n t m) w) := by
  by_cases q : n = 0
  rotate_left
  · skip
    have hb : ((n : Int) == 0) = false := by simp [q]
    have HN := Lib.hid q
    clear q
    go_enter Try.func33, Try.ntmps33
    go_wp2_with fail
    go_wp2_with fail
    go_ret
    exact ⟨false, rfl, ⟨fun h => (by cases h), fun h => absurd ((id h).1) HN.out⟩, (Below.refl _ _).alloc (Nat.le_refl _) _⟩
  subst q
  by_cases q : t = ⟨#[]⟩
  rotate_left
  · skip
    have hb : (t.toList == []) = false := text_no q
    have HN := Lib.hid q
    clear q
    go_enter Try.func33, Try.ntmps33
    go_wp2_with fail
    go_wp2_with fail
    go_ret
    exact ⟨false, rfl, ⟨fun h => (by cases h), fun h => absurd ((id h).2.1) HN.out⟩, (Below.refl _ _).alloc (Nat.le_refl _) _⟩
  subst q
  by_cases q : m = 3
  rotate_left
  · skip
    have hb : ((m : Int) == 3) = false := by simp; omega
    have HN := Lib.hid q
    clear q
    go_enter Try.func33, Try.ntmps33
    go_wp2_with fail
    go_wp2_with fail
    go_ret
    exact ⟨false, rfl, ⟨fun h => (by cases h), fun h => absurd ((id h).2.2) HN.out⟩, (Below.refl _ _).alloc (Nat.le_refl _) _⟩
  subst q
  go_enter Try.func33, Try.ntmps33
  go_wp2_with fail
  go_wp2_with fail
  go_ret
  exact ⟨true, rfl, ⟨fun _ => id ⟨rfl, rfl, rfl⟩, fun _ => rfl⟩, (Below.refl _ _).alloc (Nat.le_refl _) _⟩

set_option maxHeartbeats 1600000 in
set_option maxRecDepth 100000 in
theorem l10Node_7 (n : Int) (t : ByteArray) (A : Option Addr) (m c : Nat) (w : World) (hs : t.size ≤ 1048576) (hm : m ≤ 1048577) :
    Calls Try.prog 33 #[.agg #[.int .i64 7, .int .i64 n, .string t, .slice A m c]] w (EqP (ok_bindingNode n t m) w) := by
  by_cases q : n = 0
  rotate_left
  · skip
    have hb : ((n : Int) == 0) = false := by simp [q]
    have HN := Lib.hid q
    clear q
    go_enter Try.func33, Try.ntmps33
    go_wp2_with fail
    go_wp2_with fail
    go_ret
    exact ⟨false, rfl, ⟨fun h => (by cases h), fun h => absurd ((id h).1) HN.out⟩, (Below.refl _ _).alloc (Nat.le_refl _) _⟩
  subst q
  by_cases q : m = 2
  rotate_left
  · skip
    have hb : ((m : Int) == 2) = false := by simp; omega
    have HN := Lib.hid q
    clear q
    go_enter Try.func33, Try.ntmps33
    go_wp2_with fail
    go_wp2_with fail
    go_ret
    exact ⟨false, rfl, ⟨fun h => (by cases h), fun h => absurd ((id h).2.2) HN.out⟩, (Below.refl _ _).alloc (Nat.le_refl _) _⟩
  subst q
  go_enter Try.func33, Try.ntmps33
  go_wp2_with fail
  refine (specNameE_any t _ hs).mono ?_
  rintro e w1 ⟨b, rfl, hb, hbel⟩
  have HB := Lib.hid hb
  have HL := Lib.hid hbel
  clear hb hbel
  cases b
  · skip
    go_wp2_with fail
    go_ret
    exact ⟨false, rfl, ⟨fun h => (by cases h), fun h => absurd ((id h).2.1) (fun h2 => by have := HB.out.2 h2; cases this)⟩, ((Below.refl _ _).alloc (Nat.le_refl _) _).trans (HL.out.mono (by simp))⟩
  · skip
    go_wp2_with fail
    go_ret
    exact ⟨true, rfl, ⟨fun _ => id ⟨rfl, HB.out.1 (by trivial), rfl⟩, fun _ => rfl⟩, ((Below.refl _ _).alloc (Nat.le_refl _) _).trans (HL.out.mono (by simp))⟩

set_option maxHeartbeats 1600000 in
set_option maxRecDepth 100000 in
theorem l10Node_9 (n : Int) (t : ByteArray) (A : Option Addr) (m c : Nat) (w : World) (hs : t.size ≤ 1048576) (hm : m ≤ 1048577) :
    Calls Try.prog 33 #[.agg #[.int .i64 9, .int .i64 n, .string t, .slice A m c]] w (EqP (ok_bindingNode n t m) w) := by
  by_cases q : n = 0
  rotate_left
  · skip
    have hb : ((n : Int) == 0) = false := by simp [q]
    have HN := Lib.hid q
    clear q
    go_enter Try.func33, Try.ntmps33
    go_wp2_with fail
    go_wp2_with fail
    go_ret
    exact ⟨false, rfl, ⟨fun h => (by cases h), fun h => absurd ((id h).1) HN.out⟩, (Below.refl _ _).alloc (Nat.le_refl _) _⟩
  subst q
  by_cases q : m = 2
  rotate_left
  · skip
    have hb : ((m : Int) == 2) = false := by simp; omega
    have HN := Lib.hid q
    clear q
    go_enter Try.func33, Try.ntmps33
    go_wp2_with fail
    go_wp2_with fail
    go_ret
    exact ⟨false, rfl, ⟨fun h => (by cases h), fun h => absurd ((id h).2.2) HN.out⟩, (Below.refl _ _).alloc (Nat.le_refl _) _⟩
  subst q
  go_enter Try.func33, Try.ntmps33
  go_wp2_with fail
  refine (specNameE_any t _ hs).mono ?_
  rintro e w1 ⟨b, rfl, hb, hbel⟩
  have HB := Lib.hid hb
  have HL := Lib.hid hbel
  clear hb hbel
  cases b
  · skip
    go_wp2_with fail
    go_ret
    exact ⟨false, rfl, ⟨fun h => (by cases h), fun h => absurd ((id h).2.1) (fun h2 => by have := HB.out.2 h2; cases this)⟩, ((Below.refl _ _).alloc (Nat.le_refl _) _).trans (HL.out.mono (by simp))⟩
  · skip
    go_wp2_with fail
    go_ret
    exact ⟨true, rfl, ⟨fun _ => id ⟨rfl, HB.out.1 (by trivial), rfl⟩, fun _ => rfl⟩, ((Below.refl _ _).alloc (Nat.le_refl _) _).trans (HL.out.mono (by simp))⟩

theorem EqP.iff {P Q : Prop} {w : World} (h : P ↔ Q) (e : Ending) (w' : World) (hp : EqP P w e w') : EqP Q w e w' := by
  obtain ⟨b, h1, h2, h3⟩ := hp
  exact ⟨b, h1, h2.trans h, h3⟩
set_option maxHeartbeats 1600000 in
set_option maxRecDepth 100000 in
theorem l10Node_any (k n : Int) (t : ByteArray) (A : Option Addr) (m c : Nat) (w : World) (hs : t.size ≤ 1048576) (hm : m ≤ 1048577) :
    Calls Try.prog 33 #[.agg #[.int .i64 k, .int .i64 n, .string t, .slice A m c]] w (EqP (nodeQ k n t m) w) := by
  by_cases h1 : k = 1
  · subst h1
    exact (l10Node_1 n t A m c w hs hm).mono (EqP.iff (by simp [nodeQ]))
  by_cases h2 : k = 2
  · subst h2
    exact (l10Node_2 n t A m c w hs hm).mono (EqP.iff (by simp [nodeQ]))
  by_cases h3 : k = 3
  · subst h3
    exact (l10Node_3 n t A m c w hs hm).mono (EqP.iff (by simp [nodeQ]))
  by_cases h4 : k = 4
  · subst h4
    exact (l10Node_4 n t A m c w hs hm).mono (EqP.iff (by simp [nodeQ]))
  by_cases h5 : k = 5
  · subst h5
    exact (l10Node_5 n t A m c w hs hm).mono (EqP.iff (by simp [nodeQ]))
  by_cases h6 : k = 6
  · subst h6
    exact (l10Node_6 n t A m c w hs hm).mono (EqP.iff (by simp [nodeQ]))
  by_cases h7 : k = 7
  · subst h7
    exact (l10Node_7 n t A m c w hs hm).mono (EqP.iff (by simp [nodeQ]))
  by_cases h9 : k = 9
  · subst h9
    exact (l10Node_9 n t A m c w hs hm).mono (EqP.iff (by simp [nodeQ]))
  by_cases h8 : k = 8
  · subst h8
    exact (l10Node_8 n t A m c w hs hm).mono (EqP.iff (by simp [nodeQ]))
  have hb1 : ((k : Int) == 1) = false := by simp [h1]
  have hb2 : ((k : Int) == 2) = false := by simp [h2]
  have hb3 : ((k : Int) == 3) = false := by simp [h3]
  have hb4 : ((k : Int) == 4) = false := by simp [h4]
  have hb5 : ((k : Int) == 5) = false := by simp [h5]
  have hb6 : ((k : Int) == 6) = false := by simp [h6]
  have hb7 : ((k : Int) == 7) = false := by simp [h7]
  have hb9 : ((k : Int) == 9) = false := by simp [h9]
  have hb8 : ((k : Int) == 8) = false := by simp [h8]
  have HN := Lib.hid (show ¬ nodeQ k n t m by simp [nodeQ, h1, h2, h3, h4, h5, h6, h7, h9, h8])
  clear h1 h2 h3 h4 h5 h6 h7 h9 h8
  go_enter Try.func33, Try.ntmps33
  go_wp2_with fail
  go_ret
  exact ⟨false, rfl, ⟨fun h => (by cases h), fun h => absurd h HN.out⟩, (Below.refl _ _).alloc (Nat.le_refl _) _⟩
end Go.Proofs.Ytmoacmlkmclfoaa
