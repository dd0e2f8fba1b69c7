/-
  The reference model's FormatInt, at every int: it returns the decimal numeral; it writes into nothing that was there.
-/
import Derived.Test.YtooghbejbjfakaaDoorDigs
namespace Go.Proofs.YtooghbejbjfakaaDoor
open Go.RowKit
set_option linter.unusedVariables false

set_option maxHeartbeats 400000 in
set_option maxRecDepth 100000 in
theorem specFmt_pos (u : Nat) (w : World) (h1 : 1 ≤ u) (h2 : u ≤ 9223372036854775807) :
    Calls Tryd.prog 19 #[.int .i64 u] w fun e w' => e = .returned (.string ⟨(Go.Lib.itoa u).toArray⟩) ∧ Below w.heap.size w w' := by
  have hb0 : ((u : Int) == 0) = false := by simp; omega
  have hb1 : decide ((u : Int) < 0) = false := by simp
  go_enter Tryd.func19, Tryd.ntmps19
  go_wp2_with fail
  go_loopw [0, 4] (fun i o wr => ∃ (k : Nat) (l : List UInt8), k ≤ u ∧ i = .int .i64 k ∧ o = .string ⟨l.toArray⟩ ∧ digs k ++ l = digs u ∧ Below w.heap.size w wr) (fun i _ _ => (intOf i).toNat)
  case atStart => exact ⟨u, [], Nat.le_refl _, rfl, rfl, by simp, Below.refl _ _⟩
  case round =>
    obtain ⟨k, l, hk, rfl, rfl, hd, hbel⟩ := hrel
    have hll : l.length ≤ 20 := by
      have h20 := digs_len u (by omega)
      have hs := congrArg List.length hd
      rw [List.length_append] at hs
      omega
    have HD := Lib.hid hd
    clear hd
    by_cases hz : k = 0
    · subst hz
      go_wp2_with fail
      go_ret
      refine ⟨ret_str ?_, hbel⟩
      have hd := HD.out
      simp only [digs, if_pos, List.nil_append] at hd
      rw [hd, if_neg (by omega), Go.Lib.itoa_nonneg]
    · have hn : ((k : Int) != 0) = true := by simp; omega
      have hn0 : ((k : Int) == 0) = false := by simp; omega
      have hcv := conv_one wr (48 + (k : Int) % 10) (48 + k % 10) (by omega) (by omega)
      go_wp2_with fail
      refine ⟨⟨k / 10, UInt8.ofNat (48 + k % 10) :: l, by omega, by simp, ?_, ?_, hbel.alloc (hbel.size) _⟩, ?_⟩
      · exact congrArg Value.string (cons_bytes _ _ l (by simp))
      · rw [← HD.out, digs_step k hz, List.append_assoc]; rfl
      · simp [intOf]; omega

set_option maxHeartbeats 400000 in
set_option maxRecDepth 100000 in
theorem specFmt_neg (u : Nat) (w : World) (h1 : 1 ≤ u) (h2 : u ≤ 9223372036854775808) :
    Calls Tryd.prog 19 #[.int .i64 (-(u : Int))] w fun e w' => e = .returned (.string ⟨(Go.Lib.itoa (-(u : Int))).toArray⟩) ∧ Below w.heap.size w w' := by
  have HU : Hid (digs u = Go.Lib.decDigits u) := Lib.hid (by unfold digs; rw [if_neg (by omega)])
  have hb0 : ((-(u : Int)) == 0) = false := by simp; omega
  have hb1 : decide (0 < u) = true := by simp; omega
  go_enter Tryd.func19, Tryd.ntmps19
  go_wp2_with fail
  go_loopw [0, 4] (fun i o wr => ∃ (k : Nat) (l : List UInt8), k ≤ u ∧ i = .int .i64 (-(k : Int)) ∧ o = .string ⟨l.toArray⟩ ∧ digs k ++ l = digs u ∧ Below w.heap.size w wr) (fun i _ _ => (-(intOf i)).toNat)
  case atStart => exact ⟨u, [], Nat.le_refl _, rfl, rfl, by simp, Below.refl _ _⟩
  case round =>
    obtain ⟨k, l, hk, rfl, rfl, hd, hbel⟩ := hrel
    have hll : l.length ≤ 20 := by
      have h20 := digs_len u (by omega)
      have hs := congrArg List.length hd
      rw [List.length_append] at hs
      omega
    have HD := Lib.hid hd
    clear hd
    by_cases hz : k = 0
    · subst hz
      go_wp2_with fail
      go_ret
      refine ⟨ret_str ?_, hbel⟩
      have hd := HD.out
      rw [show digs 0 = [] from rfl, List.nil_append] at hd
      rw [Go.Lib.itoa_neg u (by omega), ← HU.out, ← hd]
      apply ByteArray.ext
      simp
    · have hn : (-(k : Int) != 0) = true := by simp; omega
      have hn0 : (-(k : Int) == 0) = false := by simp; omega
      by_cases hm : k % 10 = 0
      · have hm' : ¬ (0 < (k : Int) % 10) := by omega
        have hcv := conv_one wr (48 + -((k : Int) % 10)) (48 + k % 10) (by omega) (by omega)
        go_wp2_with fail
        refine ⟨⟨k / 10, UInt8.ofNat (48 + k % 10) :: l, by omega, by simp, ?_, ?_, hbel.alloc (hbel.size) _⟩, ?_⟩
        · exact congrArg Value.string (cons_bytes _ _ l (by simp [hm]))
        · rw [← HD.out, digs_step k hz, List.append_assoc]; rfl
        · simp [intOf]; omega
      · have hm' : 0 < (k : Int) % 10 := by omega
        have hcv := conv_one wr (48 + (k : Int) % 10) (48 + k % 10) (by omega) (by omega)
        go_wp2_with fail
        refine ⟨⟨k / 10, UInt8.ofNat (48 + k % 10) :: l, by omega, by simp, ?_, ?_, hbel.alloc (hbel.size) _⟩, ?_⟩
        · exact congrArg Value.string (cons_bytes _ _ l (by simp))
        · rw [← HD.out, digs_step k hz, List.append_assoc]; rfl
        · simp [intOf]; omega

set_option maxHeartbeats 400000 in
theorem specFmt_zero (w : World) :
    Calls Tryd.prog 19 #[.int .i64 0] w fun e w' => e = .returned (.string ⟨(Go.Lib.itoa 0).toArray⟩) ∧ Below w.heap.size w w' := by
  go_enter Tryd.func19, Tryd.ntmps19
  go_wp2_with fail
  go_ret
  refine ⟨ret_str ?_, Below.refl _ _⟩
  rw [show (0 : Int) = ((0 : Nat) : Int) from rfl, Go.Lib.itoa_nonneg, Go.Lib.decDigits, dif_pos (by omega)]
  rfl

/-- spec.FormatInt, at every int. -/
theorem specFmt_any (n : Int) (w : World) (h0 : -9223372036854775808 ≤ n) (h1 : n ≤ 9223372036854775807) :
    Calls Tryd.prog 19 #[.int .i64 n] w fun e w' => e = .returned (.string ⟨(Go.Lib.itoa n).toArray⟩) ∧ Below w.heap.size w w' := by
  rcases Int.lt_trichotomy n 0 with h | h | h
  · obtain ⟨u, rfl⟩ : ∃ u : Nat, n = -(u : Int) := ⟨n.natAbs, by omega⟩
    exact specFmt_neg u w (by omega) (by omega)
  · subst h; exact specFmt_zero w
  · obtain ⟨u, rfl⟩ : ∃ u : Nat, n = u := ⟨n.toNat, by omega⟩
    exact specFmt_pos u w (by omega) (by omega)
end Go.Proofs.YtooghbejbjfakaaDoor
