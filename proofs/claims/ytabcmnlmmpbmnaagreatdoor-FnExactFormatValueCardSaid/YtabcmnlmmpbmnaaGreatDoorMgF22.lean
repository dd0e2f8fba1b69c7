/-
  Texts that the proof rests on, put together: Digs, SpecFmt.
-/
import Derived.Test.YtabcmnlmmpbmnaaGreatDoorRows
import Derived.WalkKit
import Derived.WalkSpells
import Derived.WalkLawsBesides
import Derived.Lib.ItoaNum
import Derived.Lib.ItoaLen
import Derived.Lib.Hide
import Derived.Laws.IdiomStrings
/-
  Digits as texts, and one-byte rows turned into texts: what the number laws and the marks share.
-/

namespace Go.Proofs.YtabcmnlmmpbmnaaGreatDoor
open Go.RowKit
set_option linter.unusedVariables false

/-- The digits of u behind which 'out' stands: empty for 0. -/
def digs (u : Nat) : List UInt8 := if u = 0 then [] else Go.Lib.decDigits u

theorem digs_step (u : Nat) (h : u ≠ 0) : digs u = digs (u / 10) ++ [UInt8.ofNat (48 + u % 10)] := by
  unfold digs
  rw [if_neg h]
  by_cases h10 : u < 10
  · rw [Go.Lib.decDigits, dif_pos h10, if_pos (by omega), Nat.mod_eq_of_lt h10]; rfl
  · rw [Go.Lib.decDigits, dif_neg h10, if_neg (by omega)]

theorem digs_len (u : Nat) (h : u < 18446744073709551616) : (digs u).length ≤ 20 := by
  unfold digs
  split
  · simp
  · rw [Go.Lib.decDigits_length]; exact Go.Lib.nDigits_le20 u h

/-- 'string([]byte{x})', the one-byte row just made. -/
theorem conv_one (W : World) (x : Int) (k : Nat) (h : x = k) (h1 : k < 256) :
    (convert 22 9 (.slice (some ⟨W.heap.size, 0, none⟩) 1 1)).run Tryz.prog (W.alloc (.cells #[.int .u8 x] 5)) = .ok (.string ⟨#[UInt8.ofNat k]⟩) (W.alloc (.cells #[.int .u8 x] 5)) := by
  subst h
  have hc := run_convert_bytes_back (P := Tryz.prog) (W.alloc (.cells #[.int .u8 k] 5)) 22 9 5 ⟨W.heap.size, 0, none⟩ 1 [UInt8.ofNat k] Tryz.underlying22 Tryz.underlying5 Tryz.underlying9 (fun j hj => by
    have hj0 : j = 0 := by simpa using hj
    subst hj0
    show (W.alloc (.cells #[.int .u8 k] 5)).cell? ⟨W.heap.size, 0, none⟩ = _
    rw [World.cell?_alloc_mark]
    simp [Nat.mod_eq_of_lt h1])
  simpa using hc

theorem cons_bytes (x y : UInt8) (l : List UInt8) (h : x = y) : (⟨#[x]⟩ : ByteArray) ++ ⟨l.toArray⟩ = ⟨(y :: l).toArray⟩ := by
  subst h
  apply ByteArray.ext
  simp

theorem ret_str {a b : ByteArray} (h : a = b) : Ending.returned (.string a) = .returned (.string b) := by rw [h]
end Go.Proofs.YtabcmnlmmpbmnaaGreatDoor

/-
  The reference model's FormatInt, at every int: it returns the decimal numeral; it writes into nothing that was there.
-/

namespace Go.Proofs.YtabcmnlmmpbmnaaGreatDoor
open Go.RowKit
set_option linter.unusedVariables false

set_option maxHeartbeats 400000 in
set_option maxRecDepth 100000 in
theorem specFmt_pos (u : Nat) (w : World) (h1 : 1 ≤ u) (h2 : u ≤ 9223372036854775807) :
    Calls Tryz.prog 71 #[.int .i64 u] w fun e w' => e = .returned (.string ⟨(Go.Lib.itoa u).toArray⟩) ∧ Below w.heap.size w w' := by
  have hb0 : ((u : Int) == 0) = false := by simp; omega
  have hb1 : decide ((u : Int) < 0) = false := by simp
  go_enter Tryz.func71, Tryz.ntmps71
  go_wp2_with fail
  go_loopw [0, 4] (fun i o wr => ∃ (k : Nat) (l : List UInt8), k ≤ u ∧ i = .int .i64 k ∧ o = .string ⟨l.toArray⟩ ∧ digs k ++ l = digs u ∧ Below w.heap.size w wr) (fun i _ _ => (intOf i).toNat)
  case atStart => exact ⟨u, [], Nat.le_refl _, rfl, rfl, by simp, Below.refl _ _⟩
  case round =>
    obtain ⟨k, l, hk, rfl, rfl, hd, hbel⟩ := hrel
    have hll : l.length ≤ 20 := by
      have h20 := digs_len u (by omega)
      have hs := congrArg List.length hd
      rw [List.length_append] at hs
      omega
    have HD := Lib.hid hd
    clear hd
    by_cases hz : k = 0
    · subst hz
      go_wp2_with fail
      go_ret
      refine ⟨ret_str ?_, hbel⟩
      have hd := HD.out
      simp only [digs, if_pos, List.nil_append] at hd
      rw [hd, if_neg (by omega), Go.Lib.itoa_nonneg]
    · have hn : ((k : Int) != 0) = true := by simp; omega
      have hn0 : ((k : Int) == 0) = false := by simp; omega
      have hcv := conv_one wr (48 + (k : Int) % 10) (48 + k % 10) (by omega) (by omega)
      go_wp2_with fail
      refine ⟨⟨k / 10, UInt8.ofNat (48 + k % 10) :: l, by omega, by simp, ?_, ?_, hbel.alloc (hbel.size) _⟩, ?_⟩
      · exact congrArg Value.string (cons_bytes _ _ l (by simp))
      · rw [← HD.out, digs_step k hz, List.append_assoc]; rfl
      · simp [intOf]; omega

set_option maxHeartbeats 400000 in
set_option maxRecDepth 100000 in
theorem specFmt_neg (u : Nat) (w : World) (h1 : 1 ≤ u) (h2 : u ≤ 9223372036854775808) :
    Calls Tryz.prog 71 #[.int .i64 (-(u : Int))] w fun e w' => e = .returned (.string ⟨(Go.Lib.itoa (-(u : Int))).toArray⟩) ∧ Below w.heap.size w w' := by
  have HU : Hid (digs u = Go.Lib.decDigits u) := Lib.hid (by unfold digs; rw [if_neg (by omega)])
  have hb0 : ((-(u : Int)) == 0) = false := by simp; omega
  have hb1 : decide (0 < u) = true := by simp; omega
  go_enter Tryz.func71, Tryz.ntmps71
  go_wp2_with fail
  go_loopw [0, 4] (fun i o wr => ∃ (k : Nat) (l : List UInt8), k ≤ u ∧ i = .int .i64 (-(k : Int)) ∧ o = .string ⟨l.toArray⟩ ∧ digs k ++ l = digs u ∧ Below w.heap.size w wr) (fun i _ _ => (-(intOf i)).toNat)
  case atStart => exact ⟨u, [], Nat.le_refl _, rfl, rfl, by simp, Below.refl _ _⟩
  case round =>
    obtain ⟨k, l, hk, rfl, rfl, hd, hbel⟩ := hrel
    have hll : l.length ≤ 20 := by
      have h20 := digs_len u (by omega)
      have hs := congrArg List.length hd
      rw [List.length_append] at hs
      omega
    have HD := Lib.hid hd
    clear hd
    by_cases hz : k = 0
    · subst hz
      go_wp2_with fail
      go_ret
      refine ⟨ret_str ?_, hbel⟩
      have hd := HD.out
      rw [show digs 0 = [] from rfl, List.nil_append] at hd
      rw [Go.Lib.itoa_neg u (by omega), ← HU.out, ← hd]
      apply ByteArray.ext
      simp
    · have hn : (-(k : Int) != 0) = true := by simp; omega
      have hn0 : (-(k : Int) == 0) = false := by simp; omega
      by_cases hm : k % 10 = 0
      · have hm' : ¬ (0 < (k : Int) % 10) := by omega
        have hcv := conv_one wr (48 + -((k : Int) % 10)) (48 + k % 10) (by omega) (by omega)
        go_wp2_with fail
        refine ⟨⟨k / 10, UInt8.ofNat (48 + k % 10) :: l, by omega, by simp, ?_, ?_, hbel.alloc (hbel.size) _⟩, ?_⟩
        · exact congrArg Value.string (cons_bytes _ _ l (by simp [hm]))
        · rw [← HD.out, digs_step k hz, List.append_assoc]; rfl
        · simp [intOf]; omega
      · have hm' : 0 < (k : Int) % 10 := by omega
        have hcv := conv_one wr (48 + (k : Int) % 10) (48 + k % 10) (by omega) (by omega)
        go_wp2_with fail
        refine ⟨⟨k / 10, UInt8.ofNat (48 + k % 10) :: l, by omega, by simp, ?_, ?_, hbel.alloc (hbel.size) _⟩, ?_⟩
        · exact congrArg Value.string (cons_bytes _ _ l (by simp))
        · rw [← HD.out, digs_step k hz, List.append_assoc]; rfl
        · simp [intOf]; omega

set_option maxHeartbeats 400000 in
theorem specFmt_zero (w : World) :
    Calls Tryz.prog 71 #[.int .i64 0] w fun e w' => e = .returned (.string ⟨(Go.Lib.itoa 0).toArray⟩) ∧ Below w.heap.size w w' := by
  go_enter Tryz.func71, Tryz.ntmps71
  go_wp2_with fail
  go_ret
  refine ⟨ret_str ?_, Below.refl _ _⟩
  rw [show (0 : Int) = ((0 : Nat) : Int) from rfl, Go.Lib.itoa_nonneg, Go.Lib.decDigits, dif_pos (by omega)]
  rfl

/-- spec.FormatInt, at every int. -/
theorem specFmt_any (n : Int) (w : World) (h0 : -9223372036854775808 ≤ n) (h1 : n ≤ 9223372036854775807) :
    Calls Tryz.prog 71 #[.int .i64 n] w fun e w' => e = .returned (.string ⟨(Go.Lib.itoa n).toArray⟩) ∧ Below w.heap.size w w' := by
  rcases Int.lt_trichotomy n 0 with h | h | h
  · obtain ⟨u, rfl⟩ : ∃ u : Nat, n = -(u : Int) := ⟨n.natAbs, by omega⟩
    exact specFmt_neg u w (by omega) (by omega)
  · subst h; exact specFmt_zero w
  · obtain ⟨u, rfl⟩ : ∃ u : Nat, n = u := ⟨n.toNat, by omega⟩
    exact specFmt_pos u w (by omega) (by omega)
end Go.Proofs.YtabcmnlmmpbmnaaGreatDoor
