/-
  The marks that the laws write into an answer's memory and look for again (markText, markStringS, heldStringS).
-/
import Derived.Test.YtigcfpgmhfdedaaRowOf
import Derived.Test.YtigcfpgmhfdedaaDigs
import Derived.Deep.RegionHeld3
namespace Go.Proofs.Ytigcfpgmhfdedaa
open Go.RowKit
set_option linter.unusedVariables false

/-- The mark of number k. -/
def mkT (k : Nat) : ByteArray := if k = 0 then ⟨#[109, 48]⟩ else ⟨(109 :: digs k).toArray⟩

set_option maxHeartbeats 400000 in
set_option maxRecDepth 100000 in
theorem mark_zero (w : World) :
    Calls Try.prog 37 #[.int .i64 0] w fun e w' => e = .returned (.string (mkT 0)) ∧ Below w.heap.size w w' := by
  go_enter Try.func37, Try.ntmps37
  go_wp2_with fail
  go_ret
  exact ⟨rfl, Below.refl _ _⟩

set_option maxHeartbeats 400000 in
set_option maxRecDepth 100000 in
theorem mark_pos (u : Nat) (w : World) (h1 : 1 ≤ u) (h2 : u ≤ 9223372036854775807) :
    Calls Try.prog 37 #[.int .i64 u] w fun e w' => e = .returned (.string (mkT u)) ∧ Below w.heap.size w w' := by
  have h1' : ¬ ((u : Int) ≤ 0) := by omega
  go_enter Try.func37, Try.ntmps37
  go_wp2_with fail
  go_loopw [0, 3] (fun i o wr => ∃ (k : Nat) (l : List UInt8), k ≤ u ∧ i = .int .i64 k ∧ o = .string ⟨l.toArray⟩ ∧ digs k ++ l = digs u ∧ Below w.heap.size w wr) (fun i _ _ => (intOf i).toNat)
  case atStart => exact ⟨u, [], Nat.le_refl _, rfl, rfl, by simp, Below.refl _ _⟩
  case round =>
    obtain ⟨k, l, hk, rfl, rfl, hd, hbel⟩ := hrel
    have hll : l.length ≤ 20 := by
      have h20 := digs_len u (by omega)
      have hs := congrArg List.length hd
      rw [List.length_append] at hs
      omega
    have HD := Lib.hid hd
    clear hd
    by_cases hz : k = 0
    · subst hz
      go_wp2_with fail
      go_ret
      refine ⟨ret_str ?_, hbel⟩
      have hd := HD.out
      rw [show digs 0 = [] from rfl, List.nil_append] at hd
      subst hd
      unfold mkT
      rw [if_neg (by omega)]
      apply ByteArray.ext
      simp
    · have hn : ¬ ((k : Int) ≤ 0) := by omega
      have hcv := conv_one wr (48 + (k : Int) % 10) (48 + k % 10) (by omega) (by omega)
      go_wp2_with fail
      refine ⟨⟨k / 10, UInt8.ofNat (48 + k % 10) :: l, by omega, by simp, ?_, ?_, hbel.alloc (hbel.size) _⟩, ?_⟩
      · exact congrArg Value.string (cons_bytes _ _ l (by simp))
      · rw [← HD.out, digs_step k hz, List.append_assoc]; rfl
      · simp [intOf]; omega

theorem mark_any (u : Nat) (w : World) (h2 : u ≤ 9223372036854775807) :
    Calls Try.prog 37 #[.int .i64 u] w fun e w' => e = .returned (.string (mkT u)) ∧ Below w.heap.size w w' := by
  rcases Nat.eq_zero_or_pos u with rfl | h
  · exact mark_zero w
  · exact mark_pos u w h h2
end Go.Proofs.Ytigcfpgmhfdedaa
