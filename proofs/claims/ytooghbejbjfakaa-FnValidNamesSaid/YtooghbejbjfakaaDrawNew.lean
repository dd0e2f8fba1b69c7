/-
  A new cursor over the law's bytes (l1New).
-/
import Derived.Test.YtooghbejbjfakaaDraw
namespace Go.Proofs.Ytooghbejbjfakaa
open Go.RowKit
set_option linter.unusedVariables false

set_option maxHeartbeats 400000 in
set_option maxRecDepth 100000 in
theorem new_any (A : Option Addr) (n c : Nat) (w : World) (B : Nat) (hB : B ≤ w.heap.size) (h : Code w B A n) (hn : n ≤ 1048576) :
    Calls Try.prog 27 #[.slice A n c] w fun e w' => ∃ blk, e = .returned (.pointer (some ⟨blk, 0, none⟩)) ∧ w.heap.size ≤ blk ∧ Cur w' B blk ∧ Below w.heap.size w w' := by
  go_enter Try.func27, Try.ntmps27
  go_wp2_with fail
  go_loopw [3, 4] (fun h i wr => ∃ (k : Nat) (x : Int), k ≤ n ∧ k ≤ 4000 ∧ i = .int .i64 k ∧ h = .int .i64 x ∧ wr = w) (fun _ i _ => n - (intOf i).toNat)
  case atStart => exact ⟨0, _, Nat.zero_le _, by omega, rfl, rfl, rfl⟩
  case round =>
    obtain ⟨k, x, hk, hk4, rfl, rfl, rfl⟩ := hrel
    by_cases hlt : k < n
    · by_cases hlt4 : k < 4000
      · obtain ⟨ad, z, rfl, hab, hc, h0, h1⟩ := h.2 k hlt
        have HH := Lib.hid h
        clear h
        go_wp2_with fail
        exact ⟨⟨k + 1, _, by omega, by omega, rfl, rfl, trivial⟩, by simp [intOf]; omega⟩
      · have HH := Lib.hid h
        clear h
        go_wp2_with fail
        go_ret
        refine ⟨_, rfl, Nat.le_refl _, ?_, (Below.refl _ _).alloc (Nat.le_refl _) _⟩
        exact ⟨hB, A, n, c, 0, _, by rw [heap_alloc_new]; rfl, HH.out.keep fun p hp => World.cell?_alloc_lt wr _ p (by omega), Nat.zero_le _⟩
    · have HH := Lib.hid h
      clear h
      go_wp2_with fail
      go_ret
      refine ⟨_, rfl, Nat.le_refl _, ?_, (Below.refl _ _).alloc (Nat.le_refl _) _⟩
      exact ⟨hB, A, n, c, 0, _, by rw [heap_alloc_new]; rfl, HH.out.keep fun p hp => World.cell?_alloc_lt wr _ p (by omega), Nat.zero_le _⟩
end Go.Proofs.Ytooghbejbjfakaa
