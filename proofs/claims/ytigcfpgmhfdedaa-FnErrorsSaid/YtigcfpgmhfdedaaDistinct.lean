/-
  AllDistinct, the model's and the program's.
-/
import Derived.Test.YtigcfpgmhfdedaaHas
import Derived.Test.YtigcfpgmhfdedaaStrSz
import Derived.Test.YtigcfpgmhfdedaaStrTo
import Derived.Test.YtigcfpgmhfdedaaStrEq
namespace Go.Proofs.Ytigcfpgmhfdedaa
open Go.RowKit
set_option linter.unusedVariables false

/-- A row that is owned is no longer than its capacity. -/
theorem own_capS {w : World} {base : Nat} {e : TypeId} {g : Addr} {n c : Nat} {xs : List Value} (h : w.ownsRow base e 1 (.slice (some g) n c) n xs) : n ≤ c := by
  rcases h.2 with ⟨e, _⟩ | ⟨g', cap', cur', e, _, _, hcc, _⟩
  · cases e
  · injection e with e1 e2 e3
    omega

theorem sortB_len (ss : List ByteArray) : (sortB ss).length = (sortN (ss.map nb)).length := by simp [sortB]
theorem sortB_le (ss : List ByteArray) : (sortB ss).length ≤ ss.length := by
  rw [sortB_len]
  have := sortN_length (ss.map nb)
  simpa using this

theorem slice_upto (a : Option Addr) (n c k : Nat) (h : k ≤ c) (W : World) :
    (Instr.slice 25 (.slice a n c) none (some (.int .i64 (k : Int))) none).run Try.prog W = .ok (.slice a k c) W := by
  rw [run_slice_h (P := Try.prog) (w := W) 25 a n c (by kernel_rfl) .i64 (k : Int) (by omega) (by omega)]
  have hs : (sizeOf (Try.prog.elem 25)).run Try.prog W = .ok 1 W := by kernel_rfl
  rw [hs]
  cases a with
  | none => simp [Result.andThen, sliced]
  | some x => cases x; simp [Result.andThen, sliced, Addr.add]

set_option maxHeartbeats 400000 in
set_option maxRecDepth 100000 in
theorem implDistinct_any (A : Option Addr) (c : Nat) (ss : List ByteArray) (B : Nat) (w : World) (h : RowOf w B A (strV ss)) (hn : ss.length ≤ 1048576) :
    Calls Try.prog 118 #[.slice A ss.length c] w fun e w' => e = .returned (.bool (decide ((ss.map nb).Nodup))) ∧ Below w.heap.size w w' := by
  have hs := implSort_any A c ss B w h hn
  have hle := sortB_le ss
  have hr : decide ((ss.map nb).Nodup) = ((((sortB ss).length : Nat) : Int) == ((ss.length : Nat) : Int)) := by
    rw [sortB_len]
    have h1 := sortN_len (ss.map nb)
    rw [List.length_map] at h1
    rw [Bool.eq_iff_iff, decide_eq_true_iff, ← h1]
    simp
    omega
  rw [hr]
  unfold SortLeft at hs
  generalize sortB ss = ts at hs hle
  generalize ss.length = n at hs hle hn
  clear hr h
  go_enter Try.func118, Try.ntmps118
  go_wp2_with fail
  refine hs.mono ?_
  rintro e w1 ⟨A', c', rfl, hown, hb⟩
  have HB := Lib.hid hb
  clear hb hown
  go_wp2_with fail
  go_ret
  exact ⟨rfl, HB.out⟩

end Go.Proofs.Ytigcfpgmhfdedaa
