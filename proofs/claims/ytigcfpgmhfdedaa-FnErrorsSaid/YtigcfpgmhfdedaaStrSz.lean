/-
  The strings' lengths together (szStringS).
-/
import Derived.Test.YtigcfpgmhfdedaaRowOf
namespace Go.Proofs.Ytigcfpgmhfdedaa
open Go.RowKit
set_option linter.unusedVariables false

/-- szStringS's answer: above -1 exactly where the strings fit, and then what is left. -/
def SzS (ss : List ByteArray) (left r : Int) : Prop := (0 ≤ r → (ss.length : Int) + tot ss ≤ left) ∧ r ≤ left

set_option maxHeartbeats 400000 in
set_option maxRecDepth 100000 in
theorem szS_any (A : Option Addr) (c : Nat) (ss : List ByteArray) (left : Nat) (B : Nat) (w : World) (h : RowOf w B A (strV ss)) (hl : left ≤ 1048576) (hn : ss.length ≤ 9223372036854775807)
    (hz : ∀ k (hk : k < ss.length), (ss[k]).size ≤ 9223372036854775807) :
    Calls Try.prog 56 #[.slice A ss.length c, .int .i64 left] w fun e w' => ∃ r : Int, e = .returned (.int .i64 r) ∧ SzS ss left r ∧ w' = w := by
  by_cases hs : left < ss.length
  · go_enter Try.func56, Try.ntmps56
    go_wp2_with fail
    go_ret
    exact ⟨_, rfl, ⟨fun h => by omega, by omega⟩, rfl⟩
  · go_enter Try.func56, Try.ntmps56
    go_wp2_with fail
    go_loop [1, 5] (fun l i => ∃ (k : Nat) (r : Int), k ≤ ss.length ∧ i = .int .i64 k ∧ l = .int .i64 r ∧ r = (left : Int) - ss.length - tot (ss.take k) ∧ 0 ≤ r) (fun _ i => ss.length - (intOf i).toNat)
    case atStart => exact ⟨0, _, Nat.zero_le _, rfl, rfl, by simp [tot], by omega⟩
    case round =>
      obtain ⟨k, r, hk, rfl, rfl, hr, hr0⟩ := hrel
      by_cases hlt : k < ss.length
      · obtain ⟨b, o, rfl, hb, hc⟩ := h k _ (strV_get ss k hlt)
        have hsz := hz k hlt
        have ht := tot_take ss k hlt
        have HR := Lib.hid (And.intro hr ht)
        have hrle : r ≤ 1048576 := by omega
        clear hr ht
        go_wp2_with fail
        · go_ret
          exact ⟨_, rfl, ⟨fun h => by omega, by omega⟩, rfl⟩
        · obtain ⟨hr, ht⟩ := HR.out
          refine ⟨⟨k + 1, _, by omega, by simp, rfl, ?_, by assumption⟩, by simp [intOf]; omega⟩
          rw [ht, hr]
          omega
      · go_wp2_with fail
        go_ret
        obtain rfl : k = ss.length := by omega
        rw [List.take_length] at hr
        exact ⟨_, rfl, ⟨fun h => by omega, by omega⟩, rfl⟩
end Go.Proofs.Ytigcfpgmhfdedaa
