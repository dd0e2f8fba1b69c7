/-
  Plain facts on joined strings.
-/
import Derived.Test.YtooghbejbjfakaaDoorRowOf
import Derived.Lib.Join
namespace Go.Proofs.YtooghbejbjfakaaDoor
open Go.RowKit
set_option linter.unusedVariables false

/-- The strings' bytes. -/
def bs (ss : List ByteArray) : List (List UInt8) := ss.map (·.data.toList)
/-- What has been written when k strings are joined. -/
def pt (ss : List ByteArray) (sep : ByteArray) (k : Nat) : List UInt8 := Go.Lib.join (bs (ss.take k)) sep.data.toList

theorem pt_one (ss : List ByteArray) (sep : ByteArray) (h : 0 < ss.length) : pt ss sep 1 = ss[0].data.toList := by
  unfold pt bs
  rw [List.take_succ_eq_append_getElem h]
  simp [Go.Lib.join_one]

theorem joinTail_append (sep : List UInt8) (a b : List (List UInt8)) : Go.Lib.joinTail sep (a ++ b) = Go.Lib.joinTail sep a ++ Go.Lib.joinTail sep b := by
  simp [Go.Lib.joinTail]

theorem pt_succ (ss : List ByteArray) (sep : ByteArray) (k : Nat) (h0 : 0 < k) (h : k < ss.length) : pt ss sep (k + 1) = pt ss sep k ++ sep.data.toList ++ ss[k].data.toList := by
  unfold pt bs
  rw [List.take_succ_eq_append_getElem h, List.map_append]
  rcases hl : ss.take k with _ | ⟨x, r⟩
  · have h1 : (ss.take k).length = 0 := by rw [hl]; rfl
    rw [List.length_take] at h1
    omega
  · simp only [List.map_cons, List.cons_append, Go.Lib.join_cons, joinTail_append]
    simp [Go.Lib.joinTail]

theorem pt_len (ss : List ByteArray) (sep : ByteArray) : ∀ k, k ≤ ss.length → (pt ss sep k).length ≤ k * sep.size + tot (ss.take k)
  | 0, _ => by simp [pt, bs, Go.Lib.join_nil]
  | k + 1, h => by
    have ih := pt_len ss sep k (by omega)
    have hs : sep.data.toList.length = sep.size := Array.length_toList
    rw [tot_take ss k (by omega), Nat.succ_mul]
    rcases Nat.eq_zero_or_pos k with rfl | h0
    · rw [pt_one ss sep (by omega)]
      have : ss[0].data.toList.length = ss[0].size := Array.length_toList
      omega
    · rw [pt_succ ss sep k h0 (by omega), List.length_append, List.length_append, hs]
      have : (ss[k]).data.toList.length = (ss[k]).size := Array.length_toList
      omega

theorem tot_le (ss : List ByteArray) (k : Nat) : tot (ss.take k) ≤ tot ss := by
  have h : tot ss = tot (ss.take k) + tot (ss.drop k) := by
    unfold tot
    rw [← List.sum_append, ← List.map_append, List.take_append_drop]
  omega

theorem pt_small (ss : List ByteArray) (sep : ByteArray) (hn : ss.length + tot ss ≤ 1048576) (hs : sep.size ≤ 1048576) (k : Nat) (hk : k ≤ ss.length) : (pt ss sep k).length ≤ 1099512676352 := by
  have h1 := pt_len ss sep k hk
  have h2 : k * sep.size ≤ 1048576 * 1048576 := Nat.mul_le_mul (by omega) hs
  have h3 := tot_le ss k
  omega
/-- Long texts, joined by a short one. -/
theorem pt_big (ss : List ByteArray) (sep : ByteArray) (hn : ss.length ≤ 1048576) (ht : tot ss ≤ 1099511627776) (hs : sep.size ≤ 1048576) (k : Nat) (hk : k ≤ ss.length) : (pt ss sep k).length ≤ 2199023255552 := by
  have h1 := pt_len ss sep k hk
  have h2 : k * sep.size ≤ 1048576 * 1048576 := Nat.mul_le_mul (by omega) hs
  have h3 := tot_le ss k
  omega
end Go.Proofs.YtooghbejbjfakaaDoor
