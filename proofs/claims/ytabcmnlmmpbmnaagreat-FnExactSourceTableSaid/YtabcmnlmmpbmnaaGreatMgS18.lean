/-
  Texts that the proof rests on, put together: Digs.
-/
import Derived.Test.YtabcmnlmmpbmnaaGreatRows
import Derived.WalkKit
import Derived.WalkSpells
import Derived.WalkLawsBesides
import Derived.Lib.ItoaNum
import Derived.Lib.ItoaLen
import Derived.Lib.Hide
import Derived.Laws.IdiomStrings
/-
  Digits as texts, and one-byte rows turned into texts: what the number laws and the marks share.
-/

namespace Go.Proofs.YtabcmnlmmpbmnaaGreat
open Go.RowKit
set_option linter.unusedVariables false

/-- The digits of u behind which 'out' stands: empty for 0. -/
def digs (u : Nat) : List UInt8 := if u = 0 then [] else Go.Lib.decDigits u

theorem digs_step (u : Nat) (h : u ≠ 0) : digs u = digs (u / 10) ++ [UInt8.ofNat (48 + u % 10)] := by
  unfold digs
  rw [if_neg h]
  by_cases h10 : u < 10
  · rw [Go.Lib.decDigits, dif_pos h10, if_pos (by omega), Nat.mod_eq_of_lt h10]; rfl
  · rw [Go.Lib.decDigits, dif_neg h10, if_neg (by omega)]

theorem digs_len (u : Nat) (h : u < 18446744073709551616) : (digs u).length ≤ 20 := by
  unfold digs
  split
  · simp
  · rw [Go.Lib.decDigits_length]; exact Go.Lib.nDigits_le20 u h

/-- 'string([]byte{x})', the one-byte row just made. -/
theorem conv_one (W : World) (x : Int) (k : Nat) (h : x = k) (h1 : k < 256) :
    (convert 22 9 (.slice (some ⟨W.heap.size, 0, none⟩) 1 1)).run Tryz.prog (W.alloc (.cells #[.int .u8 x] 5)) = .ok (.string ⟨#[UInt8.ofNat k]⟩) (W.alloc (.cells #[.int .u8 x] 5)) := by
  subst h
  have hc := run_convert_bytes_back (P := Tryz.prog) (W.alloc (.cells #[.int .u8 k] 5)) 22 9 5 ⟨W.heap.size, 0, none⟩ 1 [UInt8.ofNat k] Tryz.underlying22 Tryz.underlying5 Tryz.underlying9 (fun j hj => by
    have hj0 : j = 0 := by simpa using hj
    subst hj0
    show (W.alloc (.cells #[.int .u8 k] 5)).cell? ⟨W.heap.size, 0, none⟩ = _
    rw [World.cell?_alloc_mark]
    simp [Nat.mod_eq_of_lt h1])
  simpa using hc

theorem cons_bytes (x y : UInt8) (l : List UInt8) (h : x = y) : (⟨#[x]⟩ : ByteArray) ++ ⟨l.toArray⟩ = ⟨(y :: l).toArray⟩ := by
  subst h
  apply ByteArray.ext
  simp

theorem ret_str {a b : ByteArray} (h : a = b) : Ending.returned (.string a) = .returned (.string b) := by rw [h]
end Go.Proofs.YtabcmnlmmpbmnaaGreat
