/-
  Texts that the proof rests on, put together: Digs, SpecFmt.
-/
import Derived.Test.YtooghbejbjfakaaGreatDoorRows
import Derived.WalkKit
import Derived.WalkSpells
import Derived.WalkLawsBesides
import Derived.Lib.ItoaNum
import Derived.Lib.ItoaLen
import Derived.Lib.Hide
import Derived.Laws.IdiomStrings
/-
  Digits as texts, and one-byte rows turned into texts: what the number laws and the marks share.
-/

namespace Go.Proofs.YtooghbejbjfakaaGreatDoor
open Go.RowKit
set_option linter.unusedVariables false

/-- 'string([]byte{x})', the one-byte row just made. -/
theorem conv_one (W : World) (x : Int) (k : Nat) (h : x = k) (h1 : k < 256) :
    (convert 22 9 (.slice (some ⟨W.heap.size, 0, none⟩) 1 1)).run Tryz.prog (W.alloc (.cells #[.int .u8 x] 5)) = .ok (.string ⟨#[UInt8.ofNat k]⟩) (W.alloc (.cells #[.int .u8 x] 5)) := by
  subst h
  have hc := run_convert_bytes_back (P := Tryz.prog) (W.alloc (.cells #[.int .u8 k] 5)) 22 9 5 ⟨W.heap.size, 0, none⟩ 1 [UInt8.ofNat k] Tryz.underlying22 Tryz.underlying5 Tryz.underlying9 (fun j hj => by
    have hj0 : j = 0 := by simpa using hj
    subst hj0
    show (W.alloc (.cells #[.int .u8 k] 5)).cell? ⟨W.heap.size, 0, none⟩ = _
    rw [World.cell?_alloc_mark]
    simp [Nat.mod_eq_of_lt h1])
  simpa using hc

end Go.Proofs.YtooghbejbjfakaaGreatDoor
