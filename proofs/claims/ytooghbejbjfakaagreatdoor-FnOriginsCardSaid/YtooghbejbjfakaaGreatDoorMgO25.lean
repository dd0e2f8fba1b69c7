/-
  Texts that the proof rests on, put together: Split.
-/
import Derived.Test.YtooghbejbjfakaaGreatDoorMgO7
import Derived.Test.YtooghbejbjfakaaGreatDoorMgO1
import Derived.Test.YtooghbejbjfakaaGreatDoorMgO22
import Derived.Test.YtooghbejbjfakaaGreatDoorMgO15
/-
  SplitByte: the model's and the program's, at every text and byte.
-/

namespace Go.Proofs.YtooghbejbjfakaaGreatDoor
open Go.RowKit
set_option linter.unusedVariables false

set_option maxHeartbeats 400000 in
set_option maxRecDepth 100000 in
/-- impl.SplitByte. -/
theorem implSplit_any (l : List UInt8) (c : UInt8) (w : World) (hs : l.length ≤ 1048576) (hM : MaxL w) :
    Calls Tryz.prog 88 #[.string ⟨l.toArray⟩, .int .u8 c.toNat] w fun e w' => ∃ g, e = .returned (.slice (some ⟨g, 0, none⟩) (pcsB c l).length (pcsB c l).length) ∧
      w'.ownsRow w.heap.size 9 1 (.slice (some ⟨g, 0, none⟩) (pcsB c l).length (pcsB c l).length) (pcsB c l).length (strV (pcsB c l)) ∧ Below w.heap.size w w' := by
  have hcv := conv_one w c.toNat c.toNat rfl (by have := c.toNat_lt; omega)
  rw [show UInt8.ofNat c.toNat = c from by simp] at hcv
  obtain ⟨⟨m, hm⟩, hlt⟩ := hM.below ((Below.refl w.heap.size w).alloc (Nat.le_refl _) (.cells #[.int .u8 c.toNat] 5))
  have C := Lib.hid (Tryz.strings_Split ⟨l.toArray⟩ ⟨#[c]⟩ m _ (by show l.length < _; omega) hm (Nat.le_refl 1))
  clear hm hlt hM
  go_enter Tryz.func88, Tryz.ntmps88
  go_wp2_with fail
  refine C.out.mono ?_
  rintro e w1 ⟨rfl, rfl⟩
  go_wp2_with fail
  go_ret
  have hcnt := countB_pcs c ⟨l.toArray⟩
  have hpcs := splitB_pcs c ⟨l.toArray⟩
  have hl : (⟨l.toArray⟩ : ByteArray).data.toList = l := rfl
  rw [hl] at hcnt hpcs
  rw [hcnt, hpcs]
  have hlen := pcsB_len c l
  refine ⟨_, rfl, ?_, ((Below.refl _ _).alloc (Nat.le_refl _) _).alloc (by simp) _⟩
  have hown := World.ownsRow_lit (e := 9) (size := 1) (base := w.heap.size) (w.alloc (.cells #[.int .u8 c.toNat] 5)) ((pcsB c l).map Value.string).toArray (pcsB c l).length (by simp) (by unfold maxLen; omega) (by simp)
  simpa [strV] using hown
end Go.Proofs.YtooghbejbjfakaaGreatDoor
