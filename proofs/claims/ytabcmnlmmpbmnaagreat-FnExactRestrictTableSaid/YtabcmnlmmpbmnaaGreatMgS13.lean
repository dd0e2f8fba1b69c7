/-
  Texts that the proof rests on, put together: TabOp.
-/
import Derived.Test.YtabcmnlmmpbmnaaGreatMgS11
import Derived.Maps.Views
import Derived.Deep.RegionLaw
import Derived.Deep.RegionHeld3
import Derived.Outline
import Derived.Laws.EntriesVeiled
/-
  The table of operations. (Written by gentab.py.)
-/

namespace Go.Proofs.YtabcmnlmmpbmnaaGreat
open Go.RowKit Go.Maps
set_option linter.unusedVariables false
set_option linter.unusedSimpArgs false

theorem MSt.row_lit {w wx : World} {L : List Asn} (h : MSt w L wx) (e : TypeId) (k n : Nat) (cs : Array Value) (hn : n ≤ maxLen) (hk : cs.size = n * k) : MSt w (rowA e k (.slice (some ⟨wx.heap.size, 0, none⟩) n n) n cs.toList :: L) (wx.alloc (.cells cs e)) :=
  h.add ((Below.refl _ _).alloc (Nat.le_refl _) _) (rowA_at (World.ownsRow_lit wx cs n (Nat.le_refl _) hn hk))
end Go.Proofs.YtabcmnlmmpbmnaaGreat
