/-
  Texts that the proof rests on, put together: Draw6.
-/
import Derived.Test.YtjhmeaofbheonabGreatDoorMgT17
import Derived.Test.YtjhmeaofbheonabGreatDoorMgT25
import Derived.Test.YtjhmeaofbheonabGreatDoorMgT8
import Derived.Test.YtjhmeaofbheonabGreatDoorMgT10
import Derived.Test.YtjhmeaofbheonabGreatDoorMgT5
import Derived.Deep.RegionLaw
/-
  Draws of lists and streams. By gendraw6.py: (Written by genlst.py.)
-/

namespace Go.Proofs.YtjhmeaofbheonabGreatDoor
open Go.RowKit
set_option linter.unusedVariables false
set_option linter.unusedSimpArgs false

theorem DrSt.put {w wx : World} {B blk : Nat} {L : List Asn} {e : TypeId} {b : Nat} {xs : List Value} (h : DrSt w B blk (boxA e 7 b xs :: L) wx) (u0 u1 u2 u3 u4 u5 u6 : Value) :
    ∃ W7, W7 = ((((((wx.setCell ⟨b, 0, none⟩ u0).setCell ⟨b, 1, none⟩ u1).setCell ⟨b, 2, none⟩ u2).setCell ⟨b, 3, none⟩ u3).setCell ⟨b, 4, none⟩ u4).setCell ⟨b, 5, none⟩ u5).setCell ⟨b, 6, none⟩ u6 ∧
      DrSt w B blk (boxA e 7 b [u0, u1, u2, u3, u4, u5, u6] :: L) W7 ∧ W7.cell? ⟨b, 0, none⟩ = some u0 ∧ W7.cell? ⟨b, 1, none⟩ = some u1 ∧ W7.cell? ⟨b, 2, none⟩ = some u2 ∧ W7.cell? ⟨b, 3, none⟩ = some u3 ∧ W7.cell? ⟨b, 4, none⟩ = some u4 ∧ W7.cell? ⟨b, 5, none⟩ = some u5 ∧ W7.cell? ⟨b, 6, none⟩ = some u6 := by
  have hg := h.set7 [u0, u1, u2, u3, u4, u5, u6] rfl
  simp only [World.setCells, Nat.zero_add, Nat.reduceAdd] at hg
  obtain ⟨z0, z1, z2, z3, z4, z5, z6, _⟩ := box7 hg.box
  exact ⟨_, rfl, hg, z0, z1, z2, z3, z4, z5, z6⟩
end Go.Proofs.YtjhmeaofbheonabGreatDoor
