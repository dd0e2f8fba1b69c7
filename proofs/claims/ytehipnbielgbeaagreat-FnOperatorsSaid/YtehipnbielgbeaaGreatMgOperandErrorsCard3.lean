/-
  Texts that the proof rests on, put together: DrawNames.
-/
import Derived.Test.YtehipnbielgbeaaGreatMgExactApplyOperatorCard3
import Derived.Test.YtehipnbielgbeaaGreatMgOperandErrorsCard2
/-
  The texts and the lists of texts that chapter 2 draws.
-/

namespace Go.Proofs.YtehipnbielgbeaaGreat
open Go.RowKit
set_option linter.unusedVariables false

/-- A short text is drawn. -/
def DrawnS (B blk : Nat) (w : World) (e : Ending) (w' : World) : Prop := ∃ s : ByteArray, s.size ≤ 16 ∧ e = .returned (.string s) ∧ w.grownBy w' (some blk) ∧ Cur w' B blk

def nameWords : List (List UInt8) := [[97], [98], [99], [100], [120], [121], [116], [117]]
def anyWords : List (List UInt8) := [[], [49, 97], [97, 49], [97, 98, 99, 100, 101, 102, 103, 104], [97, 98, 99, 100, 101, 102, 103, 104, 105], [108, 101, 116], [116, 97, 98, 108, 101], [115, 117, 109], [115, 117, 109, 115], [65], [97, 95, 98], [108, 101, 110]]

set_option maxHeartbeats 400000 in
set_option maxRecDepth 100000 in
theorem drawName_any (w : World) (B blk : Nat) (h : Cur w B blk) :
    Calls Tryz.prog 113 #[.pointer (some ⟨blk, 0, none⟩)] w (DrawnS B blk w) := by
  have H := Lib.hid h
  clear h
  go_enter Tryz.func113, Tryz.ntmps113
  go_wp2_with fail
  refine (pick_lit _ B blk 8 8 _ _ H.out rfl (by omega) (by omega)).mono ?_
  rintro e w2 ⟨k, v, hv, rfl, hg2, hc2⟩
  obtain ⟨l, _, hl, rfl⟩ := strs_mem nameWords 16 (by decide) hv
  have H2 := Lib.hid (And.intro hg2 hc2)
  clear hg2 hc2 hv
  go_wp2_with fail
  go_ret
  exact ⟨⟨l.toArray⟩, hl, rfl, H2.out.1, H2.out.2⟩

set_option maxHeartbeats 400000 in
set_option maxRecDepth 100000 in
theorem drawAny_any (w : World) (B blk : Nat) (h : Cur w B blk) :
    Calls Tryz.prog 88 #[.pointer (some ⟨blk, 0, none⟩)] w (DrawnS B blk w) := by
  have H := Lib.hid h
  clear h
  go_enter Tryz.func88, Tryz.ntmps88
  go_wp2_with fail
  refine (once_any _ B blk 2 H.out (by omega) (by omega)).mono ?_
  rintro e w1 ⟨b, rfl, hg1, hc1⟩
  have H1 := Lib.hid (And.intro hg1 hc1)
  clear hg1 hc1
  cases b with
  | true =>
    go_wp2_with fail
    refine (drawName_any _ B blk H1.out.2).mono ?_
    rintro e w2 ⟨s, hs, rfl, hg2, hc2⟩
    have H2 := Lib.hid (And.intro (grown_trans H1.out.1 hg2) hc2)
    clear hg2 hc2
    go_wp2_with fail
    go_ret
    exact ⟨_, hs, rfl, H2.out.1, H2.out.2⟩
  | false =>
    go_wp2_with fail
    refine (pick_lit _ B blk 12 12 _ _ H1.out.2 rfl (by omega) (by omega)).mono ?_
    rintro e w2 ⟨k, v, hv, rfl, hg2, hc2⟩
    obtain ⟨l, _, hl, rfl⟩ := strs_mem anyWords 16 (by decide) hv
    have H2 := Lib.hid (And.intro (grown_trans H1.out.1 hg2) hc2)
    clear hg2 hc2 hv
    go_wp2_with fail
    go_ret
    exact ⟨⟨l.toArray⟩, hl, rfl, H2.out.1, H2.out.2⟩

/-- A list of at most five short texts is drawn, in memory of its own. -/
def DrawnL (B blk : Nat) (w : World) (e : Ending) (w' : World) : Prop := ∃ (ss : List ByteArray) (v : Value), ss.length ≤ 5 ∧ (∀ s ∈ ss, s.size ≤ 16) ∧ e = .returned v ∧ w'.ownsRow w.heap.size 9 1 v ss.length (strV ss) ∧ w.grownBy w' (some blk) ∧ Cur w' B blk

theorem alloc_grown (w : World) (o : Obj) (r : Option Nat) : w.grownBy (w.alloc o) r := World.grownBy_alloc w o r

end Go.Proofs.YtehipnbielgbeaaGreat
