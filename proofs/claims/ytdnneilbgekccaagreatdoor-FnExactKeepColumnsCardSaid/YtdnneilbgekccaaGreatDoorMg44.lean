/-
  Texts that the proof rests on, put together: TblH.
-/
import Derived.Test.YtdnneilbgekccaaGreatDoorMg43
import Derived.Test.YtdnneilbgekccaaGreatDoorMg31
import Derived.Test.YtdnneilbgekccaaGreatDoorMg38
import Derived.Test.YtdnneilbgekccaaGreatDoorMg36
import Derived.Maps.Views
import Derived.Deep.RegionLaw
import Derived.Deep.RegionHeld3
import Derived.Outline
/-
  TableOf: names split. (Written by gentab.py.)
-/

namespace Go.Proofs.YtdnneilbgekccaaGreatDoor
open Go.RowKit Go.Maps
set_option linter.unusedVariables false
set_option linter.unusedSimpArgs false

theorem own_mono7 {w : World} {base base' : Nat} {e : TypeId} {k : Nat} {v : Value} {n : Nat} {xs : List Value} (h : w.ownsRow base e k v n xs) (hb : base' ≤ base) : w.ownsRow base' e k v n xs :=
  ⟨h.1, h.2.imp id fun ⟨g, cap, cur, h1, h2, h3⟩ => ⟨g, cap, cur, h1, Nat.le_trans hb h2, h3⟩⟩

set_option maxHeartbeats 1600000 in
set_option maxRecDepth 100000 in
theorem splitNames_any (y0 y1 y2 : Int) (t : ByteArray) (v4 v5 v6 : Value) (hs : t.size ≤ 1048576) (cc : List ByteArray) (hcc : pcsB 32 t.data.toList = cc) (w : World) (hM : MaxL w) :
    Calls Tryz.prog 170 #[.agg #[.int .i64 y0, .int .i64 y1, .int .i64 y2, .string t, v4, v5, v6]] w fun e w' => ∃ g, e = .returned (.slice (some ⟨g, 0, none⟩) cc.length cc.length) ∧ w'.ownsRow w.heap.size 9 1 (.slice (some ⟨g, 0, none⟩) cc.length cc.length) cc.length (strV cc) ∧ Below w.heap.size w w' := by
  subst hcc
  have h0 := (MSt.start w).new 28 7 #[.int .i64 y0, .int .i64 y1, .int .i64 y2, .string t, v4, v5, v6] rfl
  have H0 := Lib.hid h0
  have HC := Lib.hid (implSplit_any t.data.toList 32 _ hs (hM.below h0.bel))
  clear h0 hM
  go_enter Tryz.func170, Tryz.ntmps170
  go_wp2_with fail
  refine HC.out.mono ?_
  rintro e w1 ⟨g, rfl, hown, hb⟩
  have HB := Lib.hid (And.intro hown (H0.out.bel.trans (hb.mono H0.out.size)))
  have hsz := H0.out.size
  have HO := Lib.hid (show w1.ownsRow w.heap.size 9 1 (.slice (some ⟨g, 0, none⟩) (pcsB 32 t.data.toList).length (pcsB 32 t.data.toList).length) (pcsB 32 t.data.toList).length (strV (pcsB 32 t.data.toList)) from own_mono7 hown hsz)
  clear hown hb HC
  go_wp2_with fail
  go_ret
  exact ⟨_, rfl, HO.out, HB.out.2⟩

end Go.Proofs.YtdnneilbgekccaaGreatDoor
