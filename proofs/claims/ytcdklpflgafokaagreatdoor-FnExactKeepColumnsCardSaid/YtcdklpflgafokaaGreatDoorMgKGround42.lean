/-
  Texts that the proof rests on, put together: TblH.
-/
import Derived.Test.YtcdklpflgafokaaGreatDoorMgKGround41
import Derived.Test.YtcdklpflgafokaaGreatDoorMgKGround30
import Derived.Test.YtcdklpflgafokaaGreatDoorMgKGround40
import Derived.Test.YtcdklpflgafokaaGreatDoorMgKGround38
import Derived.Maps.Views
import Derived.Deep.RegionLaw
import Derived.Deep.RegionHeld3
import Derived.Outline
/-
  TableOf: names split. (Written by gentab.py.)
-/

namespace Go.Proofs.YtcdklpflgafokaaGreatDoor
open Go.RowKit Go.Maps
set_option linter.unusedVariables false
set_option linter.unusedSimpArgs false

theorem own_mono7 {w : World} {base base' : Nat} {e : TypeId} {k : Nat} {v : Value} {n : Nat} {xs : List Value} (h : w.ownsRow base e k v n xs) (hb : base' ≤ base) : w.ownsRow base' e k v n xs :=
  ⟨h.1, h.2.imp id fun ⟨g, cap, cur, h1, h2, h3⟩ => ⟨g, cap, cur, h1, Nat.le_trans hb h2, h3⟩⟩

theorem el_rd {w : World} {B : Nat} {x : Dt} (hx : IsVal x) {y0 y1 y2 : Int} {y3 : ByteArray} {y4 : Option Addr} {n4 c4 : Nat} {v5 v6 : Value} (h : Rd w B x [.int .i64 y0, .int .i64 y1, .int .i64 y2, .string y3, .slice y4 n4 c4, v5, v6]) : Rd w B (.lst x.el) [.slice y4 n4 c4] := by
  cases hx
  obtain ⟨A4, q4, A5, q5, A6, q6, e, r4, -, -⟩ := Rd.ofValue h
  simp only [List.cons.injEq, Value.slice.injEq, and_true, true_and] at e
  obtain ⟨-, -, -, -, ⟨rfl, rfl, rfl⟩, -⟩ := e
  exact r4
set_option maxHeartbeats 1600000 in
set_option maxRecDepth 100000 in
theorem splitNames_any (y0 y1 y2 : Int) (t : ByteArray) (v4 v5 v6 : Value) (hs : t.size ≤ 1048576) (cc : List ByteArray) (hcc : pcsB 32 t.data.toList = cc) (w : World) (hM : MaxL w) :
    Calls Tryz.prog 81 #[.agg #[.int .i64 y0, .int .i64 y1, .int .i64 y2, .string t, v4, v5, v6]] w fun e w' => ∃ g, e = .returned (.slice (some ⟨g, 0, none⟩) cc.length cc.length) ∧ w'.ownsRow w.heap.size 9 1 (.slice (some ⟨g, 0, none⟩) cc.length cc.length) cc.length (strV cc) ∧ Below w.heap.size w w' := by
  subst hcc
  have h0 := (MSt.start w).new 28 7 #[.int .i64 y0, .int .i64 y1, .int .i64 y2, .string t, v4, v5, v6] rfl
  have H0 := Lib.hid h0
  have HC := Lib.hid (implSplit_any t.data.toList 32 _ hs (hM.below h0.bel))
  clear h0 hM
  go_enter Tryz.func81, Tryz.ntmps81
  go_wp2_with fail
  refine HC.out.mono ?_
  rintro e w1 ⟨g, rfl, hown, hb⟩
  have HB := Lib.hid (And.intro hown (H0.out.bel.trans (hb.mono H0.out.size)))
  have hsz := H0.out.size
  have HO := Lib.hid (show w1.ownsRow w.heap.size 9 1 (.slice (some ⟨g, 0, none⟩) (pcsB 32 t.data.toList).length (pcsB 32 t.data.toList).length) (pcsB 32 t.data.toList).length (strV (pcsB 32 t.data.toList)) from own_mono7 hown hsz)
  clear hown hb HC
  go_wp2_with fail
  go_ret
  exact ⟨_, rfl, HO.out, HB.out.2⟩

end Go.Proofs.YtcdklpflgafokaaGreatDoor
