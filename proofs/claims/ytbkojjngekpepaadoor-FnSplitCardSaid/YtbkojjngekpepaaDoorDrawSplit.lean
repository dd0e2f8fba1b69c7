/-
  The text and the byte that the law FnSplit draws (DrawSplitByte).
-/
import Derived.Test.YtbkojjngekpepaaDoorDrawNum
namespace Go.Proofs.YtbkojjngekpepaaDoor
open Go.RowKit
set_option linter.unusedVariables false

theorem ints_in (L : List Int) {k : Nat} {v : Value} (hv : (L.map (Value.int .i64)).toArray[k]? = some v) : ∃ x ∈ L, v = .int .i64 x := by
  rw [List.getElem?_toArray, List.getElem?_map] at hv
  obtain ⟨x, hx, rfl⟩ := Option.map_eq_some_iff.1 hv
  exact ⟨x, List.mem_of_getElem? hx, rfl⟩

/-- What is drawn: a short text and one of two bytes. -/
def DrawnSplit (w : World) (e : Ending) (w' : World) : Prop := ∃ (l : List UInt8) (c : UInt8), l.length ≤ 64 ∧ e = .returned (.tuple #[.string ⟨l.toArray⟩, .int .u8 c.toNat]) ∧ Below w.heap.size w w'

set_option maxHeartbeats 400000 in
set_option maxRecDepth 100000 in
theorem drawSplit_any (A : Option Addr) (n c : Nat) (w : World) (h : Code w w.heap.size A n) (hn : n ≤ 1048576) :
    Calls Tryd.prog 17 #[.slice A n c] w (DrawnSplit w) := by
  have H := Lib.hid h
  clear h
  go_enter Tryd.func17, Tryd.ntmps17
  go_wp2_with fail
  refine (new_any A n c _ _ (Nat.le_refl _) H.out hn).mono ?_
  rintro e w1 ⟨blk, rfl, hblk, hcur, hb1⟩
  have H1 := Lib.hid (And.intro hcur hb1)
  clear hcur hb1
  go_wp2_with fail
  refine (pick_lit _ w.heap.size blk 6 6 _ _ H1.out.1 rfl (by omega) (by omega)).mono ?_
  rintro e w2 ⟨k, v, hv, rfl, hg2, hc2⟩
  obtain ⟨l, _, hl, rfl⟩ := strs_mem [[], [97], [97, 44, 98], [44], [97, 44, 44, 98, 44], [97, 10, 98, 10]] 64 (by decide) hv
  have H2 := Lib.hid (And.intro hc2 (below_of_cur H1.out.2 hblk hg2))
  clear hg2 hc2 hv
  go_wp2_with fail
  refine (pickInt_lit _ w.heap.size blk 2 2 _ _ H2.out.1 rfl (by omega) (by omega)).mono ?_
  rintro e w3 ⟨k', v', hv', rfl, hg3, hc3⟩
  obtain ⟨x, hx, rfl⟩ := ints_in [44, 10] hv'
  have H3 := Lib.hid (below_of_cur H2.out.2 hblk hg3)
  clear hg3 hc3 hv'
  have hx2 : x = 44 ∨ x = 10 := by simpa using hx
  clear hx
  rcases hx2 with rfl | rfl
  · go_wp2_with fail
    go_ret2
    exact ⟨l, 44, hl, rfl, H3.out⟩
  · go_wp2_with fail
    go_ret2
    exact ⟨l, 10, hl, rfl, H3.out⟩
end Go.Proofs.YtbkojjngekpepaaDoor
