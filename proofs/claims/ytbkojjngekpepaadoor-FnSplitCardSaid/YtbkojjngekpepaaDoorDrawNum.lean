/-
  The ints and the texts that the laws of chapter 1 draw.
-/
import Derived.Test.YtbkojjngekpepaaDoorDrawNew
import Derived.Test.YtbkojjngekpepaaDoorDrawPick
import Derived.Test.YtbkojjngekpepaaDoorDrawPickInt
import Derived.Test.YtbkojjngekpepaaDoorDrawOnce
import Derived.Test.YtbkojjngekpepaaDoorSpecFmt
namespace Go.Proofs.YtbkojjngekpepaaDoor
open Go.RowKit
set_option linter.unusedVariables false

theorem ints_mem (L : List Int) (lo hi : Int) (h : ∀ x ∈ L, lo ≤ x ∧ x ≤ hi) {k : Nat} {v : Value} (hv : (L.map (Value.int .i64)).toArray[k]? = some v) : ∃ x, lo ≤ x ∧ x ≤ hi ∧ v = .int .i64 x := by
  rw [List.getElem?_toArray, List.getElem?_map] at hv
  obtain ⟨x, hx, rfl⟩ := Option.map_eq_some_iff.1 hv
  have := h x (List.mem_of_getElem? hx)
  exact ⟨x, this.1, this.2, rfl⟩
theorem strs_mem (L : List (List UInt8)) (m : Nat) (h : ∀ x ∈ L, x.length ≤ m) {k : Nat} {v : Value} (hv : (L.map fun l => Value.string ⟨l.toArray⟩).toArray[k]? = some v) : ∃ l ∈ L, l.length ≤ m ∧ v = .string ⟨l.toArray⟩ := by
  rw [List.getElem?_toArray, List.getElem?_map] at hv
  obtain ⟨x, hx, rfl⟩ := Option.map_eq_some_iff.1 hv
  exact ⟨x, List.mem_of_getElem? hx, h x (List.mem_of_getElem? hx), rfl⟩

set_option maxHeartbeats 400000 in
set_option maxRecDepth 100000 in
theorem whole_any (w : World) (B blk : Nat) (h : Cur w B blk) :
    Calls Tryd.prog 25 #[.pointer (some ⟨blk, 0, none⟩)] w (Drawn (-9223372036854775808) 9223372036854775807 B blk w) := by
  have HH := Lib.hid h
  clear h
  go_enter Tryd.func25, Tryd.ntmps25
  go_wp2_with fail
  refine (below_pos _ B blk _ HH.out (by omega) (by omega)).mono ?_
  rintro e w1 ⟨x, hx0, hx1, rfl, hg1, hc1⟩
  have HG := Lib.hid (And.intro hg1 hc1)
  clear hg1 hc1
  by_cases e0 : x = 0
  · subst e0
    go_wp2_with fail
    refine (pickInt_lit _ B blk 12 12 _ _ HG.out.2 rfl (by omega) (by omega)).mono ?_
    rintro e w2 ⟨k, v, hv, rfl, hg2, hc2⟩
    obtain ⟨x, hx2, hx3, rfl⟩ := ints_mem [0, 1, -1, 9, 10, 999999, 1000000, 999999999999, 1000000000000, -999999999999, 9223372036854775807, -9223372036854775808] (-9223372036854775808) 9223372036854775807 (by decide) hv
    have H2 := Lib.hid (And.intro (grown_trans HG.out.1 hg2) hc2)
    clear hg2 hc2 hv
    go_wp2_with fail
    go_ret
    exact ⟨_, hx2, hx3, rfl, H2.out.1, H2.out.2⟩
  · have b0 : (x == 0) = false := by simpa using e0
    by_cases e1 : x = 1
    · subst e1
      go_wp2_with fail
      refine (below_pos _ B blk _ HG.out.2 (by omega) (by omega)).mono ?_
      rintro e w2 ⟨y, hy0, hy1, rfl, hg2, hc2⟩
      have H2 := Lib.hid (And.intro (grown_trans HG.out.1 hg2) hc2)
      clear hg2 hc2
      go_wp2_with fail
      go_ret
      exact ⟨_, by omega, by omega, rfl, H2.out.1, H2.out.2⟩
    · have b1 : (x == 1) = false := by simpa using e1
      clear e0 e1
      go_wp2_with fail
      refine (below_pos _ B blk _ HG.out.2 (by omega) (by omega)).mono ?_
      rintro e w2 ⟨y, hy0, hy1, rfl, hg2, hc2⟩
      have H2 := Lib.hid (And.intro (grown_trans HG.out.1 hg2) hc2)
      clear hg2 hc2
      go_wp2_with fail
      go_ret
      exact ⟨_, by omega, by omega, rfl, H2.out.1, H2.out.2⟩

theorem below_of_cur {w w1 w2 : World} {blk : Nat} (h1 : Below w.heap.size w w1) (hblk : w.heap.size ≤ blk) (hg : w1.grownBy w2 (some blk)) : Below w.heap.size w w2 :=
  h1.grown hg h1.size fun k hk => by injection hk with hk; omega

set_option maxHeartbeats 400000 in
set_option maxRecDepth 100000 in
/-- spec.DrawFormatInt: an int. -/
theorem drawFmt_any (A : Option Addr) (n c : Nat) (w : World) (h : Code w w.heap.size A n) (hn : n ≤ 1048576) :
    Calls Tryd.prog 10 #[.slice A n c] w fun e w' => ∃ x : Int, -9223372036854775808 ≤ x ∧ x ≤ 9223372036854775807 ∧ e = .returned (.int .i64 x) ∧ Below w.heap.size w w' := by
  have H := Lib.hid h
  clear h
  go_enter Tryd.func10, Tryd.ntmps10
  go_wp2_with fail
  refine (new_any A n c _ _ (Nat.le_refl _) H.out hn).mono ?_
  rintro e w1 ⟨blk, rfl, hblk, hcur, hb1⟩
  have H1 := Lib.hid (And.intro hcur hb1)
  clear hcur hb1
  go_wp2_with fail
  refine (whole_any _ _ blk H1.out.1).mono ?_
  rintro e w2 ⟨x, hx0, hx1, rfl, hg2, hc2⟩
  have H2 := Lib.hid (below_of_cur H1.out.2 hblk hg2)
  clear hg2 hc2
  go_wp2_with fail
  go_ret
  exact ⟨_, hx0, hx1, rfl, H2.out⟩

set_option maxHeartbeats 400000 in
set_option maxRecDepth 100000 in
/-- spec.DrawParseNumber: a short text. -/
theorem drawParse_any (A : Option Addr) (n c : Nat) (w : World) (h : Code w w.heap.size A n) (hn : n ≤ 1048576) :
    Calls Tryd.prog 14 #[.slice A n c] w fun e w' => ∃ l : List UInt8, l.length ≤ 64 ∧ e = .returned (.string ⟨l.toArray⟩) ∧ Below w.heap.size w w' := by
  have H := Lib.hid h
  clear h
  go_enter Tryd.func14, Tryd.ntmps14
  go_wp2_with fail
  refine (new_any A n c _ _ (Nat.le_refl _) H.out hn).mono ?_
  rintro e w1 ⟨blk, rfl, hblk, hcur, hb1⟩
  have H1 := Lib.hid (And.intro hcur hb1)
  clear hcur hb1
  go_wp2_with fail
  refine (once_any _ _ blk _ H1.out.1 (by omega) (by omega)).mono ?_
  rintro e w2 ⟨b, rfl, hg2, hc2⟩
  have H2 := Lib.hid (And.intro hc2 (below_of_cur H1.out.2 hblk hg2))
  clear hg2 hc2
  cases b
  · go_wp2_with fail
    refine (pick_lit _ w.heap.size blk 12 12 _ _ H2.out.1 rfl (by omega) (by omega)).mono ?_
    rintro e w3 ⟨k, v, hv, rfl, hg3, hc3⟩
    obtain ⟨l, _, hl, rfl⟩ := strs_mem [[], [48, 48], [48, 49], [45, 49], [43, 49], [120], [57, 57, 57, 57, 57, 57], [49, 48, 48, 48, 48, 48, 48], [45, 48], [45], [32, 49], [49, 32]] 64 (by decide) hv
    have H3 := Lib.hid (below_of_cur H2.out.2 hblk hg3)
    clear hg3 hc3 hv
    go_wp2_with fail
    go_ret
    exact ⟨_, hl, rfl, H3.out⟩
  · go_wp2_with fail
    refine (whole_any _ _ blk H2.out.1).mono ?_
    rintro e w3 ⟨x, hx0, hx1, rfl, hg3, hc3⟩
    have H3 := Lib.hid (below_of_cur H2.out.2 hblk hg3)
    clear hg3 hc3
    go_wp2_with fail
    refine (specFmt_any x _ hx0 hx1).mono ?_
    rintro e w4 ⟨rfl, hb4⟩
    have H4 := Lib.hid (H3.out.trans (hb4.mono H3.out.size))
    clear hb4
    have hlen := Go.Lib.itoa_length_le x hx0 hx1
    go_wp2_with fail
    go_ret
    exact ⟨_, by omega, rfl, H4.out⟩
end Go.Proofs.YtbkojjngekpepaaDoor
