/-
  At every list of strings and every separator the program's Join answers as the model's, and changes no argument.
-/
import Derived.Test.YtbkojjngekpepaaJoin
namespace Go.Proofs.Ytbkojjngekpepaa
open Go.RowKit
set_option linter.unusedVariables false

theorem pt_eq (ss : List ByteArray) (sep : ByteArray) : Go.Lib.join (ss.map (·.data.toList)) sep.data.toList = pt ss sep ss.length := by
  unfold pt bs
  rw [List.take_length]

/-- impl.Join, of a row. -/
theorem implJoin_any (A : Option Addr) (c : Nat) (ss : List ByteArray) (sep : ByteArray) (w : World) (hc : ss.length ≤ c) (h : RowOf w w.heap.size A (strV ss)) (hn : ss.length + tot ss ≤ 1048576) (hs : sep.size ≤ 1048576) :
    Calls Try.prog 7 #[.slice A ss.length c, .string sep] w fun e w' => e = .returned (.string ⟨(pt ss sep ss.length).toArray⟩) ∧ Below w.heap.size w w' := by
  rcases Nat.eq_zero_or_pos ss.length with h0 | h0
  · have e : ss = [] := List.eq_nil_of_length_eq_zero h0
    subst e
    go_enter Try.func7, Try.ntmps7
    go_wp2_with (go_at_call 9; refine (Try.strings_Join_none A c sep _).mono ?_; rintro e w' ⟨rfl, rfl⟩)
    go_ret
    exact ⟨rfl, Below.refl _ _⟩
  · obtain ⟨b, o, rfl, hb, _⟩ := h 0 _ (strV_get ss 0 h0)
    have hsm := pt_small ss sep hn hs ss.length (Nat.le_refl _)
    have hcells : ∀ (j : Nat) x, ss[j]? = some x → w.cell? ⟨b, o + j, none⟩ = some (.string x) := by
      intro j x hx
      obtain ⟨b', o', e, _, hc'⟩ := h j (.string x) (by simp [strV, hx])
      injection e with e
      injection e with e1 e2
      subst e1; subst e2
      exact hc'
    have C := Lib.hid (Try.strings_Join b o c ss sep w hcells hb (by omega) hc (by rw [pt_eq]; omega))
    rw [pt_eq] at C
    clear hcells h hsm
    go_enter Try.func7, Try.ntmps7
    go_wp2_with fail
    refine C.out.mono ?_
    rintro e w' ⟨rfl, hbel⟩
    go_wp2_with fail
    go_ret
    exact ⟨rfl, hbel⟩

set_option maxHeartbeats 400000 in
theorem fnExactJoin_long (A : Option Addr) (n c : Nat) (sep : ByteArray) (w : World) (hs : 1048576 < sep.size) (hm : sep.size ≤ maxLen) :
    Calls Try.prog 3 #[.slice A n c, .string sep] w fun e w' => e = .returned (.bool true) ∧ Below w.heap.size w w' := by
  unfold maxLen at hm
  go_enter Try.func3, Try.ntmps3
  go_wp2_with fail
  go_ret
  exact ⟨rfl, Below.refl _ _⟩

set_option maxHeartbeats 400000 in
set_option maxRecDepth 100000 in
theorem fnExactJoin_short (A : Option Addr) (c : Nat) (ss : List ByteArray) (sep : ByteArray) (w : World) (hs : sep.size ≤ 1048576) (hc : ss.length ≤ c) (hn : ss.length ≤ 9223372036854775807)
    (hz : ∀ k (hk : k < ss.length), (ss[k]).size ≤ 9223372036854775807) (h : RowOf w w.heap.size A (strV ss)) :
    Calls Try.prog 3 #[.slice A ss.length c, .string sep] w fun e w' => e = .returned (.bool true) ∧ Below w.heap.size w w' := by
  have C0 := Lib.hid (szS_any A c ss 1048576 w.heap.size w h (by omega) hn hz)
  have HH := Lib.hid h
  clear h hz
  go_enter Try.func3, Try.ntmps3
  go_wp2_with fail
  refine C0.out.mono ?_
  rintro e w0 ⟨r, rfl, hr, rfl⟩
  by_cases hr0 : r < 0
  · go_wp2_with fail
    go_ret
    exact ⟨rfl, Below.refl _ _⟩
  · have hsum : ss.length + tot ss ≤ 1048576 := by have := hr.1 (by omega); omega
    have hrle := hr.2
    clear hr
    have hn1 : ss.length ≤ 1048576 := by omega
    go_wp2_with fail
    refine (toS_any A c ss _ _ (Nat.le_refl _) HH.out hn1).mono ?_
    rintro e w1 ⟨g1, c1, rfl, hown1, hb1⟩
    have hr1 := Lib.hid (RowOf.own hown1)
    have HB1 := Lib.hid hb1
    clear hown1 hb1
    go_wp2_with fail
    refine (specJoin_any _ _ ss sep _ _ (Nat.le_refl _) hr1.out hsum hs).mono ?_
    rintro e w2 ⟨rfl, hb2⟩
    have HB2 := Lib.hid (HB1.out.trans (hb2.mono HB1.out.size))
    clear hb2 HB1
    go_wp2_with fail
    refine (toS_any A c ss _ _ (Nat.le_refl _) ((HH.out.below HB2.out).more HB2.out.size) hn1).mono ?_
    rintro e w3 ⟨g3, c3, rfl, hown3, hb3⟩
    have hcap : ss.length ≤ c3 := by
      rcases hown3.2 with ⟨e, _⟩ | ⟨g', cap', cur', e, _, _, hcc, _⟩
      · cases e
      · injection e with e1 e2 e3
        omega
    have HO3 := Lib.hid hown3
    have HB3 := Lib.hid (HB2.out.trans (hb3.mono HB2.out.size))
    clear hown3 hb3 HB2
    go_wp2_with fail
    refine (implJoin_any _ c3 ss sep _ hcap (RowOf.own HO3.out) hsum hs).mono ?_
    rintro e w4 ⟨rfl, hb4⟩
    have HB4 := Lib.hid (HB3.out.trans (hb4.mono HB3.out.size))
    have HR4 := Lib.hid ((RowOf.own HO3.out).below hb4)
    have hsz4 := hb4.size
    clear hb4 HB3 HO3
    go_wp2_with fail
    refine (toS_any A c ss _ _ (Nat.le_refl _) ((HH.out.below HB4.out).more HB4.out.size) hn1).mono ?_
    rintro e w5 ⟨g5, c5, rfl, hown5, hb5⟩
    have HB5 := Lib.hid (HB4.out.trans (hb5.mono HB4.out.size))
    have HR5 := Lib.hid (RowOf.own hown5)
    have HR6 := Lib.hid (((HR4.out.more hsz4).below hb5).more hb5.size)
    clear hown5 hb5 HB4 HR4 hsz4
    go_wp2_with fail
    refine (eqS_any _ _ c3 c5 ss ss _ _ HR6.out HR5.out (by omega) (by omega)).mono ?_
    rintro e w6 ⟨rfl, n, rfl⟩
    have hd : decide (ss = ss) = true := by simp
    go_wp2_with fail
    go_ret
    exact ⟨rfl, below_drewN HB5.out n⟩

theorem fnExactJoin_walk (A : Option Addr) (n c : Nat) (zs : List ByteArray) (sep : ByteArray) (w : World) (h : IsStrs w A n c zs) (hm : sep.size ≤ maxLen) :
    Calls Try.prog 3 #[.slice A n c, .string sep] w fun e w' => e = .returned (.bool true) ∧ Below w.heap.size w w' := by
  by_cases hs : 1048576 < sep.size
  · exact fnExactJoin_long A n c sep w hs hm
  · obtain ⟨ss, rfl, hc, hn, hz, hr⟩ := h.row
    exact fnExactJoin_short A c ss sep w (by omega) hc hn hz hr
end Go.Proofs.Ytbkojjngekpepaa
