/-
  The laws FnExactIndexOf and FnExactAllDistinct.
-/
import Derived.Test.YtpjkjnjodcohaaaDistinct
namespace Go.Proofs.Ytpjkjnjodcohaaa
open Go.RowKit
set_option linter.unusedVariables false

set_option maxHeartbeats 800000 in
set_option maxRecDepth 100000 in
theorem fnExactIndexOf_walk (A : Option Addr) (n c : Nat) (zs : List ByteArray) (s : ByteArray) (w : World) (hz : IsStrs w A n c zs) (hm : s.size ≤ maxLen) :
    Calls Try.prog 7 #[.slice A n c, .string s] w fun e w' => e = .returned (.bool true) ∧ Below w.heap.size w w' := by
  unfold maxLen at hm
  by_cases hs : (1048576 : Int) < (s.size : Int)
  · clear hz
    go_enter Try.func7, Try.ntmps7
    go_wp2_with fail
    go_ret
    exact ⟨rfl, Below.refl _ _⟩
  · obtain ⟨ss, rfl, hc, hn, hsz, hr⟩ := hz.row
    have C0 := Lib.hid (szS_any A c ss 1048576 w.heap.size w hr (by omega) hn hsz)
    have HH := Lib.hid hr
    clear hr hsz hz
    go_enter Try.func7, Try.ntmps7
    go_wp2_with fail
    refine C0.out.mono ?_
    rintro e w0 ⟨r, rfl, hr, rfl⟩
    by_cases hr0 : r < 0
    · go_wp2_with fail
      go_ret
      exact ⟨rfl, Below.refl _ _⟩
    · have hsum : ss.length + tot ss ≤ 1048576 := by have := hr.1 (by omega); omega
      have hrle := hr.2
      clear hr
      have hn1 : ss.length ≤ 1048576 := by omega
      go_wp2_with fail
      refine (toS_any A c ss _ _ (Nat.le_refl _) HH.out hn1).mono ?_
      rintro e w1 ⟨g1, c1, rfl, hown1, hb1⟩
      have hr1 := Lib.hid (RowOf.own hown1)
      have HB1 := Lib.hid hb1
      clear hown1 hb1
      go_wp2_with fail
      refine (specIndex_any _ _ ss s _ _ hr1.out (by omega)).mono ?_
      rintro e w2 ⟨rfl, rfl⟩
      go_wp2_with fail
      refine (toS_any A c ss _ _ (Nat.le_refl _) ((HH.out.below HB1.out).more HB1.out.size) hn1).mono ?_
      rintro e w3 ⟨g3, c3, rfl, hown3, hb3⟩
      have HR3 := Lib.hid (RowOf.own hown3)
      have HB3 := Lib.hid (HB1.out.trans (hb3.mono HB1.out.size))
      clear hown3 hb3 HB1
      go_wp2_with fail
      refine (implIndex_any _ _ ss s _ _ HR3.out (by omega)).mono ?_
      rintro e w4 ⟨rfl, rfl⟩
      generalize Lib.idxOfS ss s = ix
      have hxx : (ix != ix) = false := by simp
      go_wp2_with fail
      refine (toS_any A c ss _ _ (Nat.le_refl _) ((HH.out.below HB3.out).more HB3.out.size) hn1).mono ?_
      rintro e w5 ⟨g5, c5, rfl, hown5, hb5⟩
      have HB5 := Lib.hid (HB3.out.trans (hb5.mono HB3.out.size))
      have HR5 := Lib.hid (RowOf.own hown5)
      have HR6 := Lib.hid ((HR3.out.below hb5).more hb5.size)
      clear hown5 hb5 HB3 HR3
      go_wp2_with fail
      refine (eqS_any _ _ c3 c5 ss ss _ _ HR6.out HR5.out (by omega) (by omega)).mono ?_
      rintro e w6 ⟨rfl, n, rfl⟩
      have hd : decide (ss = ss) = true := by simp
      go_wp2_with fail
      go_ret
      exact ⟨rfl, below_drewN HB5.out n⟩

set_option maxHeartbeats 800000 in
set_option maxRecDepth 100000 in
theorem fnExactAllDistinct_walk (A : Option Addr) (n c : Nat) (zs : List ByteArray) (w : World) (hz : IsStrs w A n c zs) :
    Calls Try.prog 8 #[.slice A n c] w fun e w' => e = .returned (.bool true) ∧ Below w.heap.size w w' := by
  obtain ⟨ss, rfl, hc, hn, hsz, hr⟩ := hz.row
  have C0 := Lib.hid (szS_any A c ss 1048576 w.heap.size w hr (by omega) hn hsz)
  have HH := Lib.hid hr
  clear hr hsz hz
  have CS := Lib.hid (fun A c B w h1 h2 h3 => specDistinct_any A c ss B w h1 h2 h3)
  have CI := Lib.hid (fun A c B w h1 h2 => implDistinct_any A c ss B w h1 h2)
  generalize decide ((ss.map nb).Nodup) = b at CS CI
  have hbb : (b != b) = false := by cases b <;> rfl
  go_enter Try.func8, Try.ntmps8
  go_wp2_with fail
  refine C0.out.mono ?_
  rintro e w0 ⟨r, rfl, hr, rfl⟩
  by_cases hr0 : r < 0
  · go_wp2_with fail
    go_ret
    exact ⟨rfl, Below.refl _ _⟩
  · have hsum : ss.length + tot ss ≤ 1048576 := by have := hr.1 (by omega); omega
    have hrle := hr.2
    clear hr
    have hn1 : ss.length ≤ 1048576 := by omega
    go_wp2_with fail
    refine (toS_any A c ss _ _ (Nat.le_refl _) HH.out hn1).mono ?_
    rintro e w1 ⟨g1, c1, rfl, hown1, hb1⟩
    have hcap1 := own_cap hown1
    have hr1 := Lib.hid (RowOf.own hown1)
    have HB1 := Lib.hid hb1
    clear hown1 hb1
    go_wp2_with fail
    refine (CS.out _ _ _ _ hr1.out hcap1 hn1).mono ?_
    rintro e w2 ⟨rfl, hb2⟩
    have HB2 := Lib.hid (HB1.out.trans (hb2.mono HB1.out.size))
    clear hb2 hr1 HB1
    go_wp2_with fail
    refine (toS_any A c ss _ _ (Nat.le_refl _) ((HH.out.below HB2.out).more HB2.out.size) hn1).mono ?_
    rintro e w3 ⟨g3, c3, rfl, hown3, hb3⟩
    have HR3 := Lib.hid (RowOf.own hown3)
    have HB3 := Lib.hid (HB2.out.trans (hb3.mono HB2.out.size))
    clear hown3 hb3 HB2
    go_wp2_with fail
    refine (CI.out _ _ _ _ HR3.out hn1).mono ?_
    rintro e w4 ⟨rfl, hb4⟩
    have HR4 := Lib.hid ((HR3.out.below hb4).more hb4.size)
    have HB4 := Lib.hid (HB3.out.trans (hb4.mono HB3.out.size))
    clear hb4 HB3 HR3
    go_wp2_with fail
    refine (toS_any A c ss _ _ (Nat.le_refl _) ((HH.out.below HB4.out).more HB4.out.size) hn1).mono ?_
    rintro e w5 ⟨g5, c5, rfl, hown5, hb5⟩
    have HB5 := Lib.hid (HB4.out.trans (hb5.mono HB4.out.size))
    have HR5 := Lib.hid (RowOf.own hown5)
    have HR6 := Lib.hid ((HR4.out.below hb5).more hb5.size)
    clear hown5 hb5 HB4 HR4
    go_wp2_with fail
    refine (eqS_any _ _ c3 c5 ss ss _ _ HR6.out HR5.out (by omega) (by omega)).mono ?_
    rintro e w6 ⟨rfl, n, rfl⟩
    have hd : decide (ss = ss) = true := by simp
    go_wp2_with fail
    go_ret
    exact ⟨rfl, below_drewN HB5.out n⟩
end Go.Proofs.Ytpjkjnjodcohaaa
