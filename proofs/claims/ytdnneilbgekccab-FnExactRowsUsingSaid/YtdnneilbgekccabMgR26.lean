/-
  Texts that the proof rests on, put together: UseLaw.
-/
import Derived.Test.YtdnneilbgekccabMgR25
import Derived.Test.YtdnneilbgekccabMgR15
import Derived.Test.YtdnneilbgekccabMgR14
import Derived.Test.YtdnneilbgekccabMgR6
import Derived.Test.YtdnneilbgekccabMgR9
import Derived.Deep.RegionLaw
import Derived.Deep.RegionHeld3
/-
  The law FnExactRowsUsing. (Written by gen8.py.)
-/

namespace Go.Proofs.Ytdnneilbgekccab
open Go.RowKit Go.Lib Go.Sort
set_option linter.unusedVariables false
set_option linter.unusedSimpArgs false

theorem eqI_any (l : List Int) (A A' : Option Addr) (n n' c c' : Nat) (w : World) (h : Rd w w.heap.size (.lst (l.map .int)) [.slice A n c]) (h' : Rd w w.heap.size (.lst (l.map .int)) [.slice A' n' c']) (hl : l.length ≤ 2097152) :
    Calls Try.prog 22 #[.slice A n c, .slice A' n' c'] w fun e w' => e = .returned (.bool true) ∧ Below w.heap.size w w' := by
  obtain ⟨hn, -, -⟩ := h.lst_len
  obtain ⟨hn', -, -⟩ := h'.lst_len
  rw [List.length_map] at hn hn'
  subst hn hn'
  refine (eqIntS_any A A' c c' l l w.heap.size w h.ints h'.ints (by omega) (by omega)).mono ?_
  rintro e w' ⟨b, rfl, hb, h2⟩
  obtain rfl : b = true := hb.2 rfl
  exact ⟨rfl, h2⟩
theorem toOrg_any (a b : Int) (w : World) : Calls Try.prog 20 #[.agg #[.int .i64 a, .int .i64 b]] w fun e w' => e = .returned (.agg #[.int .i64 a, .int .i64 b]) ∧ Below w.heap.size w w' := by
  refine (toOrigin_of a b [.int .i64 a, .int .i64 b] w (by simp only [Rd, RdL]; exact ⟨_, _, rfl, rfl, _, _, rfl, rfl, rfl⟩) (by simp [Dt.wt, wts])).mono ?_
  rintro e w' ⟨cs, fp, rfl, how, -, hb⟩
  simp only [Ow, OwL] at how
  obtain ⟨_, _, _, _, rfl, rfl, ⟨rfl, rfl⟩, _, _, _, _, rfl, rfl, ⟨rfl, rfl⟩, rfl, rfl⟩ := how
  exact ⟨rfl, hb⟩
set_option maxHeartbeats 12800000 in
set_option maxRecDepth 100000 in
theorem fnExactRowsUsing_walk (w : World) {d0 : Dt} (hd0 : IsVal d0) (hok0 : d0.Ok) (cs0 : List Value) (hr0 : Rd w w.heap.size d0 cs0) (p0 p1 : Int) :
    Calls Try.prog 5 #[.agg cs0.toArray, .agg #[.int .i64 p0, .int .i64 p1]] w fun e w' => e = .returned (.bool true) ∧ Below w.heap.size w w' := by
  have HD0 := Lib.hid (And.intro hd0 (And.intro hok0 hr0))
  obtain ⟨a0y0, a0y1, a0y2, a0y3, a0y4, a0n4, a0c4, a0y5, a0n5, a0c5, a0y6, a0n6, a0c6, rfl⟩ := hd0.form hr0
  clear hd0 hok0 hr0
  have h0 := ((MSt.start w).new 34 7 #[.int .i64 a0y0, .int .i64 a0y1, .int .i64 a0y2, .string a0y3, .slice a0y4 a0n4 a0c4, .slice a0y5 a0n5 a0c5, .slice a0y6 a0n6 a0c6] rfl).new 46 2 #[.int .i64 p0, .int .i64 p1] rfl
  simp only [World.size_alloc] at h0
  have HM0 := Lib.hid h0
  clear h0
  go_enter Try.func5, Try.ntmps5
  go_wp2_with fail
  refine (szVal_any HD0.out.1 _ 1048576 _ ((HD0.out.2.2.below (MSt.bel (HM0.out))).more (MSt.size (HM0.out))) HD0.out.2.1 (by omega) (by omega)).mono ?_
  rintro e w1 ⟨r0, rfl, hr0, hb⟩
  have HM1 := Lib.hid (HM0.out.later hb)
  clear HM0
  clear hb
  have HR0 := Lib.hid hr0
  clear hr0
  by_cases hng : r0 < 0
  · go_wp2_with fail
    go_ret
    exact ⟨rfl, HM1.out.bel⟩
  have hwt : d0.wt ≤ 1048576 := by have h0 := HR0.out.1 (by omega); have h1 := HR0.out.2; omega
  have HW0 := Lib.hid hwt
  obtain ⟨U, hU⟩ : ∃ U, U = usesTo (p0, p1) d0.rw d0.rw.length := ⟨_, rfl⟩
  have HSL := Lib.hid (show U.length ≤ 1048576 by have h1 := usesTo_len (p0, p1) d0.rw d0.rw.length; have h3 := wt_parts8 HD0.out.1; rw [hU]; omega)
  have HU := Lib.hid hU
  clear hU hwt
  have hbx := (MSt.nth (L1 := [_]) HM1.out).box
  obtain ⟨fA00, fA01, fA02, fA03, fA04, fA05, fA06, fA0lt⟩ := box7 hbx
  clear hbx
  obtain ⟨fO10, fO11, fO1lt⟩ := MSt.box2 HM1.out (e := 46) (g := w.heap.size + 1) (a := .int .i64 p0) (b := .int .i64 p1) (by simp)
  go_wp2_with fail
  go_region_held3 (fun w' => w'.cell? ⟨w.heap.size, 0, none⟩ = some (.int .i64 a0y0) ∧ w'.cell? ⟨w.heap.size, 1, none⟩ = some (.int .i64 a0y1) ∧ w'.cell? ⟨w.heap.size, 2, none⟩ = some (.int .i64 a0y2) ∧ w'.cell? ⟨w.heap.size, 3, none⟩ = some (.string a0y3) ∧ w'.cell? ⟨w.heap.size, 4, none⟩ = some (.slice a0y4 a0n4 a0c4) ∧ w'.cell? ⟨w.heap.size, 5, none⟩ = some (.slice a0y5 a0n5 a0c5) ∧ w'.cell? ⟨w.heap.size, 6, none⟩ = some (.slice a0y6 a0n6 a0c6) ∧ w'.cell? ⟨w.heap.size + 1, 0, none⟩ = some (.int .i64 p0) ∧ w'.cell? ⟨w.heap.size + 1, 1, none⟩ = some (.int .i64 p1)) (exact ⟨fA00, fA01, fA02, fA03, fA04, fA05, fA06, fO10, fO11⟩)
    (first
      | (
        go_at_call_of 15 (Value.agg #[.int .i64 a0y0, .int .i64 a0y1, .int .i64 a0y2, .string a0y3, .slice a0y4 a0n4 a0c4, .slice a0y5 a0n5 a0c5, .slice a0y6 a0n6 a0c6])
        refine (toValue_any HD0.out.1 _ _ ((HD0.out.2.2.below (MSt.bel (HM1.out.drew))).more (MSt.size (HM1.out.drew))) HW0.out).mono ?_
        rintro e w2 ⟨csTa, fpTa, rfl, how, hnf, hb⟩
        obtain ⟨tay0, tay1, tay2, tay3, tay4, tan4, tac4, tay5, tan5, tac5, tay6, tan6, tac6, rfl⟩ := IsVal.form (HD0.out.1) how.read
        have HM2 := Lib.hid (HM1.out.drew.add hb (owA_at how hnf))
        clear hb how hnf HM1
        have hbx : w2.ownsRow 0 34 7 (.slice (some ⟨w.heap.size, 0, none⟩) 1 1) 1 [.int .i64 a0y0, .int .i64 a0y1, .int .i64 a0y2, .string a0y3, .slice a0y4 a0n4 a0c4, .slice a0y5 a0n5 a0c5, .slice a0y6 a0n6 a0c6] := HM2.out.has (a := boxA 34 7 (w.heap.size) [.int .i64 a0y0, .int .i64 a0y1, .int .i64 a0y2, .string a0y3, .slice a0y4 a0n4 a0c4, .slice a0y5 a0n5 a0c5, .slice a0y6 a0n6 a0c6]) (by simp)
        obtain ⟨fA00, fA01, fA02, fA03, fA04, fA05, fA06, fA0lt⟩ := box7 hbx
        clear hbx
        obtain ⟨fO10, fO11, fO1lt⟩ := MSt.box2 HM2.out (e := 46) (g := w.heap.size + 1) (a := .int .i64 p0) (b := .int .i64 p1) (by simp))
      | (
        go_at_call 20
        refine (toOrg_any p0 p1 _).mono ?_
        rintro e w3 ⟨rfl, hb⟩
        have HM3 := Lib.hid (HM2.out.later hb)
        clear hb HM2
        have hbx : w3.ownsRow 0 34 7 (.slice (some ⟨w.heap.size, 0, none⟩) 1 1) 1 [.int .i64 a0y0, .int .i64 a0y1, .int .i64 a0y2, .string a0y3, .slice a0y4 a0n4 a0c4, .slice a0y5 a0n5 a0c5, .slice a0y6 a0n6 a0c6] := HM3.out.has (a := boxA 34 7 (w.heap.size) [.int .i64 a0y0, .int .i64 a0y1, .int .i64 a0y2, .string a0y3, .slice a0y4 a0n4 a0c4, .slice a0y5 a0n5 a0c5, .slice a0y6 a0n6 a0c6]) (by simp)
        obtain ⟨fA00, fA01, fA02, fA03, fA04, fA05, fA06, fA0lt⟩ := box7 hbx
        clear hbx
        obtain ⟨fO10, fO11, fO1lt⟩ := MSt.box2 HM3.out (e := 46) (g := w.heap.size + 1) (a := .int .i64 p0) (b := .int .i64 p1) (by simp))
      | (
        go_at_call 19
        refine (specUses_any HD0.out.1 HW0.out p0 p1 U HU.out _ _ (MSt.has (HM3.out) (a := owA (d0) [.int .i64 tay0, .int .i64 tay1, .int .i64 tay2, .string tay3, .slice tay4 tan4 tac4, .slice tay5 tan5 tac5, .slice tay6 tan6 tac6] fpTa) (by simp)).1.read).mono ?_
        rintro e w4 ⟨vw0, rfl, h2⟩
        obtain ⟨Aw0, cw0, rfl⟩ := MSt.intVl h2
        have HM4 := Lib.hid (MSt.trans HM3.out (MSt.intOw h2))
        clear h2 HM3
        have hbx : w4.ownsRow 0 34 7 (.slice (some ⟨w.heap.size, 0, none⟩) 1 1) 1 [.int .i64 a0y0, .int .i64 a0y1, .int .i64 a0y2, .string a0y3, .slice a0y4 a0n4 a0c4, .slice a0y5 a0n5 a0c5, .slice a0y6 a0n6 a0c6] := HM4.out.has (a := boxA 34 7 (w.heap.size) [.int .i64 a0y0, .int .i64 a0y1, .int .i64 a0y2, .string a0y3, .slice a0y4 a0n4 a0c4, .slice a0y5 a0n5 a0c5, .slice a0y6 a0n6 a0c6]) (by simp)
        obtain ⟨fA00, fA01, fA02, fA03, fA04, fA05, fA06, fA0lt⟩ := box7 hbx
        clear hbx
        obtain ⟨fO10, fO11, fO1lt⟩ := MSt.box2 HM4.out (e := 46) (g := w.heap.size + 1) (a := .int .i64 p0) (b := .int .i64 p1) (by simp))
      | fail)
  clear fA00 fA01 fA02 fA03 fA04 fA05 fA06 fA0lt fO10 fO11 fO1lt
  have hbx := (MSt.nth (L1 := [_, _, _]) HM4.out).box
  obtain ⟨fA00, fA01, fA02, fA03, fA04, fA05, fA06, fA0lt⟩ := box7 hbx
  clear hbx
  go_wp2_with fail
  clear fA00 fA01 fA02 fA03 fA04 fA05 fA06 fA0lt
  refine (toValue_any HD0.out.1 _ _ ((HD0.out.2.2.below (MSt.bel (HM4.out))).more (MSt.size (HM4.out))) HW0.out).mono ?_
  rintro e w5 ⟨csX0, fpX0, rfl, how, hnf, hb⟩
  obtain ⟨x0y0, x0y1, x0y2, x0y3, x0y4, x0n4, x0c4, x0y5, x0n5, x0c5, x0y6, x0n6, x0c6, rfl⟩ := IsVal.form (HD0.out.1) how.read
  have HM5 := Lib.hid (HM4.out.add hb (owA_at how hnf))
  clear HM4
  clear hb how hnf
  go_wp2_with fail
  have HM6 := Lib.hid (HM5.out.new 40 7 #[.int .i64 x0y0, .int .i64 x0y1, .int .i64 x0y2, .string x0y3, .slice x0y4 x0n4 x0c4, .slice x0y5 x0n5 x0c5, .slice x0y6 x0n6 x0c6] rfl)
  clear HM5
  have hbx := HM6.out.box
  obtain ⟨fC00, fC01, fC02, fC03, fC04, fC05, fC06, fC0lt⟩ := box7 hbx
  clear hbx
  obtain ⟨fO10, fO11, fO1lt⟩ := MSt.box2 HM6.out (e := 46) (g := w.heap.size + 1) (a := .int .i64 p0) (b := .int .i64 p1) (by simp)
  go_region_held3 (fun w' => w'.cell? ⟨w5.heap.size, 0, none⟩ = some (.int .i64 x0y0) ∧ w'.cell? ⟨w5.heap.size, 1, none⟩ = some (.int .i64 x0y1) ∧ w'.cell? ⟨w5.heap.size, 2, none⟩ = some (.int .i64 x0y2) ∧ w'.cell? ⟨w5.heap.size, 3, none⟩ = some (.string x0y3) ∧ w'.cell? ⟨w5.heap.size, 4, none⟩ = some (.slice x0y4 x0n4 x0c4) ∧ w'.cell? ⟨w5.heap.size, 5, none⟩ = some (.slice x0y5 x0n5 x0c5) ∧ w'.cell? ⟨w5.heap.size, 6, none⟩ = some (.slice x0y6 x0n6 x0c6) ∧ w'.cell? ⟨w.heap.size + 1, 0, none⟩ = some (.int .i64 p0) ∧ w'.cell? ⟨w.heap.size + 1, 1, none⟩ = some (.int .i64 p1)) (exact ⟨fC00, fC01, fC02, fC03, fC04, fC05, fC06, fO10, fO11⟩)
    (first
      | (
        go_at_call 20
        refine (toOrg_any p0 p1 _).mono ?_
        rintro e w7 ⟨rfl, hb⟩
        have HM7 := Lib.hid (HM6.out.drew.later hb)
        clear hb HM6
        have hbx : w7.ownsRow 0 40 7 (.slice (some ⟨w5.heap.size, 0, none⟩) 1 1) 1 [.int .i64 x0y0, .int .i64 x0y1, .int .i64 x0y2, .string x0y3, .slice x0y4 x0n4 x0c4, .slice x0y5 x0n5 x0c5, .slice x0y6 x0n6 x0c6] := HM7.out.has (a := boxA 40 7 (w5.heap.size) [.int .i64 x0y0, .int .i64 x0y1, .int .i64 x0y2, .string x0y3, .slice x0y4 x0n4 x0c4, .slice x0y5 x0n5 x0c5, .slice x0y6 x0n6 x0c6]) (by simp)
        obtain ⟨fC00, fC01, fC02, fC03, fC04, fC05, fC06, fC0lt⟩ := box7 hbx
        clear hbx
        obtain ⟨fO10, fO11, fO1lt⟩ := MSt.box2 HM7.out (e := 46) (g := w.heap.size + 1) (a := .int .i64 p0) (b := .int .i64 p1) (by simp))
      | (
        go_at_call 21
        refine (implUses_any HD0.out.1 HW0.out p0 p1 U HU.out _ _ (MSt.has (HM7.out) (a := owA (d0) [.int .i64 x0y0, .int .i64 x0y1, .int .i64 x0y2, .string x0y3, .slice x0y4 x0n4 x0c4, .slice x0y5 x0n5 x0c5, .slice x0y6 x0n6 x0c6] fpX0) (by simp)).1.read).mono ?_
        rintro e w8 ⟨vg0, rfl, h2⟩
        obtain ⟨Ag0, cg0, rfl⟩ := MSt.intVl h2
        have HM8 := Lib.hid (MSt.trans HM7.out (MSt.intOw h2))
        clear h2 HM7
        have hbx : w8.ownsRow 0 40 7 (.slice (some ⟨w5.heap.size, 0, none⟩) 1 1) 1 [.int .i64 x0y0, .int .i64 x0y1, .int .i64 x0y2, .string x0y3, .slice x0y4 x0n4 x0c4, .slice x0y5 x0n5 x0c5, .slice x0y6 x0n6 x0c6] := HM8.out.has (a := boxA 40 7 (w5.heap.size) [.int .i64 x0y0, .int .i64 x0y1, .int .i64 x0y2, .string x0y3, .slice x0y4 x0n4 x0c4, .slice x0y5 x0n5 x0c5, .slice x0y6 x0n6 x0c6]) (by simp)
        obtain ⟨fC00, fC01, fC02, fC03, fC04, fC05, fC06, fC0lt⟩ := box7 hbx
        clear hbx
        obtain ⟨fO10, fO11, fO1lt⟩ := MSt.box2 HM8.out (e := 46) (g := w.heap.size + 1) (a := .int .i64 p0) (b := .int .i64 p1) (by simp))
      | fail)
  clear fC00 fC01 fC02 fC03 fC04 fC05 fC06 fC0lt fO10 fO11 fO1lt
  go_wp2_with fail
  refine (eqI_any U _ _ _ _ _ _ _ HM8.out.objs.out.1.read (MSt.nth (L1 := [_, _, _]) HM8.out).objs.out.1.read (by have := HSL.out; omega)).mono ?_
  rintro e w9 ⟨rfl, hb⟩
  have HM9 := Lib.hid (HM8.out.later hb)
  clear HM8
  clear hb
  have hbx := (MSt.nth (L1 := [_]) HM9.out).box
  obtain ⟨fC00, fC01, fC02, fC03, fC04, fC05, fC06, fC0lt⟩ := box7 hbx
  clear hbx
  have hbx := (MSt.nth (L1 := [_, _, _, _, _, _]) HM9.out).box
  obtain ⟨fA00, fA01, fA02, fA03, fA04, fA05, fA06, fA0lt⟩ := box7 hbx
  clear hbx
  go_wp2_with fail
  go_region_held3 (fun w' => w'.cell? ⟨w5.heap.size, 0, none⟩ = some (.int .i64 x0y0) ∧ w'.cell? ⟨w5.heap.size, 1, none⟩ = some (.int .i64 x0y1) ∧ w'.cell? ⟨w5.heap.size, 2, none⟩ = some (.int .i64 x0y2) ∧ w'.cell? ⟨w5.heap.size, 3, none⟩ = some (.string x0y3) ∧ w'.cell? ⟨w5.heap.size, 4, none⟩ = some (.slice x0y4 x0n4 x0c4) ∧ w'.cell? ⟨w5.heap.size, 5, none⟩ = some (.slice x0y5 x0n5 x0c5) ∧ w'.cell? ⟨w5.heap.size, 6, none⟩ = some (.slice x0y6 x0n6 x0c6) ∧ w'.cell? ⟨w.heap.size, 0, none⟩ = some (.int .i64 a0y0) ∧ w'.cell? ⟨w.heap.size, 1, none⟩ = some (.int .i64 a0y1) ∧ w'.cell? ⟨w.heap.size, 2, none⟩ = some (.int .i64 a0y2) ∧ w'.cell? ⟨w.heap.size, 3, none⟩ = some (.string a0y3) ∧ w'.cell? ⟨w.heap.size, 4, none⟩ = some (.slice a0y4 a0n4 a0c4) ∧ w'.cell? ⟨w.heap.size, 5, none⟩ = some (.slice a0y5 a0n5 a0c5) ∧ w'.cell? ⟨w.heap.size, 6, none⟩ = some (.slice a0y6 a0n6 a0c6)) (exact ⟨fC00, fC01, fC02, fC03, fC04, fC05, fC06, fA00, fA01, fA02, fA03, fA04, fA05, fA06⟩)
    (first
      | (
        go_at_call_of 15 (Value.agg #[.int .i64 a0y0, .int .i64 a0y1, .int .i64 a0y2, .string a0y3, .slice a0y4 a0n4 a0c4, .slice a0y5 a0n5 a0c5, .slice a0y6 a0n6 a0c6])
        refine (toValue_any HD0.out.1 _ _ ((HD0.out.2.2.below (MSt.bel (HM9.out.drew))).more (MSt.size (HM9.out.drew))) HW0.out).mono ?_
        rintro e w10 ⟨csn0, fpn0, rfl, how, hnf, hb⟩
        obtain ⟨n0y0, n0y1, n0y2, n0y3, n0y4, n0n4, n0c4, n0y5, n0n5, n0c5, n0y6, n0n6, n0c6, rfl⟩ := IsVal.form (HD0.out.1) how.read
        have HM10 := Lib.hid (HM9.out.drew.add hb (owA_at how hnf))
        clear hb how hnf HM9
        have hbx : w10.ownsRow 0 40 7 (.slice (some ⟨w5.heap.size, 0, none⟩) 1 1) 1 [.int .i64 x0y0, .int .i64 x0y1, .int .i64 x0y2, .string x0y3, .slice x0y4 x0n4 x0c4, .slice x0y5 x0n5 x0c5, .slice x0y6 x0n6 x0c6] := HM10.out.has (a := boxA 40 7 (w5.heap.size) [.int .i64 x0y0, .int .i64 x0y1, .int .i64 x0y2, .string x0y3, .slice x0y4 x0n4 x0c4, .slice x0y5 x0n5 x0c5, .slice x0y6 x0n6 x0c6]) (by simp)
        obtain ⟨fC00, fC01, fC02, fC03, fC04, fC05, fC06, fC0lt⟩ := box7 hbx
        clear hbx
        have hbx : w10.ownsRow 0 34 7 (.slice (some ⟨w.heap.size, 0, none⟩) 1 1) 1 [.int .i64 a0y0, .int .i64 a0y1, .int .i64 a0y2, .string a0y3, .slice a0y4 a0n4 a0c4, .slice a0y5 a0n5 a0c5, .slice a0y6 a0n6 a0c6] := HM10.out.has (a := boxA 34 7 (w.heap.size) [.int .i64 a0y0, .int .i64 a0y1, .int .i64 a0y2, .string a0y3, .slice a0y4 a0n4 a0c4, .slice a0y5 a0n5 a0c5, .slice a0y6 a0n6 a0c6]) (by simp)
        obtain ⟨fA00, fA01, fA02, fA03, fA04, fA05, fA06, fA0lt⟩ := box7 hbx
        clear hbx)
      | (
        go_at_call 17
        refine (eqValue_any HD0.out.1 HD0.out.1 _ _ _ (MSt.has (HM10.out) (a := owA (d0) [.int .i64 x0y0, .int .i64 x0y1, .int .i64 x0y2, .string x0y3, .slice x0y4 x0n4 x0c4, .slice x0y5 x0n5 x0c5, .slice x0y6 x0n6 x0c6] fpX0) (by simp)).1.read (MSt.has (HM10.out) (a := owA (d0) [.int .i64 n0y0, .int .i64 n0y1, .int .i64 n0y2, .string n0y3, .slice n0y4 n0n4 n0c4, .slice n0y5 n0n5 n0c5, .slice n0y6 n0n6 n0c6] fpn0) (by simp)).1.read).mono ?_
        rintro e w11 ⟨b, rfl, hbi, hb⟩
        obtain rfl : b = true := hbi.2 rfl
        clear hbi
        have HM11 := Lib.hid (HM10.out.later hb)
        clear HM10
        clear hb
        have hbx : w11.ownsRow 0 40 7 (.slice (some ⟨w5.heap.size, 0, none⟩) 1 1) 1 [.int .i64 x0y0, .int .i64 x0y1, .int .i64 x0y2, .string x0y3, .slice x0y4 x0n4 x0c4, .slice x0y5 x0n5 x0c5, .slice x0y6 x0n6 x0c6] := HM11.out.has (a := boxA 40 7 (w5.heap.size) [.int .i64 x0y0, .int .i64 x0y1, .int .i64 x0y2, .string x0y3, .slice x0y4 x0n4 x0c4, .slice x0y5 x0n5 x0c5, .slice x0y6 x0n6 x0c6]) (by simp)
        obtain ⟨fC00, fC01, fC02, fC03, fC04, fC05, fC06, fC0lt⟩ := box7 hbx
        clear hbx
        have hbx : w11.ownsRow 0 34 7 (.slice (some ⟨w.heap.size, 0, none⟩) 1 1) 1 [.int .i64 a0y0, .int .i64 a0y1, .int .i64 a0y2, .string a0y3, .slice a0y4 a0n4 a0c4, .slice a0y5 a0n5 a0c5, .slice a0y6 a0n6 a0c6] := HM11.out.has (a := boxA 34 7 (w.heap.size) [.int .i64 a0y0, .int .i64 a0y1, .int .i64 a0y2, .string a0y3, .slice a0y4 a0n4 a0c4, .slice a0y5 a0n5 a0c5, .slice a0y6 a0n6 a0c6]) (by simp)
        obtain ⟨fA00, fA01, fA02, fA03, fA04, fA05, fA06, fA0lt⟩ := box7 hbx
        clear hbx)
      | fail)
  clear fC00 fC01 fC02 fC03 fC04 fC05 fC06 fC0lt fA00 fA01 fA02 fA03 fA04 fA05 fA06 fA0lt
  have HM12 := Lib.hid (MSt.drop HM11.out)
  clear HM11
  obtain ⟨K0, hK0⟩ : ∃ K, K = 1 + d0.mks := ⟨_, rfl⟩
  have hKb0 : K0 ≤ 16777217 := by have := mks_bd HD0.out.1 (Nat.le_trans HW0.out (by decide)); omega
  have HK0 := Lib.hid hK0
  clear hK0
  have hbx := (MSt.nth (L1 := [_]) HM12.out).box
  obtain ⟨fC00, fC01, fC02, fC03, fC04, fC05, fC06, fC0lt⟩ := box7 hbx
  clear hbx
  go_wp2_with fail
  clear fC00 fC01 fC02 fC03 fC04 fC05 fC06 fC0lt
  refine (markD_any HD0.out.1 HW0.out 1 K0 HK0.out (by omega) _ _ _ (MSt.nth (L1 := [_, _]) HM12.out).objs.out.1 (MSt.nth (L1 := [_, _]) HM12.out).objs.out.2.1).mono ?_
  rintro e w13 ⟨rfl, how, hF⟩
  have HM13 := Lib.hid ((MSt.nth (L1 := [_, _]) HM12.out).mark hF how)
  clear HM12
  clear how hF
  have hKn : ¬ (K0 : Int) < 0 := by omega
  go_wp2_with fail
  refine (eqI_any U _ _ _ _ _ _ _ (MSt.nth (L1 := [_]) HM13.out).objs.out.1.read (MSt.nth (L1 := [_, _, _]) HM13.out).objs.out.1.read (by have := HSL.out; omega)).mono ?_
  rintro e w14 ⟨rfl, hb⟩
  have HM14 := Lib.hid (HM13.out.later hb)
  clear HM13
  clear hb
  have HWT := Lib.hid (show Dt.wt (.lst (U.map .int)) ≤ 1048576 by have := HSL.out; simp only [Dt.wt, wts_ints, List.length_map]; omega)
  obtain ⟨K, hK⟩ : ∃ K, K = 1 + cnts (U.map .int) := ⟨_, rfl⟩
  have HKU := Lib.hid hK
  have hKb : K ≤ 2097153 := by have := HSL.out; rw [hK, cnts_ints]; omega
  clear hK
  have hKn2 : ¬ (K : Int) < 0 := by omega
  have hKK : ((K : Int) != (K : Int)) = false := by simp
  go_wp2_with fail
  refine (markIntC U _ _ _ 1 K _ _ (MSt.nth (L1 := [_]) HM14.out).objs.out.1 (MSt.nth (L1 := [_]) HM14.out).objs.out.2.1 (List.length_map _).symm HKU.out (by omega) HWT.out).mono ?_
  rintro e w15 ⟨rfl, how, hF⟩
  have HM15 := Lib.hid ((MSt.nth (L1 := [_]) HM14.out).mark hF how)
  clear HM14
  clear how hF
  go_wp2_with fail
  refine (heldIntC U _ _ _ 1 K _ _ HM15.out.objs.out.1.read (Nat.le_refl _) (List.length_map _).symm HKU.out (by omega) HWT.out).mono ?_
  rintro e w16 ⟨rfl, hb⟩
  have HM16 := Lib.hid (HM15.out.later hb)
  clear HM15
  clear hb
  have hbx := (MSt.nth (L1 := [_, _, _, _, _, _]) HM16.out).box
  obtain ⟨fA00, fA01, fA02, fA03, fA04, fA05, fA06, fA0lt⟩ := box7 hbx
  clear hbx
  obtain ⟨fO10, fO11, fO1lt⟩ := MSt.box2 HM16.out (e := 46) (g := w.heap.size + 1) (a := .int .i64 p0) (b := .int .i64 p1) (by simp)
  go_wp2_with fail
  go_region_held3 (fun w' => w'.cell? ⟨w.heap.size, 0, none⟩ = some (.int .i64 a0y0) ∧ w'.cell? ⟨w.heap.size, 1, none⟩ = some (.int .i64 a0y1) ∧ w'.cell? ⟨w.heap.size, 2, none⟩ = some (.int .i64 a0y2) ∧ w'.cell? ⟨w.heap.size, 3, none⟩ = some (.string a0y3) ∧ w'.cell? ⟨w.heap.size, 4, none⟩ = some (.slice a0y4 a0n4 a0c4) ∧ w'.cell? ⟨w.heap.size, 5, none⟩ = some (.slice a0y5 a0n5 a0c5) ∧ w'.cell? ⟨w.heap.size, 6, none⟩ = some (.slice a0y6 a0n6 a0c6) ∧ w'.cell? ⟨w.heap.size + 1, 0, none⟩ = some (.int .i64 p0) ∧ w'.cell? ⟨w.heap.size + 1, 1, none⟩ = some (.int .i64 p1)) (exact ⟨fA00, fA01, fA02, fA03, fA04, fA05, fA06, fO10, fO11⟩)
    (first
      | (
        go_at_call_of 15 (Value.agg #[.int .i64 a0y0, .int .i64 a0y1, .int .i64 a0y2, .string a0y3, .slice a0y4 a0n4 a0c4, .slice a0y5 a0n5 a0c5, .slice a0y6 a0n6 a0c6])
        refine (toValue_any HD0.out.1 _ _ ((HD0.out.2.2.below (MSt.bel (HM16.out.drew))).more (MSt.size (HM16.out.drew))) HW0.out).mono ?_
        rintro e w17 ⟨csTz, fpTz, rfl, how, hnf, hb⟩
        obtain ⟨tzy0, tzy1, tzy2, tzy3, tzy4, tzn4, tzc4, tzy5, tzn5, tzc5, tzy6, tzn6, tzc6, rfl⟩ := IsVal.form (HD0.out.1) how.read
        have HM17 := Lib.hid (HM16.out.drew.add hb (owA_at how hnf))
        clear hb how hnf HM16
        have hbx : w17.ownsRow 0 34 7 (.slice (some ⟨w.heap.size, 0, none⟩) 1 1) 1 [.int .i64 a0y0, .int .i64 a0y1, .int .i64 a0y2, .string a0y3, .slice a0y4 a0n4 a0c4, .slice a0y5 a0n5 a0c5, .slice a0y6 a0n6 a0c6] := HM17.out.has (a := boxA 34 7 (w.heap.size) [.int .i64 a0y0, .int .i64 a0y1, .int .i64 a0y2, .string a0y3, .slice a0y4 a0n4 a0c4, .slice a0y5 a0n5 a0c5, .slice a0y6 a0n6 a0c6]) (by simp)
        obtain ⟨fA00, fA01, fA02, fA03, fA04, fA05, fA06, fA0lt⟩ := box7 hbx
        clear hbx
        obtain ⟨fO10, fO11, fO1lt⟩ := MSt.box2 HM17.out (e := 46) (g := w.heap.size + 1) (a := .int .i64 p0) (b := .int .i64 p1) (by simp))
      | (
        go_at_call 20
        refine (toOrg_any p0 p1 _).mono ?_
        rintro e w18 ⟨rfl, hb⟩
        have HM18 := Lib.hid (HM17.out.later hb)
        clear hb HM17
        have hbx : w18.ownsRow 0 34 7 (.slice (some ⟨w.heap.size, 0, none⟩) 1 1) 1 [.int .i64 a0y0, .int .i64 a0y1, .int .i64 a0y2, .string a0y3, .slice a0y4 a0n4 a0c4, .slice a0y5 a0n5 a0c5, .slice a0y6 a0n6 a0c6] := HM18.out.has (a := boxA 34 7 (w.heap.size) [.int .i64 a0y0, .int .i64 a0y1, .int .i64 a0y2, .string a0y3, .slice a0y4 a0n4 a0c4, .slice a0y5 a0n5 a0c5, .slice a0y6 a0n6 a0c6]) (by simp)
        obtain ⟨fA00, fA01, fA02, fA03, fA04, fA05, fA06, fA0lt⟩ := box7 hbx
        clear hbx
        obtain ⟨fO10, fO11, fO1lt⟩ := MSt.box2 HM18.out (e := 46) (g := w.heap.size + 1) (a := .int .i64 p0) (b := .int .i64 p1) (by simp))
      | (
        go_at_call 21
        refine (implUses_any HD0.out.1 HW0.out p0 p1 U HU.out _ _ (MSt.has (HM18.out) (a := owA (d0) [.int .i64 tzy0, .int .i64 tzy1, .int .i64 tzy2, .string tzy3, .slice tzy4 tzn4 tzc4, .slice tzy5 tzn5 tzc5, .slice tzy6 tzn6 tzc6] fpTz) (by simp)).1.read).mono ?_
        rintro e w19 ⟨vh0, rfl, h2⟩
        obtain ⟨Ah0, ch0, rfl⟩ := MSt.intVl h2
        have HM19 := Lib.hid (MSt.trans HM18.out (MSt.intOw h2))
        clear h2 HM18
        have hbx : w19.ownsRow 0 34 7 (.slice (some ⟨w.heap.size, 0, none⟩) 1 1) 1 [.int .i64 a0y0, .int .i64 a0y1, .int .i64 a0y2, .string a0y3, .slice a0y4 a0n4 a0c4, .slice a0y5 a0n5 a0c5, .slice a0y6 a0n6 a0c6] := HM19.out.has (a := boxA 34 7 (w.heap.size) [.int .i64 a0y0, .int .i64 a0y1, .int .i64 a0y2, .string a0y3, .slice a0y4 a0n4 a0c4, .slice a0y5 a0n5 a0c5, .slice a0y6 a0n6 a0c6]) (by simp)
        obtain ⟨fA00, fA01, fA02, fA03, fA04, fA05, fA06, fA0lt⟩ := box7 hbx
        clear hbx
        obtain ⟨fO10, fO11, fO1lt⟩ := MSt.box2 HM19.out (e := 46) (g := w.heap.size + 1) (a := .int .i64 p0) (b := .int .i64 p1) (by simp))
      | fail)
  clear fA00 fA01 fA02 fA03 fA04 fA05 fA06 fA0lt fO10 fO11 fO1lt
  go_wp2_with fail
  refine (eqI_any U _ _ _ _ _ _ _ HM19.out.objs.out.1.read (MSt.nth (L1 := [_, _, _, _, _]) HM19.out).objs.out.1.read (by have := HSL.out; omega)).mono ?_
  rintro e w20 ⟨rfl, hb⟩
  have HM20 := Lib.hid (HM19.out.later hb)
  clear HM19
  clear hb
  go_wp2_with fail
  refine (heldIntC U _ _ _ 1 K _ _ (MSt.nth (L1 := [_, _]) HM20.out).objs.out.1.read (Nat.le_refl _) (List.length_map _).symm HKU.out (by omega) HWT.out).mono ?_
  rintro e w21 ⟨rfl, hb⟩
  have HM21 := Lib.hid (HM20.out.later hb)
  clear HM20
  clear hb
  go_wp2_with fail
  go_ret
  exact ⟨rfl, HM21.out.bel⟩
end Go.Proofs.Ytdnneilbgekccab
