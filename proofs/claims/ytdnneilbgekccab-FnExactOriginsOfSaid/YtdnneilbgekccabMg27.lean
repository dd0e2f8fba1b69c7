/-
  Texts that the proof rests on, put together: OrgsLaw.
-/
import Derived.Test.YtdnneilbgekccabMg19
import Derived.Test.YtdnneilbgekccabMg26
import Derived.Test.YtdnneilbgekccabMg16
import Derived.Test.YtdnneilbgekccabMg15
import Derived.Test.YtdnneilbgekccabMg6
import Derived.Deep.RegionLaw
import Derived.Deep.RegionHeld3
/-
  The law FnExactOriginsOf. (Written by gen8.py.)
-/

namespace Go.Proofs.Ytdnneilbgekccab
open Go.RowKit Go.Lib Go.Sort
set_option linter.unusedVariables false
set_option linter.unusedSimpArgs false

set_option maxHeartbeats 12800000 in
set_option maxRecDepth 100000 in
theorem fnExactOriginsOf_walk (w : World) {d0 : Dt} (hd0 : IsVal d0) (hok0 : d0.Ok) (cs0 : List Value) (hr0 : Rd w w.heap.size d0 cs0) :
    Calls Try.prog 4 #[.agg cs0.toArray] w fun e w' => e = .returned (.bool true) ∧ Below w.heap.size w w' := by
  have HD0 := Lib.hid (And.intro hd0 (And.intro hok0 hr0))
  obtain ⟨a0y0, a0y1, a0y2, a0y3, a0y4, a0n4, a0c4, a0y5, a0n5, a0c5, a0y6, a0n6, a0c6, rfl⟩ := hd0.form hr0
  clear hd0 hok0 hr0
  have h0 := (MSt.start w).new 34 7 #[.int .i64 a0y0, .int .i64 a0y1, .int .i64 a0y2, .string a0y3, .slice a0y4 a0n4 a0c4, .slice a0y5 a0n5 a0c5, .slice a0y6 a0n6 a0c6] rfl
  have HM0 := Lib.hid h0
  clear h0
  go_enter Try.func4, Try.ntmps4
  go_wp2_with fail
  refine (szVal_any HD0.out.1 _ 1048576 _ ((HD0.out.2.2.below (MSt.bel (HM0.out))).more (MSt.size (HM0.out))) HD0.out.2.1 (by omega) (by omega)).mono ?_
  rintro e w1 ⟨r0, rfl, hr0, hb⟩
  have HM1 := Lib.hid (HM0.out.later hb)
  clear HM0
  clear hb
  have HR0 := Lib.hid hr0
  clear hr0
  have hbx := HM1.out.box
  obtain ⟨fA00, fA01, fA02, fA03, fA04, fA05, fA06, fA0lt⟩ := box7 hbx
  clear hbx
  by_cases hng : r0 < 0
  · go_wp2_with fail
    go_ret
    exact ⟨rfl, HM1.out.bel⟩
  have hwt : d0.wt ≤ 1048576 := by have h0 := HR0.out.1 (by omega); have h1 := HR0.out.2; omega
  have HW0 := Lib.hid hwt
  obtain ⟨U, hU⟩ : ∃ U, U = setO (frs d0.rw).flatten := ⟨_, rfl⟩
  have HSL := Lib.hid (show U.length ≤ 1048576 by have h1 := setO_len (frs d0.rw).flatten; have h2 := frs_wt d0.rw (rw_val8 HD0.out.1); have h3 := wt_parts8 HD0.out.1; rw [hU]; omega)
  have HU := Lib.hid hU
  clear hU hwt
  go_wp2_with fail
  clear fA00 fA01 fA02 fA03 fA04 fA05 fA06 fA0lt
  refine (toValue_any HD0.out.1 _ _ ((HD0.out.2.2.below (MSt.bel (HM1.out))).more (MSt.size (HM1.out))) HW0.out).mono ?_
  rintro e w2 ⟨csTa, fpTa, rfl, how, hnf, hb⟩
  obtain ⟨tay0, tay1, tay2, tay3, tay4, tan4, tac4, tay5, tan5, tac5, tay6, tan6, tac6, rfl⟩ := IsVal.form (HD0.out.1) how.read
  have HM2 := Lib.hid (HM1.out.add hb (owA_at how hnf))
  clear HM1
  clear hb how hnf
  go_wp2_with fail
  refine (specOrigins_any HD0.out.1 HW0.out U HU.out _ _ HM2.out.read).mono ?_
  rintro e w3 ⟨vw0, rfl, h2⟩
  obtain ⟨Aw0, cw0, rfl, -, -⟩ := MSt.orgV h2
  have HM3 := Lib.hid (MSt.trans HM2.out (MSt.orgOw h2))
  clear HM2
  clear h2
  have hbx := (MSt.nth (L1 := [_, _]) HM3.out).box
  obtain ⟨fA00, fA01, fA02, fA03, fA04, fA05, fA06, fA0lt⟩ := box7 hbx
  clear hbx
  go_wp2_with fail
  clear fA00 fA01 fA02 fA03 fA04 fA05 fA06 fA0lt
  refine (toValue_any HD0.out.1 _ _ ((HD0.out.2.2.below (MSt.bel (HM3.out))).more (MSt.size (HM3.out))) HW0.out).mono ?_
  rintro e w4 ⟨csX0, fpX0, rfl, how, hnf, hb⟩
  obtain ⟨x0y0, x0y1, x0y2, x0y3, x0y4, x0n4, x0c4, x0y5, x0n5, x0c5, x0y6, x0n6, x0c6, rfl⟩ := IsVal.form (HD0.out.1) how.read
  have HM4 := Lib.hid (HM3.out.add hb (owA_at how hnf))
  clear HM3
  clear hb how hnf
  go_wp2_with fail
  have HM5 := Lib.hid (HM4.out.new 40 7 #[.int .i64 x0y0, .int .i64 x0y1, .int .i64 x0y2, .string x0y3, .slice x0y4 x0n4 x0c4, .slice x0y5 x0n5 x0c5, .slice x0y6 x0n6 x0c6] rfl)
  clear HM4
  refine (implOrigins_any HD0.out.1 HW0.out U HU.out _ _ (MSt.nth (L1 := [_]) HM5.out).read).mono ?_
  rintro e w6 ⟨vg0, rfl, h2⟩
  obtain ⟨Ag0, cg0, rfl, -, -⟩ := MSt.orgV h2
  have HM6 := Lib.hid (MSt.trans HM5.out (MSt.orgOw h2))
  clear HM5
  clear h2
  go_wp2_with fail
  refine (eqO_any U _ _ _ _ _ _ _ HM6.out.objs.out.1.read (MSt.nth (L1 := [_, _, _]) HM6.out).objs.out.1.read (by have := HSL.out; omega)).mono ?_
  rintro e w7 ⟨rfl, hb⟩
  have HM7 := Lib.hid (HM6.out.later hb)
  clear HM6
  clear hb
  have hbx := (MSt.nth (L1 := [_]) HM7.out).box
  obtain ⟨fC00, fC01, fC02, fC03, fC04, fC05, fC06, fC0lt⟩ := box7 hbx
  clear hbx
  have hbx := (MSt.nth (L1 := [_, _, _, _, _]) HM7.out).box
  obtain ⟨fA00, fA01, fA02, fA03, fA04, fA05, fA06, fA0lt⟩ := box7 hbx
  clear hbx
  go_wp2_with fail
  go_region_held3 (fun w' => w'.cell? ⟨w4.heap.size, 0, none⟩ = some (.int .i64 x0y0) ∧ w'.cell? ⟨w4.heap.size, 1, none⟩ = some (.int .i64 x0y1) ∧ w'.cell? ⟨w4.heap.size, 2, none⟩ = some (.int .i64 x0y2) ∧ w'.cell? ⟨w4.heap.size, 3, none⟩ = some (.string x0y3) ∧ w'.cell? ⟨w4.heap.size, 4, none⟩ = some (.slice x0y4 x0n4 x0c4) ∧ w'.cell? ⟨w4.heap.size, 5, none⟩ = some (.slice x0y5 x0n5 x0c5) ∧ w'.cell? ⟨w4.heap.size, 6, none⟩ = some (.slice x0y6 x0n6 x0c6) ∧ w'.cell? ⟨w.heap.size, 0, none⟩ = some (.int .i64 a0y0) ∧ w'.cell? ⟨w.heap.size, 1, none⟩ = some (.int .i64 a0y1) ∧ w'.cell? ⟨w.heap.size, 2, none⟩ = some (.int .i64 a0y2) ∧ w'.cell? ⟨w.heap.size, 3, none⟩ = some (.string a0y3) ∧ w'.cell? ⟨w.heap.size, 4, none⟩ = some (.slice a0y4 a0n4 a0c4) ∧ w'.cell? ⟨w.heap.size, 5, none⟩ = some (.slice a0y5 a0n5 a0c5) ∧ w'.cell? ⟨w.heap.size, 6, none⟩ = some (.slice a0y6 a0n6 a0c6)) (exact ⟨fC00, fC01, fC02, fC03, fC04, fC05, fC06, fA00, fA01, fA02, fA03, fA04, fA05, fA06⟩)
    (first
      | (
        go_at_call_of 15 (Value.agg #[.int .i64 a0y0, .int .i64 a0y1, .int .i64 a0y2, .string a0y3, .slice a0y4 a0n4 a0c4, .slice a0y5 a0n5 a0c5, .slice a0y6 a0n6 a0c6])
        refine (toValue_any HD0.out.1 _ _ ((HD0.out.2.2.below (MSt.bel (HM7.out.drew))).more (MSt.size (HM7.out.drew))) HW0.out).mono ?_
        rintro e w8 ⟨csN0, fpN0, rfl, how, hnf, hb⟩
        obtain ⟨n0y0, n0y1, n0y2, n0y3, n0y4, n0n4, n0c4, n0y5, n0n5, n0c5, n0y6, n0n6, n0c6, rfl⟩ := IsVal.form (HD0.out.1) how.read
        have HM8 := Lib.hid (HM7.out.drew.add hb (owA_at how hnf))
        clear hb how hnf HM7
        have hbx := (MSt.nth (L1 := [_, _]) HM8.out).box
        obtain ⟨fC00, fC01, fC02, fC03, fC04, fC05, fC06, fC0lt⟩ := box7 hbx
        clear hbx
        have hbx := (MSt.nth (L1 := [_, _, _, _, _, _]) HM8.out).box
        obtain ⟨fA00, fA01, fA02, fA03, fA04, fA05, fA06, fA0lt⟩ := box7 hbx
        clear hbx)
      | (
        go_at_call 17
        refine (eqValue_any HD0.out.1 HD0.out.1 _ _ _ (MSt.nth (L1 := [_, _, _]) HM8.out).read HM8.out.read).mono ?_
        rintro e w9 ⟨b, rfl, hbi, hb⟩
        obtain rfl : b = true := hbi.2 rfl
        clear hbi
        have HM9 := Lib.hid (HM8.out.later hb)
        clear HM8
        clear hb
        have hbx := (MSt.nth (L1 := [_, _]) HM9.out).box
        obtain ⟨fC00, fC01, fC02, fC03, fC04, fC05, fC06, fC0lt⟩ := box7 hbx
        clear hbx
        have hbx := (MSt.nth (L1 := [_, _, _, _, _, _]) HM9.out).box
        obtain ⟨fA00, fA01, fA02, fA03, fA04, fA05, fA06, fA0lt⟩ := box7 hbx
        clear hbx)
      | fail)
  have HM10 := Lib.hid (MSt.drop HM9.out)
  clear HM9 fC00 fC01 fC02 fC03 fC04 fC05 fC06 fC0lt fA00 fA01 fA02 fA03 fA04 fA05 fA06 fA0lt
  clear fC00 fC01 fC02 fC03 fC04 fC05 fC06 fC0lt fA00 fA01 fA02 fA03 fA04 fA05 fA06 fA0lt
  obtain ⟨K0, hK0⟩ : ∃ K, K = 1 + d0.mks := ⟨_, rfl⟩
  have hKb0 : K0 ≤ 16777217 := by have := mks_bd HD0.out.1 (Nat.le_trans HW0.out (by decide)); omega
  have HK0 := Lib.hid hK0
  clear hK0
  have hbx := (MSt.nth (L1 := [_]) HM10.out).box
  obtain ⟨fC00, fC01, fC02, fC03, fC04, fC05, fC06, fC0lt⟩ := box7 hbx
  clear hbx
  go_wp2_with fail
  clear fC00 fC01 fC02 fC03 fC04 fC05 fC06 fC0lt
  refine (markD_any HD0.out.1 HW0.out 1 K0 HK0.out (by omega) _ _ _ (MSt.nth (L1 := [_, _]) HM10.out).objs.out.1 (MSt.nth (L1 := [_, _]) HM10.out).objs.out.2.1).mono ?_
  rintro e w11 ⟨rfl, how, hF⟩
  have HM11 := Lib.hid ((MSt.nth (L1 := [_, _]) HM10.out).mark hF how)
  clear HM10
  clear how hF
  have hKn : ¬ (K0 : Int) < 0 := by omega
  go_wp2_with fail
  refine (eqO_any U _ _ _ _ _ _ _ (MSt.nth (L1 := [_]) HM11.out).objs.out.1.read (MSt.nth (L1 := [_, _, _]) HM11.out).objs.out.1.read (by have := HSL.out; omega)).mono ?_
  rintro e w12 ⟨rfl, hb⟩
  have HM12 := Lib.hid (HM11.out.later hb)
  clear HM11
  clear hb
  have HWT := Lib.hid (show Dt.wt (.lst (orgsD U)) ≤ 1048576 by rw [wt_orgsD]; exact HSL.out)
  obtain ⟨K, hK⟩ : ∃ K, K = 1 + cnts (orgsD U) := ⟨_, rfl⟩
  have HKU := Lib.hid hK
  have hKb : K ≤ 2097153 := by have := HSL.out; rw [hK, cnts_orgs _ (orgsD_org U), orgsD_len]; omega
  clear hK
  have hKn2 : ¬ (K : Int) < 0 := by omega
  have hKK : ((K : Int) != (K : Int)) = false := by simp
  go_wp2_with fail
  refine (markOrgC (orgsD U) (orgsD_org _) _ _ _ 1 K _ _ (MSt.nth (L1 := [_]) HM12.out).objs.out.1 (MSt.nth (L1 := [_]) HM12.out).objs.out.2.1 (orgsD_len _).symm HKU.out (by omega) HWT.out).mono ?_
  rintro e w13 ⟨rfl, how, hF⟩
  have HM13 := Lib.hid ((MSt.nth (L1 := [_]) HM12.out).mark hF how)
  clear HM12
  clear how hF
  go_wp2_with fail
  refine (heldOrgC (orgsD U) (orgsD_org _) _ _ _ 1 K _ _ HM13.out.objs.out.1.read (Nat.le_refl _) (orgsD_len _).symm HKU.out (by omega) HWT.out).mono ?_
  rintro e w14 ⟨rfl, hb⟩
  have HM14 := Lib.hid (HM13.out.later hb)
  clear HM13
  clear hb
  have hbx := (MSt.nth (L1 := [_, _, _, _, _]) HM14.out).box
  obtain ⟨fA00, fA01, fA02, fA03, fA04, fA05, fA06, fA0lt⟩ := box7 hbx
  clear hbx
  go_wp2_with fail
  clear fA00 fA01 fA02 fA03 fA04 fA05 fA06 fA0lt
  refine (toValue_any HD0.out.1 _ _ ((HD0.out.2.2.below (MSt.bel (HM14.out))).more (MSt.size (HM14.out))) HW0.out).mono ?_
  rintro e w15 ⟨csTz, fpTz, rfl, how, hnf, hb⟩
  obtain ⟨tzy0, tzy1, tzy2, tzy3, tzy4, tzn4, tzc4, tzy5, tzn5, tzc5, tzy6, tzn6, tzc6, rfl⟩ := IsVal.form (HD0.out.1) how.read
  have HM15 := Lib.hid (HM14.out.add hb (owA_at how hnf))
  clear HM14
  clear hb how hnf
  go_wp2_with fail
  refine (implOrigins_any HD0.out.1 HW0.out U HU.out _ _ HM15.out.read).mono ?_
  rintro e w16 ⟨vh0, rfl, h2⟩
  obtain ⟨Ah0, ch0, rfl, -, -⟩ := MSt.orgV h2
  have HM16 := Lib.hid (MSt.trans HM15.out (MSt.orgOw h2))
  clear HM15
  clear h2
  go_wp2_with fail
  refine (eqO_any U _ _ _ _ _ _ _ HM16.out.objs.out.1.read (MSt.nth (L1 := [_, _, _, _, _]) HM16.out).objs.out.1.read (by have := HSL.out; omega)).mono ?_
  rintro e w17 ⟨rfl, hb⟩
  have HM17 := Lib.hid (HM16.out.later hb)
  clear HM16
  clear hb
  go_wp2_with fail
  refine (heldOrgC (orgsD U) (orgsD_org _) _ _ _ 1 K _ _ (MSt.nth (L1 := [_, _]) HM17.out).objs.out.1.read (Nat.le_refl _) (orgsD_len _).symm HKU.out (by omega) HWT.out).mono ?_
  rintro e w18 ⟨rfl, hb⟩
  have HM18 := Lib.hid (HM17.out.later hb)
  clear HM17
  clear hb
  go_wp2_with fail
  go_ret
  exact ⟨rfl, HM18.out.bel⟩
end Go.Proofs.Ytdnneilbgekccab
