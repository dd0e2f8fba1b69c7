/-
  Texts that the proof rests on, put together: ApLaw.
-/
import Derived.Test.YtabcmnlmmpbmnaaGreatMgP51
import Derived.Test.YtabcmnlmmpbmnaaGreatMgP29
import Derived.Test.YtabcmnlmmpbmnaaGreatMgP7
import Derived.Test.YtabcmnlmmpbmnaaGreatMgP6
import Derived.Test.YtabcmnlmmpbmnaaGreatMgP10
import Derived.Deep.RegionLaw
import Derived.Deep.RegionHeld3
import Derived.Outline
/-
  The law FnExactApplyOperator. (Written by genxlaw.py.)
-/

namespace Go.Proofs.YtabcmnlmmpbmnaaGreat
open Go.RowKit
set_option linter.unusedVariables false

set_option maxHeartbeats 12800000 in
set_option maxRecDepth 100000 in
theorem fnExactApplyOperator_walk (w : World) (x0 : Int) (hlo0 : -9223372036854775808 ≤ x0) (hhi0 : x0 ≤ 9223372036854775807) {d1 : Dt} (hd1 : IsVal d1) (hok1 : d1.Ok) (cs1 : List Value) (hr1 : Rd w w.heap.size d1 cs1) {d2 : Dt} (hd2 : IsVal d2) (hok2 : d2.Ok) (cs2 : List Value) (hr2 : Rd w w.heap.size d2 cs2) :
    Calls Tryz.prog 8 #[.int .i64 x0, .agg cs1.toArray, .agg cs2.toArray] w fun e w' => e = .returned (.bool true) ∧ Below w.heap.size w w' := by
  have HD1 := Lib.hid (And.intro hd1 (And.intro hok1 hr1))
  obtain ⟨a1y0, a1y1, a1y2, a1y3, a1y4, a1n4, a1c4, a1y5, a1n5, a1c5, a1y6, a1n6, a1c6, rfl⟩ := hd1.form hr1
  clear hd1 hok1 hr1
  have HD2 := Lib.hid (And.intro hd2 (And.intro hok2 hr2))
  obtain ⟨a2y0, a2y1, a2y2, a2y3, a2y4, a2n4, a2c4, a2y5, a2n5, a2c5, a2y6, a2n6, a2c6, rfl⟩ := hd2.form hr2
  clear hd2 hok2 hr2
  have h0 := ((MSt.start w).new 44 7 #[.int .i64 a1y0, .int .i64 a1y1, .int .i64 a1y2, .string a1y3, .slice a1y4 a1n4 a1c4, .slice a1y5 a1n5 a1c5, .slice a1y6 a1n6 a1c6] rfl).new 44 7 #[.int .i64 a2y0, .int .i64 a2y1, .int .i64 a2y2, .string a2y3, .slice a2y4 a2n4 a2c4, .slice a2y5 a2n5 a2c5, .slice a2y6 a2n6 a2c6] rfl
  simp only [World.size_alloc] at h0
  have HM0 := Lib.hid h0
  clear h0
  go_enter Tryz.func8, Tryz.ntmps8
  go_wp2_with fail
  refine (szVal_any HD1.out.1 _ 1048576 _ ((HD1.out.2.2.below (MSt.bel (HM0.out))).more (MSt.size (HM0.out))) HD1.out.2.1 (by omega) (by omega)).mono ?_
  rintro e w1 ⟨r1, rfl, hr1, hb⟩
  have HM1 := Lib.hid (HM0.out.later hb)
  clear HM0
  clear hb
  have HR1 := Lib.hid hr1
  clear hr1
  have hbx := (MSt.nth (L1 := [_]) HM1.out).box
  obtain ⟨fA10, fA11, fA12, fA13, fA14, fA15, fA16, fA1lt⟩ := box7 hbx
  clear hbx
  have hbx := HM1.out.box
  obtain ⟨fA20, fA21, fA22, fA23, fA24, fA25, fA26, fA2lt⟩ := box7 hbx
  clear hbx
  by_cases hng : r1 < 0
  · go_wp2_with fail
    go_ret
    exact ⟨rfl, HM1.out.bel⟩
  · obtain ⟨l1, rfl⟩ : ∃ l : Nat, r1 = l := ⟨r1.toNat, by omega⟩
    have hle1 : l1 ≤ 1048576 := by have := HR1.out.2; omega
    clear hng
    go_wp2_with fail
    clear fA10 fA11 fA12 fA13 fA14 fA15 fA16 fA1lt fA20 fA21 fA22 fA23 fA24 fA25 fA26 fA2lt
    refine (szVal_any HD2.out.1 _ l1 _ ((HD2.out.2.2.below (MSt.bel (HM1.out))).more (MSt.size (HM1.out))) HD2.out.2.1 (by omega) (by omega)).mono ?_
    rintro e w2 ⟨r2, rfl, hr2, hb⟩
    have HM2 := Lib.hid (HM1.out.later hb)
    clear HM1
    clear hb
    have HR2 := Lib.hid hr2
    clear hr2
    have hbx := (MSt.nth (L1 := [_]) HM2.out).box
    obtain ⟨fA10, fA11, fA12, fA13, fA14, fA15, fA16, fA1lt⟩ := box7 hbx
    clear hbx
    have hbx := HM2.out.box
    obtain ⟨fA20, fA21, fA22, fA23, fA24, fA25, fA26, fA2lt⟩ := box7 hbx
    clear hbx
    by_cases hng : r2 < 0
    · go_wp2_with fail
      go_ret
      exact ⟨rfl, HM2.out.bel⟩
    · obtain ⟨l2, rfl⟩ : ∃ l : Nat, r2 = l := ⟨r2.toNat, by omega⟩
      have hle2 : l2 ≤ 1048576 := by have := HR2.out.2; omega
      clear hng
      have hwt : d1.wt + d2.wt ≤ 1048576 := by have h1 := HR1.out.1 (by omega); have h2 := HR2.out.1 (by omega); omega
      have HW1 := Lib.hid (show d1.wt ≤ 1048576 by omega)
      have HW2 := Lib.hid (show d2.wt ≤ 1048576 by omega)
      have HW := Lib.hid hwt
      clear hwt
      obtain ⟨D, hap⟩ := ap_some x0 d1 d2
      have HA := Lib.hid (And.intro hap (And.intro (hap.val HD1.out.1 HD2.out.1) (Nat.le_trans (hap.wt HD1.out.1 HD2.out.1) HW.out)))
      clear hap
      go_upto_region 8 with fail
      go_cut [8] from 26 to 31 (fun p wx => ∃ (g : Nat) (cs : List Value) (fp : List Nat), p = .pointer (some ⟨g, 0, none⟩) ∧ MSt w (boxA 28 7 g cs :: owA (D) cs fp :: [boxA 44 7 (w.heap.size + 1) [.int .i64 a2y0, .int .i64 a2y1, .int .i64 a2y2, .string a2y3, .slice a2y4 a2n4 a2c4, .slice a2y5 a2n5 a2c5, .slice a2y6 a2n6 a2c6], boxA 44 7 (w.heap.size) [.int .i64 a1y0, .int .i64 a1y1, .int .i64 a1y2, .string a1y3, .slice a1y4 a1n4 a1c4, .slice a1y5 a1n5 a1c5, .slice a1y6 a1n6 a1c6]]) wx)
      case first =>
        go_region_law (first
          | (
            go_simp
            go_at_call_of 33 (Value.agg #[.int .i64 a1y0, .int .i64 a1y1, .int .i64 a1y2, .string a1y3, .slice a1y4 a1n4 a1c4, .slice a1y5 a1n5 a1c5, .slice a1y6 a1n6 a1c6])
            first | refine (toValue_any HD1.out.1 _ _ ((HD1.out.2.2.below (MSt.bel (HM2.out.drew))).more (MSt.size (HM2.out.drew))) HW1.out).mono ?_ | refine (toValue_any HD1.out.1 _ _ ((HD1.out.2.2.below (MSt.bel (HM2.out.drew.alloc (.cells #[.int .i64 0, .int .i64 0, .int .i64 0, .string ⟨#[]⟩, .slice none 0 0, .slice none 0 0, .slice none 0 0] 28)))).more (MSt.size (HM2.out.drew.alloc (.cells #[.int .i64 0, .int .i64 0, .int .i64 0, .string ⟨#[]⟩, .slice none 0 0, .slice none 0 0, .slice none 0 0] 28)))) HW1.out).mono ?_
            rintro e w3 ⟨csTp1, fpTp1, rfl, how, hnf, hb⟩
            obtain ⟨tp1y0, tp1y1, tp1y2, tp1y3, tp1y4, tp1n4, tp1c4, tp1y5, tp1n5, tp1c5, tp1y6, tp1n6, tp1c6, rfl⟩ := IsVal.form (HD1.out.1) how.read
            first | (have HM3 := Lib.hid (HM2.out.drew.add hb (owA_at how hnf))) | (have HM3 := Lib.hid ((HM2.out.drew.new 28 7 #[.int .i64 0, .int .i64 0, .int .i64 0, .string ⟨#[]⟩, .slice none 0 0, .slice none 0 0, .slice none 0 0] rfl).add hb (owA_at how hnf)))
            have hws3 := hb.size
            first | simp at hws3 | skip
            clear hb how hnf
            have hbx : w3.ownsRow 0 44 7 (.slice (some ⟨w.heap.size, 0, none⟩) 1 1) 1 [.int .i64 a1y0, .int .i64 a1y1, .int .i64 a1y2, .string a1y3, .slice a1y4 a1n4 a1c4, .slice a1y5 a1n5 a1c5, .slice a1y6 a1n6 a1c6] := HM3.out.has (a := boxA 44 7 (w.heap.size) [.int .i64 a1y0, .int .i64 a1y1, .int .i64 a1y2, .string a1y3, .slice a1y4 a1n4 a1c4, .slice a1y5 a1n5 a1c5, .slice a1y6 a1n6 a1c6]) (by simp)
            obtain ⟨fA10, fA11, fA12, fA13, fA14, fA15, fA16, fA1lt⟩ := box7 hbx
            clear hbx
            have hbx : w3.ownsRow 0 44 7 (.slice (some ⟨w.heap.size + 1, 0, none⟩) 1 1) 1 [.int .i64 a2y0, .int .i64 a2y1, .int .i64 a2y2, .string a2y3, .slice a2y4 a2n4 a2c4, .slice a2y5 a2n5 a2c5, .slice a2y6 a2n6 a2c6] := HM3.out.has (a := boxA 44 7 (w.heap.size + 1) [.int .i64 a2y0, .int .i64 a2y1, .int .i64 a2y2, .string a2y3, .slice a2y4 a2n4 a2c4, .slice a2y5 a2n5 a2c5, .slice a2y6 a2n6 a2c6]) (by simp)
            obtain ⟨fA20, fA21, fA22, fA23, fA24, fA25, fA26, fA2lt⟩ := box7 hbx
            clear hbx
            first | (obtain hbz : w3.ownsRow 0 28 7 (.slice (some ⟨w2.heap.size, 0, none⟩) 1 1) 1 [.int .i64 0, .int .i64 0, .int .i64 0, .string ⟨#[]⟩, .slice none 0 0, .slice none 0 0, .slice none 0 0]; (focus (refine HM3.out.has (a := boxA 28 7 w2.heap.size [.int .i64 0, .int .i64 0, .int .i64 0, .string ⟨#[]⟩, .slice none 0 0, .slice none 0 0, .slice none 0 0]) ?_; simp; done)); rename_i hbz; obtain ⟨fZ0, fZ1, fZ2, fZ3, fZ4, fZ5, fZ6, fZlt⟩ := box7 hbz; obtain ⟨fz0, fz1, fz2, fz3, fz4, fz5, fz6⟩ := box7z hbz; clear hbz) | skip)
          | (
            go_simp
            go_at_call_of 33 (Value.agg #[.int .i64 a2y0, .int .i64 a2y1, .int .i64 a2y2, .string a2y3, .slice a2y4 a2n4 a2c4, .slice a2y5 a2n5 a2c5, .slice a2y6 a2n6 a2c6])
            first | refine (toValue_any HD2.out.1 _ _ ((HD2.out.2.2.below (MSt.bel (HM3.out))).more (MSt.size (HM3.out))) HW2.out).mono ?_ | refine (toValue_any HD2.out.1 _ _ ((HD2.out.2.2.below (MSt.bel (HM3.out.alloc (.cells #[.int .i64 0, .int .i64 0, .int .i64 0, .string ⟨#[]⟩, .slice none 0 0, .slice none 0 0, .slice none 0 0] 28)))).more (MSt.size (HM3.out.alloc (.cells #[.int .i64 0, .int .i64 0, .int .i64 0, .string ⟨#[]⟩, .slice none 0 0, .slice none 0 0, .slice none 0 0] 28)))) HW2.out).mono ?_
            rintro e w4 ⟨csTp2, fpTp2, rfl, how, hnf, hb⟩
            obtain ⟨tp2y0, tp2y1, tp2y2, tp2y3, tp2y4, tp2n4, tp2c4, tp2y5, tp2n5, tp2c5, tp2y6, tp2n6, tp2c6, rfl⟩ := IsVal.form (HD2.out.1) how.read
            first | (have HM4 := Lib.hid (HM3.out.add hb (owA_at how hnf))) | (have HM4 := Lib.hid ((HM3.out.new 28 7 #[.int .i64 0, .int .i64 0, .int .i64 0, .string ⟨#[]⟩, .slice none 0 0, .slice none 0 0, .slice none 0 0] rfl).add hb (owA_at how hnf)))
            have hws4 := hb.size
            first | simp at hws4 | skip
            clear hb how hnf
            have hbx : w4.ownsRow 0 44 7 (.slice (some ⟨w.heap.size, 0, none⟩) 1 1) 1 [.int .i64 a1y0, .int .i64 a1y1, .int .i64 a1y2, .string a1y3, .slice a1y4 a1n4 a1c4, .slice a1y5 a1n5 a1c5, .slice a1y6 a1n6 a1c6] := HM4.out.has (a := boxA 44 7 (w.heap.size) [.int .i64 a1y0, .int .i64 a1y1, .int .i64 a1y2, .string a1y3, .slice a1y4 a1n4 a1c4, .slice a1y5 a1n5 a1c5, .slice a1y6 a1n6 a1c6]) (by simp)
            obtain ⟨fA10, fA11, fA12, fA13, fA14, fA15, fA16, fA1lt⟩ := box7 hbx
            clear hbx
            have hbx : w4.ownsRow 0 44 7 (.slice (some ⟨w.heap.size + 1, 0, none⟩) 1 1) 1 [.int .i64 a2y0, .int .i64 a2y1, .int .i64 a2y2, .string a2y3, .slice a2y4 a2n4 a2c4, .slice a2y5 a2n5 a2c5, .slice a2y6 a2n6 a2c6] := HM4.out.has (a := boxA 44 7 (w.heap.size + 1) [.int .i64 a2y0, .int .i64 a2y1, .int .i64 a2y2, .string a2y3, .slice a2y4 a2n4 a2c4, .slice a2y5 a2n5 a2c5, .slice a2y6 a2n6 a2c6]) (by simp)
            obtain ⟨fA20, fA21, fA22, fA23, fA24, fA25, fA26, fA2lt⟩ := box7 hbx
            clear hbx
            first | (obtain hbz : w4.ownsRow 0 28 7 (.slice (some ⟨w2.heap.size, 0, none⟩) 1 1) 1 [.int .i64 0, .int .i64 0, .int .i64 0, .string ⟨#[]⟩, .slice none 0 0, .slice none 0 0, .slice none 0 0]; (focus (refine HM4.out.has (a := boxA 28 7 w2.heap.size [.int .i64 0, .int .i64 0, .int .i64 0, .string ⟨#[]⟩, .slice none 0 0, .slice none 0 0, .slice none 0 0]) ?_; simp; done)); rename_i hbz; obtain ⟨fZ0, fZ1, fZ2, fZ3, fZ4, fZ5, fZ6, fZlt⟩ := box7 hbz; obtain ⟨fz0, fz1, fz2, fz3, fz4, fz5, fz6⟩ := box7z hbz; clear hbz) | skip
            first | (obtain hbz : w4.ownsRow 0 28 7 (.slice (some ⟨w3.heap.size, 0, none⟩) 1 1) 1 [.int .i64 0, .int .i64 0, .int .i64 0, .string ⟨#[]⟩, .slice none 0 0, .slice none 0 0, .slice none 0 0]; (focus (refine HM4.out.has (a := boxA 28 7 w3.heap.size [.int .i64 0, .int .i64 0, .int .i64 0, .string ⟨#[]⟩, .slice none 0 0, .slice none 0 0, .slice none 0 0]) ?_; simp; done)); rename_i hbz; obtain ⟨fZ0, fZ1, fZ2, fZ3, fZ4, fZ5, fZ6, fZlt⟩ := box7 hbz; obtain ⟨fz0, fz1, fz2, fz3, fz4, fz5, fz6⟩ := box7z hbz; clear hbz) | skip)
          | (
            go_simp
            go_at_call 15
            first | refine (specAp_any HD1.out.1 HD2.out.1 HW.out _ _ _ (MSt.has (HM4.out) (a := owA (d1) [.int .i64 tp1y0, .int .i64 tp1y1, .int .i64 tp1y2, .string tp1y3, .slice tp1y4 tp1n4 tp1c4, .slice tp1y5 tp1n5 tp1c5, .slice tp1y6 tp1n6 tp1c6] fpTp1) (by simp)).1.read (MSt.has (HM4.out) (a := owA (d2) [.int .i64 tp2y0, .int .i64 tp2y1, .int .i64 tp2y2, .string tp2y3, .slice tp2y4 tp2n4 tp2c4, .slice tp2y5 tp2n5 tp2c5, .slice tp2y6 tp2n6 tp2c6] fpTp2) (by simp)).1.read x0 D HA.out.1).mono ?_ | refine (specAp_any HD1.out.1 HD2.out.1 HW.out _ _ _ (MSt.has (HM4.out.alloc (.cells #[.int .i64 0, .int .i64 0, .int .i64 0, .string ⟨#[]⟩, .slice none 0 0, .slice none 0 0, .slice none 0 0] 28)) (a := owA (d1) [.int .i64 tp1y0, .int .i64 tp1y1, .int .i64 tp1y2, .string tp1y3, .slice tp1y4 tp1n4 tp1c4, .slice tp1y5 tp1n5 tp1c5, .slice tp1y6 tp1n6 tp1c6] fpTp1) (by simp)).1.read (MSt.has (HM4.out.alloc (.cells #[.int .i64 0, .int .i64 0, .int .i64 0, .string ⟨#[]⟩, .slice none 0 0, .slice none 0 0, .slice none 0 0] 28)) (a := owA (d2) [.int .i64 tp2y0, .int .i64 tp2y1, .int .i64 tp2y2, .string tp2y3, .slice tp2y4 tp2n4 tp2c4, .slice tp2y5 tp2n5 tp2c5, .slice tp2y6 tp2n6 tp2c6] fpTp2) (by simp)).1.read x0 D HA.out.1).mono ?_
            rintro e w5 ⟨csVp, fpVp, rfl, how, hnf, hb⟩
            obtain ⟨vpy0, vpy1, vpy2, vpy3, vpy4, vpn4, vpc4, vpy5, vpn5, vpc5, vpy6, vpn6, vpc6, rfl⟩ := IsVal.form (HA.out.2.1) how.read
            first | (have HM5 := Lib.hid (HM4.out.add hb (owA_at how hnf))) | (have HM5 := Lib.hid ((HM4.out.new 28 7 #[.int .i64 0, .int .i64 0, .int .i64 0, .string ⟨#[]⟩, .slice none 0 0, .slice none 0 0, .slice none 0 0] rfl).add hb (owA_at how hnf)))
            have hws5 := hb.size
            first | simp at hws5 | skip
            clear hb how hnf
            first | (obtain hbz : w5.ownsRow 0 28 7 (.slice (some ⟨w2.heap.size, 0, none⟩) 1 1) 1 [.int .i64 0, .int .i64 0, .int .i64 0, .string ⟨#[]⟩, .slice none 0 0, .slice none 0 0, .slice none 0 0]; (focus (refine HM5.out.has (a := boxA 28 7 w2.heap.size [.int .i64 0, .int .i64 0, .int .i64 0, .string ⟨#[]⟩, .slice none 0 0, .slice none 0 0, .slice none 0 0]) ?_; simp; done)); rename_i hbz; obtain ⟨fZ0, fZ1, fZ2, fZ3, fZ4, fZ5, fZ6, fZlt⟩ := box7 hbz; obtain ⟨fz0, fz1, fz2, fz3, fz4, fz5, fz6⟩ := box7z hbz; clear hbz) | skip
            first | (obtain hbz : w5.ownsRow 0 28 7 (.slice (some ⟨w3.heap.size, 0, none⟩) 1 1) 1 [.int .i64 0, .int .i64 0, .int .i64 0, .string ⟨#[]⟩, .slice none 0 0, .slice none 0 0, .slice none 0 0]; (focus (refine HM5.out.has (a := boxA 28 7 w3.heap.size [.int .i64 0, .int .i64 0, .int .i64 0, .string ⟨#[]⟩, .slice none 0 0, .slice none 0 0, .slice none 0 0]) ?_; simp; done)); rename_i hbz; obtain ⟨fZ0, fZ1, fZ2, fZ3, fZ4, fZ5, fZ6, fZlt⟩ := box7 hbz; obtain ⟨fz0, fz1, fz2, fz3, fz4, fz5, fz6⟩ := box7z hbz; clear hbz) | skip
            first | (obtain hbz : w5.ownsRow 0 28 7 (.slice (some ⟨w4.heap.size, 0, none⟩) 1 1) 1 [.int .i64 0, .int .i64 0, .int .i64 0, .string ⟨#[]⟩, .slice none 0 0, .slice none 0 0, .slice none 0 0]; (focus (refine HM5.out.has (a := boxA 28 7 w4.heap.size [.int .i64 0, .int .i64 0, .int .i64 0, .string ⟨#[]⟩, .slice none 0 0, .slice none 0 0, .slice none 0 0]) ?_; simp; done)); rename_i hbz; obtain ⟨fZ0, fZ1, fZ2, fZ3, fZ4, fZ5, fZ6, fZlt⟩ := box7 hbz; obtain ⟨fz0, fz1, fz2, fz3, fz4, fz5, fz6⟩ := box7z hbz; clear hbz) | skip)
          | fail)
        all_goals
          go_wp2_with fail
          go_meet
          refine ⟨_, [.int .i64 vpy0, .int .i64 vpy1, .int .i64 vpy2, .string vpy3, .slice vpy4 vpn4 vpc4, .slice vpy5 vpn5 vpc5, .slice vpy6 vpn6 vpc6], fpVp, rfl, ?_⟩
          first
            | ((with_reducible have hg := MSt.set7 (e := 28) (MSt.swap HM5.out) [.int .i64 vpy0, .int .i64 vpy1, .int .i64 vpy2, .string vpy3, .slice vpy4 vpn4 vpc4, .slice vpy5 vpn5 vpc5, .slice vpy6 vpn6 vpc6] (by simp)); simp only [World.setCells, Nat.zero_add, Nat.reduceAdd] at hg; (with_reducible exact MSt.sub hg ((.cons_cons _ (.cons_cons _ (.cons _ (.cons _ (List.Sublist.refl _))))))))
            | ((with_reducible have hg := MSt.set7 (e := 28) (MSt.at2 HM5.out) [.int .i64 vpy0, .int .i64 vpy1, .int .i64 vpy2, .string vpy3, .slice vpy4 vpn4 vpc4, .slice vpy5 vpn5 vpc5, .slice vpy6 vpn6 vpc6] (by simp)); simp only [World.setCells, Nat.zero_add, Nat.reduceAdd] at hg; (with_reducible exact MSt.sub hg ((.cons_cons _ (.cons_cons _ (.cons _ (.cons _ (List.Sublist.refl _))))))))
            | ((with_reducible have hg := MSt.set7 (e := 28) (MSt.at3 HM5.out) [.int .i64 vpy0, .int .i64 vpy1, .int .i64 vpy2, .string vpy3, .slice vpy4 vpn4 vpc4, .slice vpy5 vpn5 vpc5, .slice vpy6 vpn6 vpc6] (by simp)); simp only [World.setCells, Nat.zero_add, Nat.reduceAdd, World.size_drew] at hg; (with_reducible exact MSt.sub hg ((.cons_cons _ (.cons_cons _ (.cons _ (.cons _ (List.Sublist.refl _))))))))
            | ((with_reducible exact MSt.sub (HM5.out.new 28 7 #[.int .i64 vpy0, .int .i64 vpy1, .int .i64 vpy2, .string vpy3, .slice vpy4 vpn4 vpc4, .slice vpy5 vpn5 vpc5, .slice vpy6 vpn6 vpc6] rfl) ((.cons_cons _ (.cons_cons _ (.cons _ (.cons _ (List.Sublist.refl _))))))))
      case rest =>
        obtain ⟨gBp, csVp, fpVp, rfl, hM⟩ := hcut
        obtain ⟨vpy0, vpy1, vpy2, vpy3, vpy4, vpn4, vpc4, vpy5, vpn5, vpc5, vpy6, vpn6, vpc6, rfl⟩ := IsVal.form (HA.out.2.1) (MSt.nth (L1 := [_]) hM).read
        have HM6 := Lib.hid hM
        clear hM HM2 fA10 fA11 fA12 fA13 fA14 fA15 fA16 fA1lt fA20 fA21 fA22 fA23 fA24 fA25 fA26 fA2lt
        obtain ⟨wrp, rfl⟩ : ∃ wo : World, wo = wc := ⟨_, rfl⟩
        have hbx := (MSt.nth (L1 := [_, _, _]) HM6.out).box
        obtain ⟨fA10, fA11, fA12, fA13, fA14, fA15, fA16, fA1lt⟩ := box7 hbx
        clear hbx
        have hbx := (MSt.nth (L1 := [_, _]) HM6.out).box
        obtain ⟨fA20, fA21, fA22, fA23, fA24, fA25, fA26, fA2lt⟩ := box7 hbx
        clear hbx
        go_wp2_with fail
        clear fA10 fA11 fA12 fA13 fA14 fA15 fA16 fA1lt fA20 fA21 fA22 fA23 fA24 fA25 fA26 fA2lt
        refine (toValue_any HD1.out.1 _ _ ((HD1.out.2.2.below (MSt.bel (HM6.out))).more (MSt.size (HM6.out))) HW1.out).mono ?_
        rintro e w7 ⟨csX1, fpX1, rfl, how, hnf, hb⟩
        obtain ⟨x1y0, x1y1, x1y2, x1y3, x1y4, x1n4, x1c4, x1y5, x1n5, x1c5, x1y6, x1n6, x1c6, rfl⟩ := IsVal.form (HD1.out.1) how.read
        have HM7 := Lib.hid (HM6.out.add hb (owA_at how hnf))
        clear HM6
        clear hb how hnf
        have hbx := (MSt.nth (L1 := [_, _, _, _]) HM7.out).box
        obtain ⟨fA10, fA11, fA12, fA13, fA14, fA15, fA16, fA1lt⟩ := box7 hbx
        clear hbx
        have hbx := (MSt.nth (L1 := [_, _, _]) HM7.out).box
        obtain ⟨fA20, fA21, fA22, fA23, fA24, fA25, fA26, fA2lt⟩ := box7 hbx
        clear hbx
        go_wp2_with fail
        have HM8 := Lib.hid (HM7.out.new 28 7 #[.int .i64 x1y0, .int .i64 x1y1, .int .i64 x1y2, .string x1y3, .slice x1y4 x1n4 x1c4, .slice x1y5 x1n5 x1c5, .slice x1y6 x1n6 x1c6] rfl)
        clear HM7
        clear fA10 fA11 fA12 fA13 fA14 fA15 fA16 fA1lt fA20 fA21 fA22 fA23 fA24 fA25 fA26 fA2lt
        refine (toValue_any HD2.out.1 _ _ ((HD2.out.2.2.below (MSt.bel (HM8.out))).more (MSt.size (HM8.out))) HW2.out).mono ?_
        rintro e w9 ⟨csX2, fpX2, rfl, how, hnf, hb⟩
        obtain ⟨x2y0, x2y1, x2y2, x2y3, x2y4, x2n4, x2c4, x2y5, x2n5, x2c5, x2y6, x2n6, x2c6, rfl⟩ := IsVal.form (HD2.out.1) how.read
        have HM9 := Lib.hid (HM8.out.add hb (owA_at how hnf))
        clear HM8
        clear hb how hnf
        have hbx := (MSt.nth (L1 := [_, _, _, _, _, _]) HM9.out).box
        obtain ⟨fA10, fA11, fA12, fA13, fA14, fA15, fA16, fA1lt⟩ := box7 hbx
        clear hbx
        have hbx := (MSt.nth (L1 := [_, _, _, _, _]) HM9.out).box
        obtain ⟨fA20, fA21, fA22, fA23, fA24, fA25, fA26, fA2lt⟩ := box7 hbx
        clear hbx
        have hbx := (MSt.nth (L1 := [_]) HM9.out).box
        obtain ⟨fC10, fC11, fC12, fC13, fC14, fC15, fC16, fC1lt⟩ := box7 hbx
        clear hbx
        go_wp2_with fail
        have HM10 := Lib.hid (HM9.out.new 28 7 #[.int .i64 x2y0, .int .i64 x2y1, .int .i64 x2y2, .string x2y3, .slice x2y4 x2n4 x2c4, .slice x2y5 x2n5 x2c5, .slice x2y6 x2n6 x2c6] rfl)
        clear HM9
        clear fA10 fA11 fA12 fA13 fA14 fA15 fA16 fA1lt fA20 fA21 fA22 fA23 fA24 fA25 fA26 fA2lt fC10 fC11 fC12 fC13 fC14 fC15 fC16 fC1lt
        refine (implAp_any HD1.out.1 HD2.out.1 HW.out _ _ _ (MSt.nth (L1 := [_, _, _]) HM10.out).read (MSt.nth (L1 := [_]) HM10.out).read x0 D HA.out.1).mono ?_
        rintro e w11 ⟨csVq, fpVq, rfl, how, hnf, hb⟩
        obtain ⟨vqy0, vqy1, vqy2, vqy3, vqy4, vqn4, vqc4, vqy5, vqn5, vqc5, vqy6, vqn6, vqc6, rfl⟩ := IsVal.form (HA.out.2.1) how.read
        have HM11 := Lib.hid (HM10.out.add hb (owA_at how hnf))
        clear HM10
        clear hb how hnf
        have hbx := (MSt.nth (L1 := [_, _, _, _, _]) HM11.out).box
        obtain ⟨fBp0, fBp1, fBp2, fBp3, fBp4, fBp5, fBp6, fBplt⟩ := box7 hbx
        clear hbx
        go_wp2_with fail
        have HM12 := Lib.hid (HM11.out.new 28 7 #[.int .i64 vqy0, .int .i64 vqy1, .int .i64 vqy2, .string vqy3, .slice vqy4 vqn4 vqc4, .slice vqy5 vqn5 vqc5, .slice vqy6 vqn6 vqc6] rfl)
        clear HM11
        clear fBp0 fBp1 fBp2 fBp3 fBp4 fBp5 fBp6 fBplt
        refine (eqValue_any HA.out.2.1 HA.out.2.1 _ _ _ (MSt.nth (L1 := [_]) HM12.out).read (MSt.nth (L1 := [_, _, _, _, _, _, _]) HM12.out).read).mono ?_
        rintro e w13 ⟨b, rfl, hbi, hb⟩
        obtain rfl : b = true := hbi.2 rfl
        clear hbi
        have HM13 := Lib.hid (HM12.out.later hb)
        clear HM12
        clear hb
        have hbx := (MSt.nth (L1 := [_, _, _, _]) HM13.out).box
        obtain ⟨fC10, fC11, fC12, fC13, fC14, fC15, fC16, fC1lt⟩ := box7 hbx
        clear hbx
        have hbx := (MSt.nth (L1 := [_, _, _, _, _, _, _, _, _]) HM13.out).box
        obtain ⟨fA10, fA11, fA12, fA13, fA14, fA15, fA16, fA1lt⟩ := box7 hbx
        clear hbx
        go_wp2_with fail
        go_region_held3 (fun w' => w'.cell? ⟨w7.heap.size, 0, none⟩ = some (.int .i64 x1y0) ∧ w'.cell? ⟨w7.heap.size, 1, none⟩ = some (.int .i64 x1y1) ∧ w'.cell? ⟨w7.heap.size, 2, none⟩ = some (.int .i64 x1y2) ∧ w'.cell? ⟨w7.heap.size, 3, none⟩ = some (.string x1y3) ∧ w'.cell? ⟨w7.heap.size, 4, none⟩ = some (.slice x1y4 x1n4 x1c4) ∧ w'.cell? ⟨w7.heap.size, 5, none⟩ = some (.slice x1y5 x1n5 x1c5) ∧ w'.cell? ⟨w7.heap.size, 6, none⟩ = some (.slice x1y6 x1n6 x1c6) ∧ w'.cell? ⟨w.heap.size, 0, none⟩ = some (.int .i64 a1y0) ∧ w'.cell? ⟨w.heap.size, 1, none⟩ = some (.int .i64 a1y1) ∧ w'.cell? ⟨w.heap.size, 2, none⟩ = some (.int .i64 a1y2) ∧ w'.cell? ⟨w.heap.size, 3, none⟩ = some (.string a1y3) ∧ w'.cell? ⟨w.heap.size, 4, none⟩ = some (.slice a1y4 a1n4 a1c4) ∧ w'.cell? ⟨w.heap.size, 5, none⟩ = some (.slice a1y5 a1n5 a1c5) ∧ w'.cell? ⟨w.heap.size, 6, none⟩ = some (.slice a1y6 a1n6 a1c6)) (exact ⟨fC10, fC11, fC12, fC13, fC14, fC15, fC16, fA10, fA11, fA12, fA13, fA14, fA15, fA16⟩)
          (first
            | (
              go_at_call_of 33 (Value.agg #[.int .i64 a1y0, .int .i64 a1y1, .int .i64 a1y2, .string a1y3, .slice a1y4 a1n4 a1c4, .slice a1y5 a1n5 a1c5, .slice a1y6 a1n6 a1c6])
              refine (toValue_any HD1.out.1 _ _ ((HD1.out.2.2.below (MSt.bel (HM13.out.drew))).more (MSt.size (HM13.out.drew))) HW1.out).mono ?_
              rintro e w14 ⟨csN1, fpN1, rfl, how, hnf, hb⟩
              obtain ⟨n1y0, n1y1, n1y2, n1y3, n1y4, n1n4, n1c4, n1y5, n1n5, n1c5, n1y6, n1n6, n1c6, rfl⟩ := IsVal.form (HD1.out.1) how.read
              have HM14 := Lib.hid (HM13.out.drew.add hb (owA_at how hnf))
              clear hb how hnf HM13
              have hbx := (MSt.nth (L1 := [_, _, _, _, _]) HM14.out).box
              obtain ⟨fC10, fC11, fC12, fC13, fC14, fC15, fC16, fC1lt⟩ := box7 hbx
              clear hbx
              have hbx := (MSt.nth (L1 := [_, _, _, _, _, _, _, _, _, _]) HM14.out).box
              obtain ⟨fA10, fA11, fA12, fA13, fA14, fA15, fA16, fA1lt⟩ := box7 hbx
              clear hbx)
            | (
              go_at_call 34
              refine (eqValue_any HD1.out.1 HD1.out.1 _ _ _ (MSt.nth (L1 := [_, _, _, _, _, _]) HM14.out).read HM14.out.read).mono ?_
              rintro e w15 ⟨b, rfl, hbi, hb⟩
              obtain rfl : b = true := hbi.2 rfl
              clear hbi
              have HM15 := Lib.hid (HM14.out.later hb)
              clear HM14
              clear hb
              have hbx := (MSt.nth (L1 := [_, _, _, _, _]) HM15.out).box
              obtain ⟨fC10, fC11, fC12, fC13, fC14, fC15, fC16, fC1lt⟩ := box7 hbx
              clear hbx
              have hbx := (MSt.nth (L1 := [_, _, _, _, _, _, _, _, _, _]) HM15.out).box
              obtain ⟨fA10, fA11, fA12, fA13, fA14, fA15, fA16, fA1lt⟩ := box7 hbx
              clear hbx)
            | fail)
        have HM16 := Lib.hid (MSt.drop HM15.out)
        clear HM15 fC10 fC11 fC12 fC13 fC14 fC15 fC16 fC1lt fA10 fA11 fA12 fA13 fA14 fA15 fA16 fA1lt
        clear fC10 fC11 fC12 fC13 fC14 fC15 fC16 fC1lt fA10 fA11 fA12 fA13 fA14 fA15 fA16 fA1lt
        have hbx := (MSt.nth (L1 := [_, _]) HM16.out).box
        obtain ⟨fC20, fC21, fC22, fC23, fC24, fC25, fC26, fC2lt⟩ := box7 hbx
        clear hbx
        have hbx := (MSt.nth (L1 := [_, _, _, _, _, _, _, _]) HM16.out).box
        obtain ⟨fA20, fA21, fA22, fA23, fA24, fA25, fA26, fA2lt⟩ := box7 hbx
        clear hbx
        go_wp2_with fail
        go_region_held3 (fun w' => w'.cell? ⟨w9.heap.size, 0, none⟩ = some (.int .i64 x2y0) ∧ w'.cell? ⟨w9.heap.size, 1, none⟩ = some (.int .i64 x2y1) ∧ w'.cell? ⟨w9.heap.size, 2, none⟩ = some (.int .i64 x2y2) ∧ w'.cell? ⟨w9.heap.size, 3, none⟩ = some (.string x2y3) ∧ w'.cell? ⟨w9.heap.size, 4, none⟩ = some (.slice x2y4 x2n4 x2c4) ∧ w'.cell? ⟨w9.heap.size, 5, none⟩ = some (.slice x2y5 x2n5 x2c5) ∧ w'.cell? ⟨w9.heap.size, 6, none⟩ = some (.slice x2y6 x2n6 x2c6) ∧ w'.cell? ⟨w.heap.size + 1, 0, none⟩ = some (.int .i64 a2y0) ∧ w'.cell? ⟨w.heap.size + 1, 1, none⟩ = some (.int .i64 a2y1) ∧ w'.cell? ⟨w.heap.size + 1, 2, none⟩ = some (.int .i64 a2y2) ∧ w'.cell? ⟨w.heap.size + 1, 3, none⟩ = some (.string a2y3) ∧ w'.cell? ⟨w.heap.size + 1, 4, none⟩ = some (.slice a2y4 a2n4 a2c4) ∧ w'.cell? ⟨w.heap.size + 1, 5, none⟩ = some (.slice a2y5 a2n5 a2c5) ∧ w'.cell? ⟨w.heap.size + 1, 6, none⟩ = some (.slice a2y6 a2n6 a2c6)) (exact ⟨fC20, fC21, fC22, fC23, fC24, fC25, fC26, fA20, fA21, fA22, fA23, fA24, fA25, fA26⟩)
          (first
            | (
              go_at_call_of 33 (Value.agg #[.int .i64 a2y0, .int .i64 a2y1, .int .i64 a2y2, .string a2y3, .slice a2y4 a2n4 a2c4, .slice a2y5 a2n5 a2c5, .slice a2y6 a2n6 a2c6])
              refine (toValue_any HD2.out.1 _ _ ((HD2.out.2.2.below (MSt.bel (HM16.out.drew))).more (MSt.size (HM16.out.drew))) HW2.out).mono ?_
              rintro e w17 ⟨csN2, fpN2, rfl, how, hnf, hb⟩
              obtain ⟨n2y0, n2y1, n2y2, n2y3, n2y4, n2n4, n2c4, n2y5, n2n5, n2c5, n2y6, n2n6, n2c6, rfl⟩ := IsVal.form (HD2.out.1) how.read
              have HM17 := Lib.hid (HM16.out.drew.add hb (owA_at how hnf))
              clear hb how hnf HM16
              have hbx := (MSt.nth (L1 := [_, _, _]) HM17.out).box
              obtain ⟨fC20, fC21, fC22, fC23, fC24, fC25, fC26, fC2lt⟩ := box7 hbx
              clear hbx
              have hbx := (MSt.nth (L1 := [_, _, _, _, _, _, _, _, _]) HM17.out).box
              obtain ⟨fA20, fA21, fA22, fA23, fA24, fA25, fA26, fA2lt⟩ := box7 hbx
              clear hbx)
            | (
              go_at_call 34
              refine (eqValue_any HD2.out.1 HD2.out.1 _ _ _ (MSt.nth (L1 := [_, _, _, _]) HM17.out).read HM17.out.read).mono ?_
              rintro e w18 ⟨b, rfl, hbi, hb⟩
              obtain rfl : b = true := hbi.2 rfl
              clear hbi
              have HM18 := Lib.hid (HM17.out.later hb)
              clear HM17
              clear hb
              have hbx := (MSt.nth (L1 := [_, _, _]) HM18.out).box
              obtain ⟨fC20, fC21, fC22, fC23, fC24, fC25, fC26, fC2lt⟩ := box7 hbx
              clear hbx
              have hbx := (MSt.nth (L1 := [_, _, _, _, _, _, _, _, _]) HM18.out).box
              obtain ⟨fA20, fA21, fA22, fA23, fA24, fA25, fA26, fA2lt⟩ := box7 hbx
              clear hbx)
            | fail)
        have HM19 := Lib.hid (MSt.drop HM18.out)
        clear HM18 fC20 fC21 fC22 fC23 fC24 fC25 fC26 fC2lt fA20 fA21 fA22 fA23 fA24 fA25 fA26 fA2lt
        clear fC20 fC21 fC22 fC23 fC24 fC25 fC26 fC2lt fA20 fA21 fA22 fA23 fA24 fA25 fA26 fA2lt
        obtain ⟨K0, hK0⟩ : ∃ K, K = 1 + d1.mks := ⟨_, rfl⟩
        have hKb0 : K0 ≤ 16777217 := by have := mks_bd HD1.out.1 (Nat.le_trans HW1.out (by decide)); omega
        have HK0 := Lib.hid hK0
        clear hK0
        have hbx := (MSt.nth (L1 := [_, _, _, _]) HM19.out).box
        obtain ⟨fC10, fC11, fC12, fC13, fC14, fC15, fC16, fC1lt⟩ := box7 hbx
        clear hbx
        go_wp2_with fail
        clear fC10 fC11 fC12 fC13 fC14 fC15 fC16 fC1lt
        refine (markD_any HD1.out.1 HW1.out 1 K0 HK0.out (by omega) _ _ _ (MSt.nth (L1 := [_, _, _, _, _]) HM19.out).objs.out.1 (MSt.nth (L1 := [_, _, _, _, _]) HM19.out).objs.out.2.1).mono ?_
        rintro e w20 ⟨rfl, how, hF⟩
        have HM20 := Lib.hid ((MSt.nth (L1 := [_, _, _, _, _]) HM19.out).mark hF how)
        clear HM19
        clear how hF
        obtain ⟨K1, hK1⟩ : ∃ K, K = K0 + d2.mks := ⟨_, rfl⟩
        have hKb1 : K1 ≤ 33554433 := by have := mks_bd HD2.out.1 (Nat.le_trans HW2.out (by decide)); omega
        have HK1 := Lib.hid hK1
        clear hK1
        have hbx := (MSt.nth (L1 := [_, _, _]) HM20.out).box
        obtain ⟨fC20, fC21, fC22, fC23, fC24, fC25, fC26, fC2lt⟩ := box7 hbx
        clear hbx
        go_wp2_with fail
        clear fC20 fC21 fC22 fC23 fC24 fC25 fC26 fC2lt
        refine (markD_any HD2.out.1 HW2.out K0 K1 HK1.out (by omega) _ _ _ (MSt.nth (L1 := [_, _, _, _]) HM20.out).objs.out.1 (MSt.nth (L1 := [_, _, _, _]) HM20.out).objs.out.2.1).mono ?_
        rintro e w21 ⟨rfl, how, hF⟩
        have HM21 := Lib.hid ((MSt.nth (L1 := [_, _, _, _]) HM20.out).mark hF how)
        clear HM20
        clear how hF
        have hKn : ¬ (K1 : Int) < 0 := by omega
        have hbx := (MSt.nth (L1 := [_, _]) HM21.out).box
        obtain ⟨fBq0, fBq1, fBq2, fBq3, fBq4, fBq5, fBq6, fBqlt⟩ := box7 hbx
        clear hbx
        have hbx := (MSt.nth (L1 := [_, _, _, _, _, _]) HM21.out).box
        obtain ⟨fBp0, fBp1, fBp2, fBp3, fBp4, fBp5, fBp6, fBplt⟩ := box7 hbx
        clear hbx
        go_wp2_with fail
        clear fBq0 fBq1 fBq2 fBq3 fBq4 fBq5 fBq6 fBqlt fBp0 fBp1 fBp2 fBp3 fBp4 fBp5 fBp6 fBplt
        refine (eqValue_any HA.out.2.1 HA.out.2.1 _ _ _ (MSt.nth (L1 := [_, _, _]) HM21.out).read (MSt.nth (L1 := [_, _, _, _, _, _, _]) HM21.out).read).mono ?_
        rintro e w22 ⟨b, rfl, hbi, hb⟩
        obtain rfl : b = true := hbi.2 rfl
        clear hbi
        have HM22 := Lib.hid (HM21.out.later hb)
        clear HM21
        clear hb
        obtain ⟨K, hK⟩ : ∃ K, K = 1 + (D).mks := ⟨_, rfl⟩
        have hKb : K ≤ 16777217 := by have := mks_bd HA.out.2.1 (Nat.le_trans HA.out.2.2 (by decide)); omega
        have HK := Lib.hid hK
        clear hK
        have hKn2 : ¬ (K : Int) < 0 := by omega
        have hKK : ((K : Int) != (K : Int)) = false := by simp
        have hbx := (MSt.nth (L1 := [_, _]) HM22.out).box
        obtain ⟨fBq0, fBq1, fBq2, fBq3, fBq4, fBq5, fBq6, fBqlt⟩ := box7 hbx
        clear hbx
        go_wp2_with fail
        clear fBq0 fBq1 fBq2 fBq3 fBq4 fBq5 fBq6 fBqlt
        refine (markD_any HA.out.2.1 HA.out.2.2 1 K HK.out (by omega) _ _ _ (MSt.nth (L1 := [_, _, _]) HM22.out).objs.out.1 (MSt.nth (L1 := [_, _, _]) HM22.out).objs.out.2.1).mono ?_
        rintro e w23 ⟨rfl, how, hF⟩
        have HM23 := Lib.hid ((MSt.nth (L1 := [_, _, _]) HM22.out).mark hF how)
        clear HM22
        clear how hF
        have hbx := (MSt.nth (L1 := [_, _, _]) HM23.out).box
        obtain ⟨fBq0, fBq1, fBq2, fBq3, fBq4, fBq5, fBq6, fBqlt⟩ := box7 hbx
        clear hbx
        go_wp2_with fail
        clear fBq0 fBq1 fBq2 fBq3 fBq4 fBq5 fBq6 fBqlt
        refine (heldD_any HA.out.2.1 HA.out.2.2 1 K HK.out (by omega) _ _ HM23.out.read).mono ?_
        rintro e w24 ⟨rfl, hb⟩
        have HM24 := Lib.hid (HM23.out.later hb)
        clear HM23
        clear hb
        have hbx := (MSt.nth (L1 := [_, _, _, _, _, _, _, _, _]) HM24.out).box
        obtain ⟨fA10, fA11, fA12, fA13, fA14, fA15, fA16, fA1lt⟩ := box7 hbx
        clear hbx
        have hbx := (MSt.nth (L1 := [_, _, _, _, _, _, _, _]) HM24.out).box
        obtain ⟨fA20, fA21, fA22, fA23, fA24, fA25, fA26, fA2lt⟩ := box7 hbx
        clear hbx
        go_upto_region 31 with fail
        go_cut [15] from 79 to 84 (fun p wx => ∃ (g : Nat) (cs : List Value) (fp : List Nat), p = .pointer (some ⟨g, 0, none⟩) ∧ MSt w (boxA 28 7 g cs :: owA (D) cs fp :: [owA (Dt.mkd 1 (D)) [.int .i64 vqy0, .int .i64 vqy1, .int .i64 vqy2, .string vqy3, .slice vqy4 vqn4 vqc4, .slice vqy5 vqn5 vqc5, .slice vqy6 vqn6 vqc6] fpVq, boxA 28 7 (w11.heap.size) [.int .i64 vqy0, .int .i64 vqy1, .int .i64 vqy2, .string vqy3, .slice vqy4 vqn4 vqc4, .slice vqy5 vqn5 vqc5, .slice vqy6 vqn6 vqc6], boxA 28 7 (gBp) [.int .i64 vpy0, .int .i64 vpy1, .int .i64 vpy2, .string vpy3, .slice vpy4 vpn4 vpc4, .slice vpy5 vpn5 vpc5, .slice vpy6 vpn6 vpc6], owA (D) [.int .i64 vpy0, .int .i64 vpy1, .int .i64 vpy2, .string vpy3, .slice vpy4 vpn4 vpc4, .slice vpy5 vpn5 vpc5, .slice vpy6 vpn6 vpc6] fpVp, boxA 44 7 (w.heap.size + 1) [.int .i64 a2y0, .int .i64 a2y1, .int .i64 a2y2, .string a2y3, .slice a2y4 a2n4 a2c4, .slice a2y5 a2n5 a2c5, .slice a2y6 a2n6 a2c6], boxA 44 7 (w.heap.size) [.int .i64 a1y0, .int .i64 a1y1, .int .i64 a1y2, .string a1y3, .slice a1y4 a1n4 a1c4, .slice a1y5 a1n5 a1c5, .slice a1y6 a1n6 a1c6]]) wx)
        case first =>
          go_region_law (first
            | (
              go_simp
              go_at_call_of 33 (Value.agg #[.int .i64 a1y0, .int .i64 a1y1, .int .i64 a1y2, .string a1y3, .slice a1y4 a1n4 a1c4, .slice a1y5 a1n5 a1c5, .slice a1y6 a1n6 a1c6])
              first | refine (toValue_any HD1.out.1 _ _ ((HD1.out.2.2.below (MSt.bel (HM24.out.drew))).more (MSt.size (HM24.out.drew))) HW1.out).mono ?_ | refine (toValue_any HD1.out.1 _ _ ((HD1.out.2.2.below (MSt.bel (HM24.out.drew.alloc (.cells #[.int .i64 0, .int .i64 0, .int .i64 0, .string ⟨#[]⟩, .slice none 0 0, .slice none 0 0, .slice none 0 0] 28)))).more (MSt.size (HM24.out.drew.alloc (.cells #[.int .i64 0, .int .i64 0, .int .i64 0, .string ⟨#[]⟩, .slice none 0 0, .slice none 0 0, .slice none 0 0] 28)))) HW1.out).mono ?_
              rintro e w25 ⟨csTz1, fpTz1, rfl, how, hnf, hb⟩
              obtain ⟨tz1y0, tz1y1, tz1y2, tz1y3, tz1y4, tz1n4, tz1c4, tz1y5, tz1n5, tz1c5, tz1y6, tz1n6, tz1c6, rfl⟩ := IsVal.form (HD1.out.1) how.read
              first | (have HM25 := Lib.hid (HM24.out.drew.add hb (owA_at how hnf))) | (have HM25 := Lib.hid ((HM24.out.drew.new 28 7 #[.int .i64 0, .int .i64 0, .int .i64 0, .string ⟨#[]⟩, .slice none 0 0, .slice none 0 0, .slice none 0 0] rfl).add hb (owA_at how hnf)))
              have hws25 := hb.size
              first | simp at hws25 | skip
              clear hb how hnf
              have hbx : w25.ownsRow 0 44 7 (.slice (some ⟨w.heap.size, 0, none⟩) 1 1) 1 [.int .i64 a1y0, .int .i64 a1y1, .int .i64 a1y2, .string a1y3, .slice a1y4 a1n4 a1c4, .slice a1y5 a1n5 a1c5, .slice a1y6 a1n6 a1c6] := HM25.out.has (a := boxA 44 7 (w.heap.size) [.int .i64 a1y0, .int .i64 a1y1, .int .i64 a1y2, .string a1y3, .slice a1y4 a1n4 a1c4, .slice a1y5 a1n5 a1c5, .slice a1y6 a1n6 a1c6]) (by simp)
              obtain ⟨fA10, fA11, fA12, fA13, fA14, fA15, fA16, fA1lt⟩ := box7 hbx
              clear hbx
              have hbx : w25.ownsRow 0 44 7 (.slice (some ⟨w.heap.size + 1, 0, none⟩) 1 1) 1 [.int .i64 a2y0, .int .i64 a2y1, .int .i64 a2y2, .string a2y3, .slice a2y4 a2n4 a2c4, .slice a2y5 a2n5 a2c5, .slice a2y6 a2n6 a2c6] := HM25.out.has (a := boxA 44 7 (w.heap.size + 1) [.int .i64 a2y0, .int .i64 a2y1, .int .i64 a2y2, .string a2y3, .slice a2y4 a2n4 a2c4, .slice a2y5 a2n5 a2c5, .slice a2y6 a2n6 a2c6]) (by simp)
              obtain ⟨fA20, fA21, fA22, fA23, fA24, fA25, fA26, fA2lt⟩ := box7 hbx
              clear hbx
              first | (obtain hbz : w25.ownsRow 0 28 7 (.slice (some ⟨w24.heap.size, 0, none⟩) 1 1) 1 [.int .i64 0, .int .i64 0, .int .i64 0, .string ⟨#[]⟩, .slice none 0 0, .slice none 0 0, .slice none 0 0]; (focus (refine HM25.out.has (a := boxA 28 7 w24.heap.size [.int .i64 0, .int .i64 0, .int .i64 0, .string ⟨#[]⟩, .slice none 0 0, .slice none 0 0, .slice none 0 0]) ?_; simp; done)); rename_i hbz; obtain ⟨fZ0, fZ1, fZ2, fZ3, fZ4, fZ5, fZ6, fZlt⟩ := box7 hbz; obtain ⟨fz0, fz1, fz2, fz3, fz4, fz5, fz6⟩ := box7z hbz; clear hbz) | skip)
            | (
              go_simp
              go_at_call_of 33 (Value.agg #[.int .i64 a2y0, .int .i64 a2y1, .int .i64 a2y2, .string a2y3, .slice a2y4 a2n4 a2c4, .slice a2y5 a2n5 a2c5, .slice a2y6 a2n6 a2c6])
              first | refine (toValue_any HD2.out.1 _ _ ((HD2.out.2.2.below (MSt.bel (HM25.out))).more (MSt.size (HM25.out))) HW2.out).mono ?_ | refine (toValue_any HD2.out.1 _ _ ((HD2.out.2.2.below (MSt.bel (HM25.out.alloc (.cells #[.int .i64 0, .int .i64 0, .int .i64 0, .string ⟨#[]⟩, .slice none 0 0, .slice none 0 0, .slice none 0 0] 28)))).more (MSt.size (HM25.out.alloc (.cells #[.int .i64 0, .int .i64 0, .int .i64 0, .string ⟨#[]⟩, .slice none 0 0, .slice none 0 0, .slice none 0 0] 28)))) HW2.out).mono ?_
              rintro e w26 ⟨csTz2, fpTz2, rfl, how, hnf, hb⟩
              obtain ⟨tz2y0, tz2y1, tz2y2, tz2y3, tz2y4, tz2n4, tz2c4, tz2y5, tz2n5, tz2c5, tz2y6, tz2n6, tz2c6, rfl⟩ := IsVal.form (HD2.out.1) how.read
              first | (have HM26 := Lib.hid (HM25.out.add hb (owA_at how hnf))) | (have HM26 := Lib.hid ((HM25.out.new 28 7 #[.int .i64 0, .int .i64 0, .int .i64 0, .string ⟨#[]⟩, .slice none 0 0, .slice none 0 0, .slice none 0 0] rfl).add hb (owA_at how hnf)))
              have hws26 := hb.size
              first | simp at hws26 | skip
              clear hb how hnf
              have hbx : w26.ownsRow 0 44 7 (.slice (some ⟨w.heap.size, 0, none⟩) 1 1) 1 [.int .i64 a1y0, .int .i64 a1y1, .int .i64 a1y2, .string a1y3, .slice a1y4 a1n4 a1c4, .slice a1y5 a1n5 a1c5, .slice a1y6 a1n6 a1c6] := HM26.out.has (a := boxA 44 7 (w.heap.size) [.int .i64 a1y0, .int .i64 a1y1, .int .i64 a1y2, .string a1y3, .slice a1y4 a1n4 a1c4, .slice a1y5 a1n5 a1c5, .slice a1y6 a1n6 a1c6]) (by simp)
              obtain ⟨fA10, fA11, fA12, fA13, fA14, fA15, fA16, fA1lt⟩ := box7 hbx
              clear hbx
              have hbx : w26.ownsRow 0 44 7 (.slice (some ⟨w.heap.size + 1, 0, none⟩) 1 1) 1 [.int .i64 a2y0, .int .i64 a2y1, .int .i64 a2y2, .string a2y3, .slice a2y4 a2n4 a2c4, .slice a2y5 a2n5 a2c5, .slice a2y6 a2n6 a2c6] := HM26.out.has (a := boxA 44 7 (w.heap.size + 1) [.int .i64 a2y0, .int .i64 a2y1, .int .i64 a2y2, .string a2y3, .slice a2y4 a2n4 a2c4, .slice a2y5 a2n5 a2c5, .slice a2y6 a2n6 a2c6]) (by simp)
              obtain ⟨fA20, fA21, fA22, fA23, fA24, fA25, fA26, fA2lt⟩ := box7 hbx
              clear hbx
              first | (obtain hbz : w26.ownsRow 0 28 7 (.slice (some ⟨w24.heap.size, 0, none⟩) 1 1) 1 [.int .i64 0, .int .i64 0, .int .i64 0, .string ⟨#[]⟩, .slice none 0 0, .slice none 0 0, .slice none 0 0]; (focus (refine HM26.out.has (a := boxA 28 7 w24.heap.size [.int .i64 0, .int .i64 0, .int .i64 0, .string ⟨#[]⟩, .slice none 0 0, .slice none 0 0, .slice none 0 0]) ?_; simp; done)); rename_i hbz; obtain ⟨fZ0, fZ1, fZ2, fZ3, fZ4, fZ5, fZ6, fZlt⟩ := box7 hbz; obtain ⟨fz0, fz1, fz2, fz3, fz4, fz5, fz6⟩ := box7z hbz; clear hbz) | skip
              first | (obtain hbz : w26.ownsRow 0 28 7 (.slice (some ⟨w25.heap.size, 0, none⟩) 1 1) 1 [.int .i64 0, .int .i64 0, .int .i64 0, .string ⟨#[]⟩, .slice none 0 0, .slice none 0 0, .slice none 0 0]; (focus (refine HM26.out.has (a := boxA 28 7 w25.heap.size [.int .i64 0, .int .i64 0, .int .i64 0, .string ⟨#[]⟩, .slice none 0 0, .slice none 0 0, .slice none 0 0]) ?_; simp; done)); rename_i hbz; obtain ⟨fZ0, fZ1, fZ2, fZ3, fZ4, fZ5, fZ6, fZlt⟩ := box7 hbz; obtain ⟨fz0, fz1, fz2, fz3, fz4, fz5, fz6⟩ := box7z hbz; clear hbz) | skip)
            | (
              go_simp
              go_at_call 13
              first | refine (implAp_any HD1.out.1 HD2.out.1 HW.out _ _ _ (MSt.has (HM26.out) (a := owA (d1) [.int .i64 tz1y0, .int .i64 tz1y1, .int .i64 tz1y2, .string tz1y3, .slice tz1y4 tz1n4 tz1c4, .slice tz1y5 tz1n5 tz1c5, .slice tz1y6 tz1n6 tz1c6] fpTz1) (by simp)).1.read (MSt.has (HM26.out) (a := owA (d2) [.int .i64 tz2y0, .int .i64 tz2y1, .int .i64 tz2y2, .string tz2y3, .slice tz2y4 tz2n4 tz2c4, .slice tz2y5 tz2n5 tz2c5, .slice tz2y6 tz2n6 tz2c6] fpTz2) (by simp)).1.read x0 D HA.out.1).mono ?_ | refine (implAp_any HD1.out.1 HD2.out.1 HW.out _ _ _ (MSt.has (HM26.out.alloc (.cells #[.int .i64 0, .int .i64 0, .int .i64 0, .string ⟨#[]⟩, .slice none 0 0, .slice none 0 0, .slice none 0 0] 28)) (a := owA (d1) [.int .i64 tz1y0, .int .i64 tz1y1, .int .i64 tz1y2, .string tz1y3, .slice tz1y4 tz1n4 tz1c4, .slice tz1y5 tz1n5 tz1c5, .slice tz1y6 tz1n6 tz1c6] fpTz1) (by simp)).1.read (MSt.has (HM26.out.alloc (.cells #[.int .i64 0, .int .i64 0, .int .i64 0, .string ⟨#[]⟩, .slice none 0 0, .slice none 0 0, .slice none 0 0] 28)) (a := owA (d2) [.int .i64 tz2y0, .int .i64 tz2y1, .int .i64 tz2y2, .string tz2y3, .slice tz2y4 tz2n4 tz2c4, .slice tz2y5 tz2n5 tz2c5, .slice tz2y6 tz2n6 tz2c6] fpTz2) (by simp)).1.read x0 D HA.out.1).mono ?_
              rintro e w27 ⟨csVz, fpVz, rfl, how, hnf, hb⟩
              obtain ⟨vzy0, vzy1, vzy2, vzy3, vzy4, vzn4, vzc4, vzy5, vzn5, vzc5, vzy6, vzn6, vzc6, rfl⟩ := IsVal.form (HA.out.2.1) how.read
              first | (have HM27 := Lib.hid (HM26.out.add hb (owA_at how hnf))) | (have HM27 := Lib.hid ((HM26.out.new 28 7 #[.int .i64 0, .int .i64 0, .int .i64 0, .string ⟨#[]⟩, .slice none 0 0, .slice none 0 0, .slice none 0 0] rfl).add hb (owA_at how hnf)))
              have hws27 := hb.size
              first | simp at hws27 | skip
              clear hb how hnf
              first | (obtain hbz : w27.ownsRow 0 28 7 (.slice (some ⟨w24.heap.size, 0, none⟩) 1 1) 1 [.int .i64 0, .int .i64 0, .int .i64 0, .string ⟨#[]⟩, .slice none 0 0, .slice none 0 0, .slice none 0 0]; (focus (refine HM27.out.has (a := boxA 28 7 w24.heap.size [.int .i64 0, .int .i64 0, .int .i64 0, .string ⟨#[]⟩, .slice none 0 0, .slice none 0 0, .slice none 0 0]) ?_; simp; done)); rename_i hbz; obtain ⟨fZ0, fZ1, fZ2, fZ3, fZ4, fZ5, fZ6, fZlt⟩ := box7 hbz; obtain ⟨fz0, fz1, fz2, fz3, fz4, fz5, fz6⟩ := box7z hbz; clear hbz) | skip
              first | (obtain hbz : w27.ownsRow 0 28 7 (.slice (some ⟨w25.heap.size, 0, none⟩) 1 1) 1 [.int .i64 0, .int .i64 0, .int .i64 0, .string ⟨#[]⟩, .slice none 0 0, .slice none 0 0, .slice none 0 0]; (focus (refine HM27.out.has (a := boxA 28 7 w25.heap.size [.int .i64 0, .int .i64 0, .int .i64 0, .string ⟨#[]⟩, .slice none 0 0, .slice none 0 0, .slice none 0 0]) ?_; simp; done)); rename_i hbz; obtain ⟨fZ0, fZ1, fZ2, fZ3, fZ4, fZ5, fZ6, fZlt⟩ := box7 hbz; obtain ⟨fz0, fz1, fz2, fz3, fz4, fz5, fz6⟩ := box7z hbz; clear hbz) | skip
              first | (obtain hbz : w27.ownsRow 0 28 7 (.slice (some ⟨w26.heap.size, 0, none⟩) 1 1) 1 [.int .i64 0, .int .i64 0, .int .i64 0, .string ⟨#[]⟩, .slice none 0 0, .slice none 0 0, .slice none 0 0]; (focus (refine HM27.out.has (a := boxA 28 7 w26.heap.size [.int .i64 0, .int .i64 0, .int .i64 0, .string ⟨#[]⟩, .slice none 0 0, .slice none 0 0, .slice none 0 0]) ?_; simp; done)); rename_i hbz; obtain ⟨fZ0, fZ1, fZ2, fZ3, fZ4, fZ5, fZ6, fZlt⟩ := box7 hbz; obtain ⟨fz0, fz1, fz2, fz3, fz4, fz5, fz6⟩ := box7z hbz; clear hbz) | skip)
            | fail)
          all_goals
            go_wp2_with fail
            go_meet
            refine ⟨_, [.int .i64 vzy0, .int .i64 vzy1, .int .i64 vzy2, .string vzy3, .slice vzy4 vzn4 vzc4, .slice vzy5 vzn5 vzc5, .slice vzy6 vzn6 vzc6], fpVz, rfl, ?_⟩
            first
              | ((with_reducible have hg := MSt.set7 (e := 28) (MSt.swap HM27.out) [.int .i64 vzy0, .int .i64 vzy1, .int .i64 vzy2, .string vzy3, .slice vzy4 vzn4 vzc4, .slice vzy5 vzn5 vzc5, .slice vzy6 vzn6 vzc6] (by simp)); simp only [World.setCells, Nat.zero_add, Nat.reduceAdd] at hg; (with_reducible exact MSt.sub hg ((.cons_cons _ (.cons_cons _ (.cons _ (.cons _ (.cons_cons _ (.cons _ (.cons _ (.cons_cons _ (.cons _ (.cons _ (.cons_cons _ (.cons_cons _ (.cons_cons _ (.cons_cons _ (List.Sublist.refl _))))))))))))))))))
              | ((with_reducible have hg := MSt.set7 (e := 28) (MSt.at2 HM27.out) [.int .i64 vzy0, .int .i64 vzy1, .int .i64 vzy2, .string vzy3, .slice vzy4 vzn4 vzc4, .slice vzy5 vzn5 vzc5, .slice vzy6 vzn6 vzc6] (by simp)); simp only [World.setCells, Nat.zero_add, Nat.reduceAdd] at hg; (with_reducible exact MSt.sub hg ((.cons_cons _ (.cons_cons _ (.cons _ (.cons _ (.cons_cons _ (.cons _ (.cons _ (.cons_cons _ (.cons _ (.cons _ (.cons_cons _ (.cons_cons _ (.cons_cons _ (.cons_cons _ (List.Sublist.refl _))))))))))))))))))
              | ((with_reducible have hg := MSt.set7 (e := 28) (MSt.at3 HM27.out) [.int .i64 vzy0, .int .i64 vzy1, .int .i64 vzy2, .string vzy3, .slice vzy4 vzn4 vzc4, .slice vzy5 vzn5 vzc5, .slice vzy6 vzn6 vzc6] (by simp)); simp only [World.setCells, Nat.zero_add, Nat.reduceAdd, World.size_drew] at hg; (with_reducible exact MSt.sub hg ((.cons_cons _ (.cons_cons _ (.cons _ (.cons _ (.cons_cons _ (.cons _ (.cons _ (.cons_cons _ (.cons _ (.cons _ (.cons_cons _ (.cons_cons _ (.cons_cons _ (.cons_cons _ (List.Sublist.refl _))))))))))))))))))
              | ((with_reducible exact MSt.sub (HM27.out.new 28 7 #[.int .i64 vzy0, .int .i64 vzy1, .int .i64 vzy2, .string vzy3, .slice vzy4 vzn4 vzc4, .slice vzy5 vzn5 vzc5, .slice vzy6 vzn6 vzc6] rfl) ((.cons_cons _ (.cons_cons _ (.cons _ (.cons _ (.cons_cons _ (.cons _ (.cons _ (.cons_cons _ (.cons _ (.cons _ (.cons_cons _ (.cons_cons _ (.cons_cons _ (.cons_cons _ (List.Sublist.refl _))))))))))))))))))
        case rest =>
          obtain ⟨gBz, csVz, fpVz, rfl, hM⟩ := hcut
          obtain ⟨vzy0, vzy1, vzy2, vzy3, vzy4, vzn4, vzc4, vzy5, vzn5, vzc5, vzy6, vzn6, vzc6, rfl⟩ := IsVal.form (HA.out.2.1) (MSt.nth (L1 := [_]) hM).read
          have HM28 := Lib.hid hM
          clear hM HM24 fA10 fA11 fA12 fA13 fA14 fA15 fA16 fA1lt fA20 fA21 fA22 fA23 fA24 fA25 fA26 fA2lt
          obtain ⟨wrz, rfl⟩ : ∃ wo : World, wo = wc := ⟨_, rfl⟩
          have hbx := HM28.out.box
          obtain ⟨fBz0, fBz1, fBz2, fBz3, fBz4, fBz5, fBz6, fBzlt⟩ := box7 hbx
          clear hbx
          have hbx := (MSt.nth (L1 := [_, _, _, _]) HM28.out).box
          obtain ⟨fBp0, fBp1, fBp2, fBp3, fBp4, fBp5, fBp6, fBplt⟩ := box7 hbx
          clear hbx
          go_wp2_with fail
          clear fBz0 fBz1 fBz2 fBz3 fBz4 fBz5 fBz6 fBzlt fBp0 fBp1 fBp2 fBp3 fBp4 fBp5 fBp6 fBplt
          refine (eqValue_any HA.out.2.1 HA.out.2.1 _ _ _ (MSt.nth (L1 := [_]) HM28.out).read (MSt.nth (L1 := [_, _, _, _, _]) HM28.out).read).mono ?_
          rintro e w29 ⟨b, rfl, hbi, hb⟩
          obtain rfl : b = true := hbi.2 rfl
          clear hbi
          have HM29 := Lib.hid (HM28.out.later hb)
          clear HM28
          clear hb
          have hbx := (MSt.nth (L1 := [_, _, _]) HM29.out).box
          obtain ⟨fBq0, fBq1, fBq2, fBq3, fBq4, fBq5, fBq6, fBqlt⟩ := box7 hbx
          clear hbx
          go_wp2_with fail
          clear fBq0 fBq1 fBq2 fBq3 fBq4 fBq5 fBq6 fBqlt
          refine (heldD_any HA.out.2.1 HA.out.2.2 1 K HK.out (by omega) _ _ (MSt.nth (L1 := [_, _]) HM29.out).read).mono ?_
          rintro e w30 ⟨rfl, hb⟩
          have HM30 := Lib.hid (HM29.out.later hb)
          clear HM29
          clear hb
          go_wp2_with fail
          go_ret
          exact ⟨rfl, HM30.out.bel⟩
end Go.Proofs.YtabcmnlmmpbmnaaGreat
