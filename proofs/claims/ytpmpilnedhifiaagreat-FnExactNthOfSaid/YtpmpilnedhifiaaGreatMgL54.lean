/-
  Texts that the proof rests on, put together: NthLaw.
-/
import Derived.Test.YtpmpilnedhifiaaGreatMgL46
import Derived.Test.YtpmpilnedhifiaaGreatMgL26
import Derived.Test.YtpmpilnedhifiaaGreatMgL8
import Derived.Test.YtpmpilnedhifiaaGreatMgL7
import Derived.Test.YtpmpilnedhifiaaGreatMgL10
import Derived.Deep.RegionLaw
import Derived.Deep.RegionHeld3
import Derived.Outline
/-
  The law FnExactNthOf. (Written by genxlaw.py.)
-/

namespace Go.Proofs.YtpmpilnedhifiaaGreat
open Go.RowKit
set_option linter.unusedVariables false

set_option maxHeartbeats 12800000 in
set_option maxRecDepth 100000 in
theorem fnExactNthOf_walk (w : World) {d0 : Dt} (hd0 : IsVal d0) (hok0 : d0.Ok) (cs0 : List Value) (hr0 : Rd w w.heap.size d0 cs0) {d1 : Dt} (hd1 : IsVal d1) (hok1 : d1.Ok) (cs1 : List Value) (hr1 : Rd w w.heap.size d1 cs1) :
    Calls Tryz.prog 9 #[.agg cs0.toArray, .agg cs1.toArray] w fun e w' => e = .returned (.bool true) ∧ Below w.heap.size w w' := by
  have HD0 := Lib.hid (And.intro hd0 (And.intro hok0 hr0))
  obtain ⟨a0y0, a0y1, a0y2, a0y3, a0y4, a0n4, a0c4, a0y5, a0n5, a0c5, a0y6, a0n6, a0c6, rfl⟩ := hd0.form hr0
  clear hd0 hok0 hr0
  have HD1 := Lib.hid (And.intro hd1 (And.intro hok1 hr1))
  obtain ⟨a1y0, a1y1, a1y2, a1y3, a1y4, a1n4, a1c4, a1y5, a1n5, a1c5, a1y6, a1n6, a1c6, rfl⟩ := hd1.form hr1
  clear hd1 hok1 hr1
  have h0 := ((MSt.start w).new 26 7 #[.int .i64 a0y0, .int .i64 a0y1, .int .i64 a0y2, .string a0y3, .slice a0y4 a0n4 a0c4, .slice a0y5 a0n5 a0c5, .slice a0y6 a0n6 a0c6] rfl).new 26 7 #[.int .i64 a1y0, .int .i64 a1y1, .int .i64 a1y2, .string a1y3, .slice a1y4 a1n4 a1c4, .slice a1y5 a1n5 a1c5, .slice a1y6 a1n6 a1c6] rfl
  simp only [World.size_alloc] at h0
  have HM0 := Lib.hid h0
  clear h0
  go_enter Tryz.func9, Tryz.ntmps9
  go_wp2_with fail
  refine (szVal_any HD0.out.1 _ 1048576 _ ((HD0.out.2.2.below (MSt.bel (HM0.out))).more (MSt.size (HM0.out))) HD0.out.2.1 (by omega) (by omega)).mono ?_
  rintro e w1 ⟨r0, rfl, hr0, hb⟩
  have HM1 := Lib.hid (HM0.out.later hb)
  clear HM0
  clear hb
  have HR0 := Lib.hid hr0
  clear hr0
  have hbx := (MSt.nth (L1 := [_]) HM1.out).box
  obtain ⟨fA00, fA01, fA02, fA03, fA04, fA05, fA06, fA0lt⟩ := box7 hbx
  clear hbx
  have hbx := HM1.out.box
  obtain ⟨fA10, fA11, fA12, fA13, fA14, fA15, fA16, fA1lt⟩ := box7 hbx
  clear hbx
  by_cases hng : r0 < 0
  · go_wp2_with fail
    go_ret
    exact ⟨rfl, HM1.out.bel⟩
  · obtain ⟨l0, rfl⟩ : ∃ l : Nat, r0 = l := ⟨r0.toNat, by omega⟩
    have hle0 : l0 ≤ 1048576 := by have := HR0.out.2; omega
    clear hng
    go_wp2_with fail
    clear fA00 fA01 fA02 fA03 fA04 fA05 fA06 fA0lt fA10 fA11 fA12 fA13 fA14 fA15 fA16 fA1lt
    refine (szVal_any HD1.out.1 _ l0 _ ((HD1.out.2.2.below (MSt.bel (HM1.out))).more (MSt.size (HM1.out))) HD1.out.2.1 (by omega) (by omega)).mono ?_
    rintro e w2 ⟨r1, rfl, hr1, hb⟩
    have HM2 := Lib.hid (HM1.out.later hb)
    clear HM1
    clear hb
    have HR1 := Lib.hid hr1
    clear hr1
    have hbx := (MSt.nth (L1 := [_]) HM2.out).box
    obtain ⟨fA00, fA01, fA02, fA03, fA04, fA05, fA06, fA0lt⟩ := box7 hbx
    clear hbx
    have hbx := HM2.out.box
    obtain ⟨fA10, fA11, fA12, fA13, fA14, fA15, fA16, fA1lt⟩ := box7 hbx
    clear hbx
    by_cases hng : r1 < 0
    · go_wp2_with fail
      go_ret
      exact ⟨rfl, HM2.out.bel⟩
    · obtain ⟨l1, rfl⟩ : ∃ l : Nat, r1 = l := ⟨r1.toNat, by omega⟩
      have hle1 : l1 ≤ 1048576 := by have := HR1.out.2; omega
      clear hng
      have hwt : d0.wt + d1.wt ≤ 1048576 := by have h0 := HR0.out.1 (by omega); have h1 := HR1.out.1 (by omega); omega
      have HW0 := Lib.hid (show d0.wt ≤ 1048576 by omega)
      have HW1 := Lib.hid (show d1.wt ≤ 1048576 by omega)
      have HW := Lib.hid hwt
      clear hwt
      obtain ⟨D, hap⟩ := two_some nthD d0 d1
      have HA := Lib.hid (And.intro hap (And.intro (hap.val (isVal_nthD d0 HD1.out.1)) (Nat.le_trans (hap.wt (wt_nthD d0 HD1.out.1)) HW.out)))
      clear hap
      go_upto_region 8 with fail
      go_cut [6] from 24 to 29 (fun p wx => ∃ (g : Nat) (cs : List Value) (fp : List Nat), p = .pointer (some ⟨g, 0, none⟩) ∧ MSt w (boxA 32 7 g cs :: owA (D) cs fp :: [boxA 26 7 (w.heap.size + 1) [.int .i64 a1y0, .int .i64 a1y1, .int .i64 a1y2, .string a1y3, .slice a1y4 a1n4 a1c4, .slice a1y5 a1n5 a1c5, .slice a1y6 a1n6 a1c6], boxA 26 7 (w.heap.size) [.int .i64 a0y0, .int .i64 a0y1, .int .i64 a0y2, .string a0y3, .slice a0y4 a0n4 a0c4, .slice a0y5 a0n5 a0c5, .slice a0y6 a0n6 a0c6]]) wx)
      case first =>
        go_region_law (first
          | (
            go_simp
            go_at_call_of 17 (Value.agg #[.int .i64 a0y0, .int .i64 a0y1, .int .i64 a0y2, .string a0y3, .slice a0y4 a0n4 a0c4, .slice a0y5 a0n5 a0c5, .slice a0y6 a0n6 a0c6])
            first | refine (toValue_any HD0.out.1 _ _ ((HD0.out.2.2.below (MSt.bel (HM2.out.drew))).more (MSt.size (HM2.out.drew))) HW0.out).mono ?_ | refine (toValue_any HD0.out.1 _ _ ((HD0.out.2.2.below (MSt.bel (HM2.out.drew.alloc (.cells #[.int .i64 0, .int .i64 0, .int .i64 0, .string ⟨#[]⟩, .slice none 0 0, .slice none 0 0, .slice none 0 0] 32)))).more (MSt.size (HM2.out.drew.alloc (.cells #[.int .i64 0, .int .i64 0, .int .i64 0, .string ⟨#[]⟩, .slice none 0 0, .slice none 0 0, .slice none 0 0] 32)))) HW0.out).mono ?_
            rintro e w3 ⟨csTp0, fpTp0, rfl, how, hnf, hb⟩
            obtain ⟨tp0y0, tp0y1, tp0y2, tp0y3, tp0y4, tp0n4, tp0c4, tp0y5, tp0n5, tp0c5, tp0y6, tp0n6, tp0c6, rfl⟩ := IsVal.form (HD0.out.1) how.read
            first | (have HM3 := Lib.hid (HM2.out.drew.add hb (owA_at how hnf))) | (have HM3 := Lib.hid ((HM2.out.drew.new 32 7 #[.int .i64 0, .int .i64 0, .int .i64 0, .string ⟨#[]⟩, .slice none 0 0, .slice none 0 0, .slice none 0 0] rfl).add hb (owA_at how hnf)))
            have hws3 := hb.size
            first | simp at hws3 | skip
            clear hb how hnf
            have hbx : w3.ownsRow 0 26 7 (.slice (some ⟨w.heap.size, 0, none⟩) 1 1) 1 [.int .i64 a0y0, .int .i64 a0y1, .int .i64 a0y2, .string a0y3, .slice a0y4 a0n4 a0c4, .slice a0y5 a0n5 a0c5, .slice a0y6 a0n6 a0c6] := HM3.out.has (a := boxA 26 7 (w.heap.size) [.int .i64 a0y0, .int .i64 a0y1, .int .i64 a0y2, .string a0y3, .slice a0y4 a0n4 a0c4, .slice a0y5 a0n5 a0c5, .slice a0y6 a0n6 a0c6]) (by simp)
            obtain ⟨fA00, fA01, fA02, fA03, fA04, fA05, fA06, fA0lt⟩ := box7 hbx
            clear hbx
            have hbx : w3.ownsRow 0 26 7 (.slice (some ⟨w.heap.size + 1, 0, none⟩) 1 1) 1 [.int .i64 a1y0, .int .i64 a1y1, .int .i64 a1y2, .string a1y3, .slice a1y4 a1n4 a1c4, .slice a1y5 a1n5 a1c5, .slice a1y6 a1n6 a1c6] := HM3.out.has (a := boxA 26 7 (w.heap.size + 1) [.int .i64 a1y0, .int .i64 a1y1, .int .i64 a1y2, .string a1y3, .slice a1y4 a1n4 a1c4, .slice a1y5 a1n5 a1c5, .slice a1y6 a1n6 a1c6]) (by simp)
            obtain ⟨fA10, fA11, fA12, fA13, fA14, fA15, fA16, fA1lt⟩ := box7 hbx
            clear hbx
            first | (obtain hbz : w3.ownsRow 0 32 7 (.slice (some ⟨w2.heap.size, 0, none⟩) 1 1) 1 [.int .i64 0, .int .i64 0, .int .i64 0, .string ⟨#[]⟩, .slice none 0 0, .slice none 0 0, .slice none 0 0]; (focus (refine HM3.out.has (a := boxA 32 7 w2.heap.size [.int .i64 0, .int .i64 0, .int .i64 0, .string ⟨#[]⟩, .slice none 0 0, .slice none 0 0, .slice none 0 0]) ?_; simp; done)); rename_i hbz; obtain ⟨fZ0, fZ1, fZ2, fZ3, fZ4, fZ5, fZ6, fZlt⟩ := box7 hbz; obtain ⟨fz0, fz1, fz2, fz3, fz4, fz5, fz6⟩ := box7z hbz; clear hbz) | skip)
          | (
            go_simp
            go_at_call_of 17 (Value.agg #[.int .i64 a1y0, .int .i64 a1y1, .int .i64 a1y2, .string a1y3, .slice a1y4 a1n4 a1c4, .slice a1y5 a1n5 a1c5, .slice a1y6 a1n6 a1c6])
            first | refine (toValue_any HD1.out.1 _ _ ((HD1.out.2.2.below (MSt.bel (HM3.out))).more (MSt.size (HM3.out))) HW1.out).mono ?_ | refine (toValue_any HD1.out.1 _ _ ((HD1.out.2.2.below (MSt.bel (HM3.out.alloc (.cells #[.int .i64 0, .int .i64 0, .int .i64 0, .string ⟨#[]⟩, .slice none 0 0, .slice none 0 0, .slice none 0 0] 32)))).more (MSt.size (HM3.out.alloc (.cells #[.int .i64 0, .int .i64 0, .int .i64 0, .string ⟨#[]⟩, .slice none 0 0, .slice none 0 0, .slice none 0 0] 32)))) HW1.out).mono ?_
            rintro e w4 ⟨csTp1, fpTp1, rfl, how, hnf, hb⟩
            obtain ⟨tp1y0, tp1y1, tp1y2, tp1y3, tp1y4, tp1n4, tp1c4, tp1y5, tp1n5, tp1c5, tp1y6, tp1n6, tp1c6, rfl⟩ := IsVal.form (HD1.out.1) how.read
            first | (have HM4 := Lib.hid (HM3.out.add hb (owA_at how hnf))) | (have HM4 := Lib.hid ((HM3.out.new 32 7 #[.int .i64 0, .int .i64 0, .int .i64 0, .string ⟨#[]⟩, .slice none 0 0, .slice none 0 0, .slice none 0 0] rfl).add hb (owA_at how hnf)))
            have hws4 := hb.size
            first | simp at hws4 | skip
            clear hb how hnf
            have hbx : w4.ownsRow 0 26 7 (.slice (some ⟨w.heap.size, 0, none⟩) 1 1) 1 [.int .i64 a0y0, .int .i64 a0y1, .int .i64 a0y2, .string a0y3, .slice a0y4 a0n4 a0c4, .slice a0y5 a0n5 a0c5, .slice a0y6 a0n6 a0c6] := HM4.out.has (a := boxA 26 7 (w.heap.size) [.int .i64 a0y0, .int .i64 a0y1, .int .i64 a0y2, .string a0y3, .slice a0y4 a0n4 a0c4, .slice a0y5 a0n5 a0c5, .slice a0y6 a0n6 a0c6]) (by simp)
            obtain ⟨fA00, fA01, fA02, fA03, fA04, fA05, fA06, fA0lt⟩ := box7 hbx
            clear hbx
            have hbx : w4.ownsRow 0 26 7 (.slice (some ⟨w.heap.size + 1, 0, none⟩) 1 1) 1 [.int .i64 a1y0, .int .i64 a1y1, .int .i64 a1y2, .string a1y3, .slice a1y4 a1n4 a1c4, .slice a1y5 a1n5 a1c5, .slice a1y6 a1n6 a1c6] := HM4.out.has (a := boxA 26 7 (w.heap.size + 1) [.int .i64 a1y0, .int .i64 a1y1, .int .i64 a1y2, .string a1y3, .slice a1y4 a1n4 a1c4, .slice a1y5 a1n5 a1c5, .slice a1y6 a1n6 a1c6]) (by simp)
            obtain ⟨fA10, fA11, fA12, fA13, fA14, fA15, fA16, fA1lt⟩ := box7 hbx
            clear hbx
            first | (obtain hbz : w4.ownsRow 0 32 7 (.slice (some ⟨w2.heap.size, 0, none⟩) 1 1) 1 [.int .i64 0, .int .i64 0, .int .i64 0, .string ⟨#[]⟩, .slice none 0 0, .slice none 0 0, .slice none 0 0]; (focus (refine HM4.out.has (a := boxA 32 7 w2.heap.size [.int .i64 0, .int .i64 0, .int .i64 0, .string ⟨#[]⟩, .slice none 0 0, .slice none 0 0, .slice none 0 0]) ?_; simp; done)); rename_i hbz; obtain ⟨fZ0, fZ1, fZ2, fZ3, fZ4, fZ5, fZ6, fZlt⟩ := box7 hbz; obtain ⟨fz0, fz1, fz2, fz3, fz4, fz5, fz6⟩ := box7z hbz; clear hbz) | skip
            first | (obtain hbz : w4.ownsRow 0 32 7 (.slice (some ⟨w3.heap.size, 0, none⟩) 1 1) 1 [.int .i64 0, .int .i64 0, .int .i64 0, .string ⟨#[]⟩, .slice none 0 0, .slice none 0 0, .slice none 0 0]; (focus (refine HM4.out.has (a := boxA 32 7 w3.heap.size [.int .i64 0, .int .i64 0, .int .i64 0, .string ⟨#[]⟩, .slice none 0 0, .slice none 0 0, .slice none 0 0]) ?_; simp; done)); rename_i hbz; obtain ⟨fZ0, fZ1, fZ2, fZ3, fZ4, fZ5, fZ6, fZlt⟩ := box7 hbz; obtain ⟨fz0, fz1, fz2, fz3, fz4, fz5, fz6⟩ := box7z hbz; clear hbz) | skip)
          | (
            go_simp
            go_at_call 34
            first | refine (specNth_any HD0.out.1 HD1.out.1 HW.out _ _ _ (MSt.has (HM4.out) (a := owA (d0) [.int .i64 tp0y0, .int .i64 tp0y1, .int .i64 tp0y2, .string tp0y3, .slice tp0y4 tp0n4 tp0c4, .slice tp0y5 tp0n5 tp0c5, .slice tp0y6 tp0n6 tp0c6] fpTp0) (by simp)).1.read (MSt.has (HM4.out) (a := owA (d1) [.int .i64 tp1y0, .int .i64 tp1y1, .int .i64 tp1y2, .string tp1y3, .slice tp1y4 tp1n4 tp1c4, .slice tp1y5 tp1n5 tp1c5, .slice tp1y6 tp1n6 tp1c6] fpTp1) (by simp)).1.read D HA.out.1).mono ?_ | refine (specNth_any HD0.out.1 HD1.out.1 HW.out _ _ _ (MSt.has (HM4.out.alloc (.cells #[.int .i64 0, .int .i64 0, .int .i64 0, .string ⟨#[]⟩, .slice none 0 0, .slice none 0 0, .slice none 0 0] 32)) (a := owA (d0) [.int .i64 tp0y0, .int .i64 tp0y1, .int .i64 tp0y2, .string tp0y3, .slice tp0y4 tp0n4 tp0c4, .slice tp0y5 tp0n5 tp0c5, .slice tp0y6 tp0n6 tp0c6] fpTp0) (by simp)).1.read (MSt.has (HM4.out.alloc (.cells #[.int .i64 0, .int .i64 0, .int .i64 0, .string ⟨#[]⟩, .slice none 0 0, .slice none 0 0, .slice none 0 0] 32)) (a := owA (d1) [.int .i64 tp1y0, .int .i64 tp1y1, .int .i64 tp1y2, .string tp1y3, .slice tp1y4 tp1n4 tp1c4, .slice tp1y5 tp1n5 tp1c5, .slice tp1y6 tp1n6 tp1c6] fpTp1) (by simp)).1.read D HA.out.1).mono ?_
            rintro e w5 ⟨csVp, fpVp, rfl, how, hnf, hb⟩
            obtain ⟨vpy0, vpy1, vpy2, vpy3, vpy4, vpn4, vpc4, vpy5, vpn5, vpc5, vpy6, vpn6, vpc6, rfl⟩ := IsVal.form (HA.out.2.1) how.read
            first | (have HM5 := Lib.hid (HM4.out.add hb (owA_at how hnf))) | (have HM5 := Lib.hid ((HM4.out.new 32 7 #[.int .i64 0, .int .i64 0, .int .i64 0, .string ⟨#[]⟩, .slice none 0 0, .slice none 0 0, .slice none 0 0] rfl).add hb (owA_at how hnf)))
            have hws5 := hb.size
            first | simp at hws5 | skip
            clear hb how hnf
            first | (obtain hbz : w5.ownsRow 0 32 7 (.slice (some ⟨w2.heap.size, 0, none⟩) 1 1) 1 [.int .i64 0, .int .i64 0, .int .i64 0, .string ⟨#[]⟩, .slice none 0 0, .slice none 0 0, .slice none 0 0]; (focus (refine HM5.out.has (a := boxA 32 7 w2.heap.size [.int .i64 0, .int .i64 0, .int .i64 0, .string ⟨#[]⟩, .slice none 0 0, .slice none 0 0, .slice none 0 0]) ?_; simp; done)); rename_i hbz; obtain ⟨fZ0, fZ1, fZ2, fZ3, fZ4, fZ5, fZ6, fZlt⟩ := box7 hbz; obtain ⟨fz0, fz1, fz2, fz3, fz4, fz5, fz6⟩ := box7z hbz; clear hbz) | skip
            first | (obtain hbz : w5.ownsRow 0 32 7 (.slice (some ⟨w3.heap.size, 0, none⟩) 1 1) 1 [.int .i64 0, .int .i64 0, .int .i64 0, .string ⟨#[]⟩, .slice none 0 0, .slice none 0 0, .slice none 0 0]; (focus (refine HM5.out.has (a := boxA 32 7 w3.heap.size [.int .i64 0, .int .i64 0, .int .i64 0, .string ⟨#[]⟩, .slice none 0 0, .slice none 0 0, .slice none 0 0]) ?_; simp; done)); rename_i hbz; obtain ⟨fZ0, fZ1, fZ2, fZ3, fZ4, fZ5, fZ6, fZlt⟩ := box7 hbz; obtain ⟨fz0, fz1, fz2, fz3, fz4, fz5, fz6⟩ := box7z hbz; clear hbz) | skip
            first | (obtain hbz : w5.ownsRow 0 32 7 (.slice (some ⟨w4.heap.size, 0, none⟩) 1 1) 1 [.int .i64 0, .int .i64 0, .int .i64 0, .string ⟨#[]⟩, .slice none 0 0, .slice none 0 0, .slice none 0 0]; (focus (refine HM5.out.has (a := boxA 32 7 w4.heap.size [.int .i64 0, .int .i64 0, .int .i64 0, .string ⟨#[]⟩, .slice none 0 0, .slice none 0 0, .slice none 0 0]) ?_; simp; done)); rename_i hbz; obtain ⟨fZ0, fZ1, fZ2, fZ3, fZ4, fZ5, fZ6, fZlt⟩ := box7 hbz; obtain ⟨fz0, fz1, fz2, fz3, fz4, fz5, fz6⟩ := box7z hbz; clear hbz) | skip)
          | fail)
        all_goals
          go_wp2_with fail
          go_meet
          refine ⟨_, [.int .i64 vpy0, .int .i64 vpy1, .int .i64 vpy2, .string vpy3, .slice vpy4 vpn4 vpc4, .slice vpy5 vpn5 vpc5, .slice vpy6 vpn6 vpc6], fpVp, rfl, ?_⟩
          first
            | ((with_reducible have hg := MSt.set7 (e := 32) (MSt.swap HM5.out) [.int .i64 vpy0, .int .i64 vpy1, .int .i64 vpy2, .string vpy3, .slice vpy4 vpn4 vpc4, .slice vpy5 vpn5 vpc5, .slice vpy6 vpn6 vpc6] (by simp)); simp only [World.setCells, Nat.zero_add, Nat.reduceAdd] at hg; (with_reducible exact MSt.sub hg ((.cons_cons _ (.cons_cons _ (.cons _ (.cons _ (List.Sublist.refl _))))))))
            | ((with_reducible have hg := MSt.set7 (e := 32) (MSt.at2 HM5.out) [.int .i64 vpy0, .int .i64 vpy1, .int .i64 vpy2, .string vpy3, .slice vpy4 vpn4 vpc4, .slice vpy5 vpn5 vpc5, .slice vpy6 vpn6 vpc6] (by simp)); simp only [World.setCells, Nat.zero_add, Nat.reduceAdd] at hg; (with_reducible exact MSt.sub hg ((.cons_cons _ (.cons_cons _ (.cons _ (.cons _ (List.Sublist.refl _))))))))
            | ((with_reducible have hg := MSt.set7 (e := 32) (MSt.at3 HM5.out) [.int .i64 vpy0, .int .i64 vpy1, .int .i64 vpy2, .string vpy3, .slice vpy4 vpn4 vpc4, .slice vpy5 vpn5 vpc5, .slice vpy6 vpn6 vpc6] (by simp)); simp only [World.setCells, Nat.zero_add, Nat.reduceAdd, World.size_drew] at hg; (with_reducible exact MSt.sub hg ((.cons_cons _ (.cons_cons _ (.cons _ (.cons _ (List.Sublist.refl _))))))))
            | ((with_reducible exact MSt.sub (HM5.out.new 32 7 #[.int .i64 vpy0, .int .i64 vpy1, .int .i64 vpy2, .string vpy3, .slice vpy4 vpn4 vpc4, .slice vpy5 vpn5 vpc5, .slice vpy6 vpn6 vpc6] rfl) ((.cons_cons _ (.cons_cons _ (.cons _ (.cons _ (List.Sublist.refl _))))))))
      case rest =>
        obtain ⟨gBp, csVp, fpVp, rfl, hM⟩ := hcut
        obtain ⟨vpy0, vpy1, vpy2, vpy3, vpy4, vpn4, vpc4, vpy5, vpn5, vpc5, vpy6, vpn6, vpc6, rfl⟩ := IsVal.form (HA.out.2.1) (MSt.nth (L1 := [_]) hM).read
        have HM6 := Lib.hid hM
        clear hM HM2 fA00 fA01 fA02 fA03 fA04 fA05 fA06 fA0lt fA10 fA11 fA12 fA13 fA14 fA15 fA16 fA1lt
        obtain ⟨wrp, rfl⟩ : ∃ wo : World, wo = wc := ⟨_, rfl⟩
        have hbx := (MSt.nth (L1 := [_, _, _]) HM6.out).box
        obtain ⟨fA00, fA01, fA02, fA03, fA04, fA05, fA06, fA0lt⟩ := box7 hbx
        clear hbx
        have hbx := (MSt.nth (L1 := [_, _]) HM6.out).box
        obtain ⟨fA10, fA11, fA12, fA13, fA14, fA15, fA16, fA1lt⟩ := box7 hbx
        clear hbx
        go_wp2_with fail
        clear fA00 fA01 fA02 fA03 fA04 fA05 fA06 fA0lt fA10 fA11 fA12 fA13 fA14 fA15 fA16 fA1lt
        refine (toValue_any HD0.out.1 _ _ ((HD0.out.2.2.below (MSt.bel (HM6.out))).more (MSt.size (HM6.out))) HW0.out).mono ?_
        rintro e w7 ⟨csX0, fpX0, rfl, how, hnf, hb⟩
        obtain ⟨x0y0, x0y1, x0y2, x0y3, x0y4, x0n4, x0c4, x0y5, x0n5, x0c5, x0y6, x0n6, x0c6, rfl⟩ := IsVal.form (HD0.out.1) how.read
        have HM7 := Lib.hid (HM6.out.add hb (owA_at how hnf))
        clear HM6
        clear hb how hnf
        have hbx := (MSt.nth (L1 := [_, _, _, _]) HM7.out).box
        obtain ⟨fA00, fA01, fA02, fA03, fA04, fA05, fA06, fA0lt⟩ := box7 hbx
        clear hbx
        have hbx := (MSt.nth (L1 := [_, _, _]) HM7.out).box
        obtain ⟨fA10, fA11, fA12, fA13, fA14, fA15, fA16, fA1lt⟩ := box7 hbx
        clear hbx
        go_wp2_with fail
        have HM8 := Lib.hid (HM7.out.new 32 7 #[.int .i64 x0y0, .int .i64 x0y1, .int .i64 x0y2, .string x0y3, .slice x0y4 x0n4 x0c4, .slice x0y5 x0n5 x0c5, .slice x0y6 x0n6 x0c6] rfl)
        clear HM7
        clear fA00 fA01 fA02 fA03 fA04 fA05 fA06 fA0lt fA10 fA11 fA12 fA13 fA14 fA15 fA16 fA1lt
        refine (toValue_any HD1.out.1 _ _ ((HD1.out.2.2.below (MSt.bel (HM8.out))).more (MSt.size (HM8.out))) HW1.out).mono ?_
        rintro e w9 ⟨csX1, fpX1, rfl, how, hnf, hb⟩
        obtain ⟨x1y0, x1y1, x1y2, x1y3, x1y4, x1n4, x1c4, x1y5, x1n5, x1c5, x1y6, x1n6, x1c6, rfl⟩ := IsVal.form (HD1.out.1) how.read
        have HM9 := Lib.hid (HM8.out.add hb (owA_at how hnf))
        clear HM8
        clear hb how hnf
        have hbx := (MSt.nth (L1 := [_, _, _, _, _, _]) HM9.out).box
        obtain ⟨fA00, fA01, fA02, fA03, fA04, fA05, fA06, fA0lt⟩ := box7 hbx
        clear hbx
        have hbx := (MSt.nth (L1 := [_, _, _, _, _]) HM9.out).box
        obtain ⟨fA10, fA11, fA12, fA13, fA14, fA15, fA16, fA1lt⟩ := box7 hbx
        clear hbx
        have hbx := (MSt.nth (L1 := [_]) HM9.out).box
        obtain ⟨fC00, fC01, fC02, fC03, fC04, fC05, fC06, fC0lt⟩ := box7 hbx
        clear hbx
        go_wp2_with fail
        have HM10 := Lib.hid (HM9.out.new 32 7 #[.int .i64 x1y0, .int .i64 x1y1, .int .i64 x1y2, .string x1y3, .slice x1y4 x1n4 x1c4, .slice x1y5 x1n5 x1c5, .slice x1y6 x1n6 x1c6] rfl)
        clear HM9
        clear fA00 fA01 fA02 fA03 fA04 fA05 fA06 fA0lt fA10 fA11 fA12 fA13 fA14 fA15 fA16 fA1lt fC00 fC01 fC02 fC03 fC04 fC05 fC06 fC0lt
        refine (implNth_any HD0.out.1 HD1.out.1 HW.out _ _ _ (MSt.nth (L1 := [_, _, _]) HM10.out).read (MSt.nth (L1 := [_]) HM10.out).read D HA.out.1).mono ?_
        rintro e w11 ⟨csVq, fpVq, rfl, how, hnf, hb⟩
        obtain ⟨vqy0, vqy1, vqy2, vqy3, vqy4, vqn4, vqc4, vqy5, vqn5, vqc5, vqy6, vqn6, vqc6, rfl⟩ := IsVal.form (HA.out.2.1) how.read
        have HM11 := Lib.hid (HM10.out.add hb (owA_at how hnf))
        clear HM10
        clear hb how hnf
        have hbx := (MSt.nth (L1 := [_, _, _, _, _]) HM11.out).box
        obtain ⟨fBp0, fBp1, fBp2, fBp3, fBp4, fBp5, fBp6, fBplt⟩ := box7 hbx
        clear hbx
        go_wp2_with fail
        have HM12 := Lib.hid (HM11.out.new 32 7 #[.int .i64 vqy0, .int .i64 vqy1, .int .i64 vqy2, .string vqy3, .slice vqy4 vqn4 vqc4, .slice vqy5 vqn5 vqc5, .slice vqy6 vqn6 vqc6] rfl)
        clear HM11
        clear fBp0 fBp1 fBp2 fBp3 fBp4 fBp5 fBp6 fBplt
        refine (eqValue_any HA.out.2.1 HA.out.2.1 _ _ _ (MSt.nth (L1 := [_]) HM12.out).read (MSt.nth (L1 := [_, _, _, _, _, _, _]) HM12.out).read).mono ?_
        rintro e w13 ⟨b, rfl, hbi, hb⟩
        obtain rfl : b = true := hbi.2 rfl
        clear hbi
        have HM13 := Lib.hid (HM12.out.later hb)
        clear HM12
        clear hb
        have hbx := (MSt.nth (L1 := [_, _, _, _]) HM13.out).box
        obtain ⟨fC00, fC01, fC02, fC03, fC04, fC05, fC06, fC0lt⟩ := box7 hbx
        clear hbx
        have hbx := (MSt.nth (L1 := [_, _, _, _, _, _, _, _, _]) HM13.out).box
        obtain ⟨fA00, fA01, fA02, fA03, fA04, fA05, fA06, fA0lt⟩ := box7 hbx
        clear hbx
        go_wp2_with fail
        go_region_held3 (fun w' => w'.cell? ⟨w7.heap.size, 0, none⟩ = some (.int .i64 x0y0) ∧ w'.cell? ⟨w7.heap.size, 1, none⟩ = some (.int .i64 x0y1) ∧ w'.cell? ⟨w7.heap.size, 2, none⟩ = some (.int .i64 x0y2) ∧ w'.cell? ⟨w7.heap.size, 3, none⟩ = some (.string x0y3) ∧ w'.cell? ⟨w7.heap.size, 4, none⟩ = some (.slice x0y4 x0n4 x0c4) ∧ w'.cell? ⟨w7.heap.size, 5, none⟩ = some (.slice x0y5 x0n5 x0c5) ∧ w'.cell? ⟨w7.heap.size, 6, none⟩ = some (.slice x0y6 x0n6 x0c6) ∧ w'.cell? ⟨w.heap.size, 0, none⟩ = some (.int .i64 a0y0) ∧ w'.cell? ⟨w.heap.size, 1, none⟩ = some (.int .i64 a0y1) ∧ w'.cell? ⟨w.heap.size, 2, none⟩ = some (.int .i64 a0y2) ∧ w'.cell? ⟨w.heap.size, 3, none⟩ = some (.string a0y3) ∧ w'.cell? ⟨w.heap.size, 4, none⟩ = some (.slice a0y4 a0n4 a0c4) ∧ w'.cell? ⟨w.heap.size, 5, none⟩ = some (.slice a0y5 a0n5 a0c5) ∧ w'.cell? ⟨w.heap.size, 6, none⟩ = some (.slice a0y6 a0n6 a0c6)) (exact ⟨fC00, fC01, fC02, fC03, fC04, fC05, fC06, fA00, fA01, fA02, fA03, fA04, fA05, fA06⟩)
          (first
            | (
              go_at_call_of 17 (Value.agg #[.int .i64 a0y0, .int .i64 a0y1, .int .i64 a0y2, .string a0y3, .slice a0y4 a0n4 a0c4, .slice a0y5 a0n5 a0c5, .slice a0y6 a0n6 a0c6])
              refine (toValue_any HD0.out.1 _ _ ((HD0.out.2.2.below (MSt.bel (HM13.out.drew))).more (MSt.size (HM13.out.drew))) HW0.out).mono ?_
              rintro e w14 ⟨csN0, fpN0, rfl, how, hnf, hb⟩
              obtain ⟨n0y0, n0y1, n0y2, n0y3, n0y4, n0n4, n0c4, n0y5, n0n5, n0c5, n0y6, n0n6, n0c6, rfl⟩ := IsVal.form (HD0.out.1) how.read
              have HM14 := Lib.hid (HM13.out.drew.add hb (owA_at how hnf))
              clear hb how hnf HM13
              have hbx := (MSt.nth (L1 := [_, _, _, _, _]) HM14.out).box
              obtain ⟨fC00, fC01, fC02, fC03, fC04, fC05, fC06, fC0lt⟩ := box7 hbx
              clear hbx
              have hbx := (MSt.nth (L1 := [_, _, _, _, _, _, _, _, _, _]) HM14.out).box
              obtain ⟨fA00, fA01, fA02, fA03, fA04, fA05, fA06, fA0lt⟩ := box7 hbx
              clear hbx)
            | (
              go_at_call 19
              refine (eqValue_any HD0.out.1 HD0.out.1 _ _ _ (MSt.nth (L1 := [_, _, _, _, _, _]) HM14.out).read HM14.out.read).mono ?_
              rintro e w15 ⟨b, rfl, hbi, hb⟩
              obtain rfl : b = true := hbi.2 rfl
              clear hbi
              have HM15 := Lib.hid (HM14.out.later hb)
              clear HM14
              clear hb
              have hbx := (MSt.nth (L1 := [_, _, _, _, _]) HM15.out).box
              obtain ⟨fC00, fC01, fC02, fC03, fC04, fC05, fC06, fC0lt⟩ := box7 hbx
              clear hbx
              have hbx := (MSt.nth (L1 := [_, _, _, _, _, _, _, _, _, _]) HM15.out).box
              obtain ⟨fA00, fA01, fA02, fA03, fA04, fA05, fA06, fA0lt⟩ := box7 hbx
              clear hbx)
            | fail)
        have HM16 := Lib.hid (MSt.drop HM15.out)
        clear HM15 fC00 fC01 fC02 fC03 fC04 fC05 fC06 fC0lt fA00 fA01 fA02 fA03 fA04 fA05 fA06 fA0lt
        clear fC00 fC01 fC02 fC03 fC04 fC05 fC06 fC0lt fA00 fA01 fA02 fA03 fA04 fA05 fA06 fA0lt
        have hbx := (MSt.nth (L1 := [_, _]) HM16.out).box
        obtain ⟨fC10, fC11, fC12, fC13, fC14, fC15, fC16, fC1lt⟩ := box7 hbx
        clear hbx
        have hbx := (MSt.nth (L1 := [_, _, _, _, _, _, _, _]) HM16.out).box
        obtain ⟨fA10, fA11, fA12, fA13, fA14, fA15, fA16, fA1lt⟩ := box7 hbx
        clear hbx
        go_wp2_with fail
        go_region_held3 (fun w' => w'.cell? ⟨w9.heap.size, 0, none⟩ = some (.int .i64 x1y0) ∧ w'.cell? ⟨w9.heap.size, 1, none⟩ = some (.int .i64 x1y1) ∧ w'.cell? ⟨w9.heap.size, 2, none⟩ = some (.int .i64 x1y2) ∧ w'.cell? ⟨w9.heap.size, 3, none⟩ = some (.string x1y3) ∧ w'.cell? ⟨w9.heap.size, 4, none⟩ = some (.slice x1y4 x1n4 x1c4) ∧ w'.cell? ⟨w9.heap.size, 5, none⟩ = some (.slice x1y5 x1n5 x1c5) ∧ w'.cell? ⟨w9.heap.size, 6, none⟩ = some (.slice x1y6 x1n6 x1c6) ∧ w'.cell? ⟨w.heap.size + 1, 0, none⟩ = some (.int .i64 a1y0) ∧ w'.cell? ⟨w.heap.size + 1, 1, none⟩ = some (.int .i64 a1y1) ∧ w'.cell? ⟨w.heap.size + 1, 2, none⟩ = some (.int .i64 a1y2) ∧ w'.cell? ⟨w.heap.size + 1, 3, none⟩ = some (.string a1y3) ∧ w'.cell? ⟨w.heap.size + 1, 4, none⟩ = some (.slice a1y4 a1n4 a1c4) ∧ w'.cell? ⟨w.heap.size + 1, 5, none⟩ = some (.slice a1y5 a1n5 a1c5) ∧ w'.cell? ⟨w.heap.size + 1, 6, none⟩ = some (.slice a1y6 a1n6 a1c6)) (exact ⟨fC10, fC11, fC12, fC13, fC14, fC15, fC16, fA10, fA11, fA12, fA13, fA14, fA15, fA16⟩)
          (first
            | (
              go_at_call_of 17 (Value.agg #[.int .i64 a1y0, .int .i64 a1y1, .int .i64 a1y2, .string a1y3, .slice a1y4 a1n4 a1c4, .slice a1y5 a1n5 a1c5, .slice a1y6 a1n6 a1c6])
              refine (toValue_any HD1.out.1 _ _ ((HD1.out.2.2.below (MSt.bel (HM16.out.drew))).more (MSt.size (HM16.out.drew))) HW1.out).mono ?_
              rintro e w17 ⟨csN1, fpN1, rfl, how, hnf, hb⟩
              obtain ⟨n1y0, n1y1, n1y2, n1y3, n1y4, n1n4, n1c4, n1y5, n1n5, n1c5, n1y6, n1n6, n1c6, rfl⟩ := IsVal.form (HD1.out.1) how.read
              have HM17 := Lib.hid (HM16.out.drew.add hb (owA_at how hnf))
              clear hb how hnf HM16
              have hbx := (MSt.nth (L1 := [_, _, _]) HM17.out).box
              obtain ⟨fC10, fC11, fC12, fC13, fC14, fC15, fC16, fC1lt⟩ := box7 hbx
              clear hbx
              have hbx := (MSt.nth (L1 := [_, _, _, _, _, _, _, _, _]) HM17.out).box
              obtain ⟨fA10, fA11, fA12, fA13, fA14, fA15, fA16, fA1lt⟩ := box7 hbx
              clear hbx)
            | (
              go_at_call 19
              refine (eqValue_any HD1.out.1 HD1.out.1 _ _ _ (MSt.nth (L1 := [_, _, _, _]) HM17.out).read HM17.out.read).mono ?_
              rintro e w18 ⟨b, rfl, hbi, hb⟩
              obtain rfl : b = true := hbi.2 rfl
              clear hbi
              have HM18 := Lib.hid (HM17.out.later hb)
              clear HM17
              clear hb
              have hbx := (MSt.nth (L1 := [_, _, _]) HM18.out).box
              obtain ⟨fC10, fC11, fC12, fC13, fC14, fC15, fC16, fC1lt⟩ := box7 hbx
              clear hbx
              have hbx := (MSt.nth (L1 := [_, _, _, _, _, _, _, _, _]) HM18.out).box
              obtain ⟨fA10, fA11, fA12, fA13, fA14, fA15, fA16, fA1lt⟩ := box7 hbx
              clear hbx)
            | fail)
        have HM19 := Lib.hid (MSt.drop HM18.out)
        clear HM18 fC10 fC11 fC12 fC13 fC14 fC15 fC16 fC1lt fA10 fA11 fA12 fA13 fA14 fA15 fA16 fA1lt
        clear fC10 fC11 fC12 fC13 fC14 fC15 fC16 fC1lt fA10 fA11 fA12 fA13 fA14 fA15 fA16 fA1lt
        obtain ⟨K0, hK0⟩ : ∃ K, K = 1 + d0.mks := ⟨_, rfl⟩
        have hKb0 : K0 ≤ 16777217 := by have := mks_bd HD0.out.1 (Nat.le_trans HW0.out (by decide)); omega
        have HK0 := Lib.hid hK0
        clear hK0
        have hbx := (MSt.nth (L1 := [_, _, _, _]) HM19.out).box
        obtain ⟨fC00, fC01, fC02, fC03, fC04, fC05, fC06, fC0lt⟩ := box7 hbx
        clear hbx
        go_wp2_with fail
        clear fC00 fC01 fC02 fC03 fC04 fC05 fC06 fC0lt
        refine (markD_any HD0.out.1 HW0.out 1 K0 HK0.out (by omega) _ _ _ (MSt.nth (L1 := [_, _, _, _, _]) HM19.out).objs.out.1 (MSt.nth (L1 := [_, _, _, _, _]) HM19.out).objs.out.2.1).mono ?_
        rintro e w20 ⟨rfl, how, hF⟩
        have HM20 := Lib.hid ((MSt.nth (L1 := [_, _, _, _, _]) HM19.out).mark hF how)
        clear HM19
        clear how hF
        obtain ⟨K1, hK1⟩ : ∃ K, K = K0 + d1.mks := ⟨_, rfl⟩
        have hKb1 : K1 ≤ 33554433 := by have := mks_bd HD1.out.1 (Nat.le_trans HW1.out (by decide)); omega
        have HK1 := Lib.hid hK1
        clear hK1
        have hbx := (MSt.nth (L1 := [_, _, _]) HM20.out).box
        obtain ⟨fC10, fC11, fC12, fC13, fC14, fC15, fC16, fC1lt⟩ := box7 hbx
        clear hbx
        go_wp2_with fail
        clear fC10 fC11 fC12 fC13 fC14 fC15 fC16 fC1lt
        refine (markD_any HD1.out.1 HW1.out K0 K1 HK1.out (by omega) _ _ _ (MSt.nth (L1 := [_, _, _, _]) HM20.out).objs.out.1 (MSt.nth (L1 := [_, _, _, _]) HM20.out).objs.out.2.1).mono ?_
        rintro e w21 ⟨rfl, how, hF⟩
        have HM21 := Lib.hid ((MSt.nth (L1 := [_, _, _, _]) HM20.out).mark hF how)
        clear HM20
        clear how hF
        have hKn : ¬ (K1 : Int) < 0 := by omega
        have hbx := (MSt.nth (L1 := [_, _]) HM21.out).box
        obtain ⟨fBq0, fBq1, fBq2, fBq3, fBq4, fBq5, fBq6, fBqlt⟩ := box7 hbx
        clear hbx
        have hbx := (MSt.nth (L1 := [_, _, _, _, _, _]) HM21.out).box
        obtain ⟨fBp0, fBp1, fBp2, fBp3, fBp4, fBp5, fBp6, fBplt⟩ := box7 hbx
        clear hbx
        go_wp2_with fail
        clear fBq0 fBq1 fBq2 fBq3 fBq4 fBq5 fBq6 fBqlt fBp0 fBp1 fBp2 fBp3 fBp4 fBp5 fBp6 fBplt
        refine (eqValue_any HA.out.2.1 HA.out.2.1 _ _ _ (MSt.nth (L1 := [_, _, _]) HM21.out).read (MSt.nth (L1 := [_, _, _, _, _, _, _]) HM21.out).read).mono ?_
        rintro e w22 ⟨b, rfl, hbi, hb⟩
        obtain rfl : b = true := hbi.2 rfl
        clear hbi
        have HM22 := Lib.hid (HM21.out.later hb)
        clear HM21
        clear hb
        obtain ⟨K, hK⟩ : ∃ K, K = 1 + (D).mks := ⟨_, rfl⟩
        have hKb : K ≤ 16777217 := by have := mks_bd HA.out.2.1 (Nat.le_trans HA.out.2.2 (by decide)); omega
        have HK := Lib.hid hK
        clear hK
        have hKn2 : ¬ (K : Int) < 0 := by omega
        have hKK : ((K : Int) != (K : Int)) = false := by simp
        have hbx := (MSt.nth (L1 := [_, _]) HM22.out).box
        obtain ⟨fBq0, fBq1, fBq2, fBq3, fBq4, fBq5, fBq6, fBqlt⟩ := box7 hbx
        clear hbx
        go_wp2_with fail
        clear fBq0 fBq1 fBq2 fBq3 fBq4 fBq5 fBq6 fBqlt
        refine (markD_any HA.out.2.1 HA.out.2.2 1 K HK.out (by omega) _ _ _ (MSt.nth (L1 := [_, _, _]) HM22.out).objs.out.1 (MSt.nth (L1 := [_, _, _]) HM22.out).objs.out.2.1).mono ?_
        rintro e w23 ⟨rfl, how, hF⟩
        have HM23 := Lib.hid ((MSt.nth (L1 := [_, _, _]) HM22.out).mark hF how)
        clear HM22
        clear how hF
        have hbx := (MSt.nth (L1 := [_, _, _]) HM23.out).box
        obtain ⟨fBq0, fBq1, fBq2, fBq3, fBq4, fBq5, fBq6, fBqlt⟩ := box7 hbx
        clear hbx
        go_wp2_with fail
        clear fBq0 fBq1 fBq2 fBq3 fBq4 fBq5 fBq6 fBqlt
        refine (heldD_any HA.out.2.1 HA.out.2.2 1 K HK.out (by omega) _ _ HM23.out.read).mono ?_
        rintro e w24 ⟨rfl, hb⟩
        have HM24 := Lib.hid (HM23.out.later hb)
        clear HM23
        clear hb
        have hbx := (MSt.nth (L1 := [_, _, _, _, _, _, _, _, _]) HM24.out).box
        obtain ⟨fA00, fA01, fA02, fA03, fA04, fA05, fA06, fA0lt⟩ := box7 hbx
        clear hbx
        have hbx := (MSt.nth (L1 := [_, _, _, _, _, _, _, _]) HM24.out).box
        obtain ⟨fA10, fA11, fA12, fA13, fA14, fA15, fA16, fA1lt⟩ := box7 hbx
        clear hbx
        go_upto_region 31 with fail
        go_cut [13] from 75 to 80 (fun p wx => ∃ (g : Nat) (cs : List Value) (fp : List Nat), p = .pointer (some ⟨g, 0, none⟩) ∧ MSt w (boxA 32 7 g cs :: owA (D) cs fp :: [owA (Dt.mkd 1 (D)) [.int .i64 vqy0, .int .i64 vqy1, .int .i64 vqy2, .string vqy3, .slice vqy4 vqn4 vqc4, .slice vqy5 vqn5 vqc5, .slice vqy6 vqn6 vqc6] fpVq, boxA 32 7 (w11.heap.size) [.int .i64 vqy0, .int .i64 vqy1, .int .i64 vqy2, .string vqy3, .slice vqy4 vqn4 vqc4, .slice vqy5 vqn5 vqc5, .slice vqy6 vqn6 vqc6], boxA 32 7 (gBp) [.int .i64 vpy0, .int .i64 vpy1, .int .i64 vpy2, .string vpy3, .slice vpy4 vpn4 vpc4, .slice vpy5 vpn5 vpc5, .slice vpy6 vpn6 vpc6], owA (D) [.int .i64 vpy0, .int .i64 vpy1, .int .i64 vpy2, .string vpy3, .slice vpy4 vpn4 vpc4, .slice vpy5 vpn5 vpc5, .slice vpy6 vpn6 vpc6] fpVp, boxA 26 7 (w.heap.size + 1) [.int .i64 a1y0, .int .i64 a1y1, .int .i64 a1y2, .string a1y3, .slice a1y4 a1n4 a1c4, .slice a1y5 a1n5 a1c5, .slice a1y6 a1n6 a1c6], boxA 26 7 (w.heap.size) [.int .i64 a0y0, .int .i64 a0y1, .int .i64 a0y2, .string a0y3, .slice a0y4 a0n4 a0c4, .slice a0y5 a0n5 a0c5, .slice a0y6 a0n6 a0c6]]) wx)
        case first =>
          go_region_law (first
            | (
              go_simp
              go_at_call_of 17 (Value.agg #[.int .i64 a0y0, .int .i64 a0y1, .int .i64 a0y2, .string a0y3, .slice a0y4 a0n4 a0c4, .slice a0y5 a0n5 a0c5, .slice a0y6 a0n6 a0c6])
              first | refine (toValue_any HD0.out.1 _ _ ((HD0.out.2.2.below (MSt.bel (HM24.out.drew))).more (MSt.size (HM24.out.drew))) HW0.out).mono ?_ | refine (toValue_any HD0.out.1 _ _ ((HD0.out.2.2.below (MSt.bel (HM24.out.drew.alloc (.cells #[.int .i64 0, .int .i64 0, .int .i64 0, .string ⟨#[]⟩, .slice none 0 0, .slice none 0 0, .slice none 0 0] 32)))).more (MSt.size (HM24.out.drew.alloc (.cells #[.int .i64 0, .int .i64 0, .int .i64 0, .string ⟨#[]⟩, .slice none 0 0, .slice none 0 0, .slice none 0 0] 32)))) HW0.out).mono ?_
              rintro e w25 ⟨csTz0, fpTz0, rfl, how, hnf, hb⟩
              obtain ⟨tz0y0, tz0y1, tz0y2, tz0y3, tz0y4, tz0n4, tz0c4, tz0y5, tz0n5, tz0c5, tz0y6, tz0n6, tz0c6, rfl⟩ := IsVal.form (HD0.out.1) how.read
              first | (have HM25 := Lib.hid (HM24.out.drew.add hb (owA_at how hnf))) | (have HM25 := Lib.hid ((HM24.out.drew.new 32 7 #[.int .i64 0, .int .i64 0, .int .i64 0, .string ⟨#[]⟩, .slice none 0 0, .slice none 0 0, .slice none 0 0] rfl).add hb (owA_at how hnf)))
              have hws25 := hb.size
              first | simp at hws25 | skip
              clear hb how hnf
              have hbx : w25.ownsRow 0 26 7 (.slice (some ⟨w.heap.size, 0, none⟩) 1 1) 1 [.int .i64 a0y0, .int .i64 a0y1, .int .i64 a0y2, .string a0y3, .slice a0y4 a0n4 a0c4, .slice a0y5 a0n5 a0c5, .slice a0y6 a0n6 a0c6] := HM25.out.has (a := boxA 26 7 (w.heap.size) [.int .i64 a0y0, .int .i64 a0y1, .int .i64 a0y2, .string a0y3, .slice a0y4 a0n4 a0c4, .slice a0y5 a0n5 a0c5, .slice a0y6 a0n6 a0c6]) (by simp)
              obtain ⟨fA00, fA01, fA02, fA03, fA04, fA05, fA06, fA0lt⟩ := box7 hbx
              clear hbx
              have hbx : w25.ownsRow 0 26 7 (.slice (some ⟨w.heap.size + 1, 0, none⟩) 1 1) 1 [.int .i64 a1y0, .int .i64 a1y1, .int .i64 a1y2, .string a1y3, .slice a1y4 a1n4 a1c4, .slice a1y5 a1n5 a1c5, .slice a1y6 a1n6 a1c6] := HM25.out.has (a := boxA 26 7 (w.heap.size + 1) [.int .i64 a1y0, .int .i64 a1y1, .int .i64 a1y2, .string a1y3, .slice a1y4 a1n4 a1c4, .slice a1y5 a1n5 a1c5, .slice a1y6 a1n6 a1c6]) (by simp)
              obtain ⟨fA10, fA11, fA12, fA13, fA14, fA15, fA16, fA1lt⟩ := box7 hbx
              clear hbx
              first | (obtain hbz : w25.ownsRow 0 32 7 (.slice (some ⟨w24.heap.size, 0, none⟩) 1 1) 1 [.int .i64 0, .int .i64 0, .int .i64 0, .string ⟨#[]⟩, .slice none 0 0, .slice none 0 0, .slice none 0 0]; (focus (refine HM25.out.has (a := boxA 32 7 w24.heap.size [.int .i64 0, .int .i64 0, .int .i64 0, .string ⟨#[]⟩, .slice none 0 0, .slice none 0 0, .slice none 0 0]) ?_; simp; done)); rename_i hbz; obtain ⟨fZ0, fZ1, fZ2, fZ3, fZ4, fZ5, fZ6, fZlt⟩ := box7 hbz; obtain ⟨fz0, fz1, fz2, fz3, fz4, fz5, fz6⟩ := box7z hbz; clear hbz) | skip)
            | (
              go_simp
              go_at_call_of 17 (Value.agg #[.int .i64 a1y0, .int .i64 a1y1, .int .i64 a1y2, .string a1y3, .slice a1y4 a1n4 a1c4, .slice a1y5 a1n5 a1c5, .slice a1y6 a1n6 a1c6])
              first | refine (toValue_any HD1.out.1 _ _ ((HD1.out.2.2.below (MSt.bel (HM25.out))).more (MSt.size (HM25.out))) HW1.out).mono ?_ | refine (toValue_any HD1.out.1 _ _ ((HD1.out.2.2.below (MSt.bel (HM25.out.alloc (.cells #[.int .i64 0, .int .i64 0, .int .i64 0, .string ⟨#[]⟩, .slice none 0 0, .slice none 0 0, .slice none 0 0] 32)))).more (MSt.size (HM25.out.alloc (.cells #[.int .i64 0, .int .i64 0, .int .i64 0, .string ⟨#[]⟩, .slice none 0 0, .slice none 0 0, .slice none 0 0] 32)))) HW1.out).mono ?_
              rintro e w26 ⟨csTz1, fpTz1, rfl, how, hnf, hb⟩
              obtain ⟨tz1y0, tz1y1, tz1y2, tz1y3, tz1y4, tz1n4, tz1c4, tz1y5, tz1n5, tz1c5, tz1y6, tz1n6, tz1c6, rfl⟩ := IsVal.form (HD1.out.1) how.read
              first | (have HM26 := Lib.hid (HM25.out.add hb (owA_at how hnf))) | (have HM26 := Lib.hid ((HM25.out.new 32 7 #[.int .i64 0, .int .i64 0, .int .i64 0, .string ⟨#[]⟩, .slice none 0 0, .slice none 0 0, .slice none 0 0] rfl).add hb (owA_at how hnf)))
              have hws26 := hb.size
              first | simp at hws26 | skip
              clear hb how hnf
              have hbx : w26.ownsRow 0 26 7 (.slice (some ⟨w.heap.size, 0, none⟩) 1 1) 1 [.int .i64 a0y0, .int .i64 a0y1, .int .i64 a0y2, .string a0y3, .slice a0y4 a0n4 a0c4, .slice a0y5 a0n5 a0c5, .slice a0y6 a0n6 a0c6] := HM26.out.has (a := boxA 26 7 (w.heap.size) [.int .i64 a0y0, .int .i64 a0y1, .int .i64 a0y2, .string a0y3, .slice a0y4 a0n4 a0c4, .slice a0y5 a0n5 a0c5, .slice a0y6 a0n6 a0c6]) (by simp)
              obtain ⟨fA00, fA01, fA02, fA03, fA04, fA05, fA06, fA0lt⟩ := box7 hbx
              clear hbx
              have hbx : w26.ownsRow 0 26 7 (.slice (some ⟨w.heap.size + 1, 0, none⟩) 1 1) 1 [.int .i64 a1y0, .int .i64 a1y1, .int .i64 a1y2, .string a1y3, .slice a1y4 a1n4 a1c4, .slice a1y5 a1n5 a1c5, .slice a1y6 a1n6 a1c6] := HM26.out.has (a := boxA 26 7 (w.heap.size + 1) [.int .i64 a1y0, .int .i64 a1y1, .int .i64 a1y2, .string a1y3, .slice a1y4 a1n4 a1c4, .slice a1y5 a1n5 a1c5, .slice a1y6 a1n6 a1c6]) (by simp)
              obtain ⟨fA10, fA11, fA12, fA13, fA14, fA15, fA16, fA1lt⟩ := box7 hbx
              clear hbx
              first | (obtain hbz : w26.ownsRow 0 32 7 (.slice (some ⟨w24.heap.size, 0, none⟩) 1 1) 1 [.int .i64 0, .int .i64 0, .int .i64 0, .string ⟨#[]⟩, .slice none 0 0, .slice none 0 0, .slice none 0 0]; (focus (refine HM26.out.has (a := boxA 32 7 w24.heap.size [.int .i64 0, .int .i64 0, .int .i64 0, .string ⟨#[]⟩, .slice none 0 0, .slice none 0 0, .slice none 0 0]) ?_; simp; done)); rename_i hbz; obtain ⟨fZ0, fZ1, fZ2, fZ3, fZ4, fZ5, fZ6, fZlt⟩ := box7 hbz; obtain ⟨fz0, fz1, fz2, fz3, fz4, fz5, fz6⟩ := box7z hbz; clear hbz) | skip
              first | (obtain hbz : w26.ownsRow 0 32 7 (.slice (some ⟨w25.heap.size, 0, none⟩) 1 1) 1 [.int .i64 0, .int .i64 0, .int .i64 0, .string ⟨#[]⟩, .slice none 0 0, .slice none 0 0, .slice none 0 0]; (focus (refine HM26.out.has (a := boxA 32 7 w25.heap.size [.int .i64 0, .int .i64 0, .int .i64 0, .string ⟨#[]⟩, .slice none 0 0, .slice none 0 0, .slice none 0 0]) ?_; simp; done)); rename_i hbz; obtain ⟨fZ0, fZ1, fZ2, fZ3, fZ4, fZ5, fZ6, fZlt⟩ := box7 hbz; obtain ⟨fz0, fz1, fz2, fz3, fz4, fz5, fz6⟩ := box7z hbz; clear hbz) | skip)
            | (
              go_simp
              go_at_call 35
              first | refine (implNth_any HD0.out.1 HD1.out.1 HW.out _ _ _ (MSt.has (HM26.out) (a := owA (d0) [.int .i64 tz0y0, .int .i64 tz0y1, .int .i64 tz0y2, .string tz0y3, .slice tz0y4 tz0n4 tz0c4, .slice tz0y5 tz0n5 tz0c5, .slice tz0y6 tz0n6 tz0c6] fpTz0) (by simp)).1.read (MSt.has (HM26.out) (a := owA (d1) [.int .i64 tz1y0, .int .i64 tz1y1, .int .i64 tz1y2, .string tz1y3, .slice tz1y4 tz1n4 tz1c4, .slice tz1y5 tz1n5 tz1c5, .slice tz1y6 tz1n6 tz1c6] fpTz1) (by simp)).1.read D HA.out.1).mono ?_ | refine (implNth_any HD0.out.1 HD1.out.1 HW.out _ _ _ (MSt.has (HM26.out.alloc (.cells #[.int .i64 0, .int .i64 0, .int .i64 0, .string ⟨#[]⟩, .slice none 0 0, .slice none 0 0, .slice none 0 0] 32)) (a := owA (d0) [.int .i64 tz0y0, .int .i64 tz0y1, .int .i64 tz0y2, .string tz0y3, .slice tz0y4 tz0n4 tz0c4, .slice tz0y5 tz0n5 tz0c5, .slice tz0y6 tz0n6 tz0c6] fpTz0) (by simp)).1.read (MSt.has (HM26.out.alloc (.cells #[.int .i64 0, .int .i64 0, .int .i64 0, .string ⟨#[]⟩, .slice none 0 0, .slice none 0 0, .slice none 0 0] 32)) (a := owA (d1) [.int .i64 tz1y0, .int .i64 tz1y1, .int .i64 tz1y2, .string tz1y3, .slice tz1y4 tz1n4 tz1c4, .slice tz1y5 tz1n5 tz1c5, .slice tz1y6 tz1n6 tz1c6] fpTz1) (by simp)).1.read D HA.out.1).mono ?_
              rintro e w27 ⟨csVz, fpVz, rfl, how, hnf, hb⟩
              obtain ⟨vzy0, vzy1, vzy2, vzy3, vzy4, vzn4, vzc4, vzy5, vzn5, vzc5, vzy6, vzn6, vzc6, rfl⟩ := IsVal.form (HA.out.2.1) how.read
              first | (have HM27 := Lib.hid (HM26.out.add hb (owA_at how hnf))) | (have HM27 := Lib.hid ((HM26.out.new 32 7 #[.int .i64 0, .int .i64 0, .int .i64 0, .string ⟨#[]⟩, .slice none 0 0, .slice none 0 0, .slice none 0 0] rfl).add hb (owA_at how hnf)))
              have hws27 := hb.size
              first | simp at hws27 | skip
              clear hb how hnf
              first | (obtain hbz : w27.ownsRow 0 32 7 (.slice (some ⟨w24.heap.size, 0, none⟩) 1 1) 1 [.int .i64 0, .int .i64 0, .int .i64 0, .string ⟨#[]⟩, .slice none 0 0, .slice none 0 0, .slice none 0 0]; (focus (refine HM27.out.has (a := boxA 32 7 w24.heap.size [.int .i64 0, .int .i64 0, .int .i64 0, .string ⟨#[]⟩, .slice none 0 0, .slice none 0 0, .slice none 0 0]) ?_; simp; done)); rename_i hbz; obtain ⟨fZ0, fZ1, fZ2, fZ3, fZ4, fZ5, fZ6, fZlt⟩ := box7 hbz; obtain ⟨fz0, fz1, fz2, fz3, fz4, fz5, fz6⟩ := box7z hbz; clear hbz) | skip
              first | (obtain hbz : w27.ownsRow 0 32 7 (.slice (some ⟨w25.heap.size, 0, none⟩) 1 1) 1 [.int .i64 0, .int .i64 0, .int .i64 0, .string ⟨#[]⟩, .slice none 0 0, .slice none 0 0, .slice none 0 0]; (focus (refine HM27.out.has (a := boxA 32 7 w25.heap.size [.int .i64 0, .int .i64 0, .int .i64 0, .string ⟨#[]⟩, .slice none 0 0, .slice none 0 0, .slice none 0 0]) ?_; simp; done)); rename_i hbz; obtain ⟨fZ0, fZ1, fZ2, fZ3, fZ4, fZ5, fZ6, fZlt⟩ := box7 hbz; obtain ⟨fz0, fz1, fz2, fz3, fz4, fz5, fz6⟩ := box7z hbz; clear hbz) | skip
              first | (obtain hbz : w27.ownsRow 0 32 7 (.slice (some ⟨w26.heap.size, 0, none⟩) 1 1) 1 [.int .i64 0, .int .i64 0, .int .i64 0, .string ⟨#[]⟩, .slice none 0 0, .slice none 0 0, .slice none 0 0]; (focus (refine HM27.out.has (a := boxA 32 7 w26.heap.size [.int .i64 0, .int .i64 0, .int .i64 0, .string ⟨#[]⟩, .slice none 0 0, .slice none 0 0, .slice none 0 0]) ?_; simp; done)); rename_i hbz; obtain ⟨fZ0, fZ1, fZ2, fZ3, fZ4, fZ5, fZ6, fZlt⟩ := box7 hbz; obtain ⟨fz0, fz1, fz2, fz3, fz4, fz5, fz6⟩ := box7z hbz; clear hbz) | skip)
            | fail)
          all_goals
            go_wp2_with fail
            go_meet
            refine ⟨_, [.int .i64 vzy0, .int .i64 vzy1, .int .i64 vzy2, .string vzy3, .slice vzy4 vzn4 vzc4, .slice vzy5 vzn5 vzc5, .slice vzy6 vzn6 vzc6], fpVz, rfl, ?_⟩
            first
              | ((with_reducible have hg := MSt.set7 (e := 32) (MSt.swap HM27.out) [.int .i64 vzy0, .int .i64 vzy1, .int .i64 vzy2, .string vzy3, .slice vzy4 vzn4 vzc4, .slice vzy5 vzn5 vzc5, .slice vzy6 vzn6 vzc6] (by simp)); simp only [World.setCells, Nat.zero_add, Nat.reduceAdd] at hg; (with_reducible exact MSt.sub hg ((.cons_cons _ (.cons_cons _ (.cons _ (.cons _ (.cons_cons _ (.cons _ (.cons _ (.cons_cons _ (.cons _ (.cons _ (.cons_cons _ (.cons_cons _ (.cons_cons _ (.cons_cons _ (List.Sublist.refl _))))))))))))))))))
              | ((with_reducible have hg := MSt.set7 (e := 32) (MSt.at2 HM27.out) [.int .i64 vzy0, .int .i64 vzy1, .int .i64 vzy2, .string vzy3, .slice vzy4 vzn4 vzc4, .slice vzy5 vzn5 vzc5, .slice vzy6 vzn6 vzc6] (by simp)); simp only [World.setCells, Nat.zero_add, Nat.reduceAdd] at hg; (with_reducible exact MSt.sub hg ((.cons_cons _ (.cons_cons _ (.cons _ (.cons _ (.cons_cons _ (.cons _ (.cons _ (.cons_cons _ (.cons _ (.cons _ (.cons_cons _ (.cons_cons _ (.cons_cons _ (.cons_cons _ (List.Sublist.refl _))))))))))))))))))
              | ((with_reducible have hg := MSt.set7 (e := 32) (MSt.at3 HM27.out) [.int .i64 vzy0, .int .i64 vzy1, .int .i64 vzy2, .string vzy3, .slice vzy4 vzn4 vzc4, .slice vzy5 vzn5 vzc5, .slice vzy6 vzn6 vzc6] (by simp)); simp only [World.setCells, Nat.zero_add, Nat.reduceAdd, World.size_drew] at hg; (with_reducible exact MSt.sub hg ((.cons_cons _ (.cons_cons _ (.cons _ (.cons _ (.cons_cons _ (.cons _ (.cons _ (.cons_cons _ (.cons _ (.cons _ (.cons_cons _ (.cons_cons _ (.cons_cons _ (.cons_cons _ (List.Sublist.refl _))))))))))))))))))
              | ((with_reducible exact MSt.sub (HM27.out.new 32 7 #[.int .i64 vzy0, .int .i64 vzy1, .int .i64 vzy2, .string vzy3, .slice vzy4 vzn4 vzc4, .slice vzy5 vzn5 vzc5, .slice vzy6 vzn6 vzc6] rfl) ((.cons_cons _ (.cons_cons _ (.cons _ (.cons _ (.cons_cons _ (.cons _ (.cons _ (.cons_cons _ (.cons _ (.cons _ (.cons_cons _ (.cons_cons _ (.cons_cons _ (.cons_cons _ (List.Sublist.refl _))))))))))))))))))
        case rest =>
          obtain ⟨gBz, csVz, fpVz, rfl, hM⟩ := hcut
          obtain ⟨vzy0, vzy1, vzy2, vzy3, vzy4, vzn4, vzc4, vzy5, vzn5, vzc5, vzy6, vzn6, vzc6, rfl⟩ := IsVal.form (HA.out.2.1) (MSt.nth (L1 := [_]) hM).read
          have HM28 := Lib.hid hM
          clear hM HM24 fA00 fA01 fA02 fA03 fA04 fA05 fA06 fA0lt fA10 fA11 fA12 fA13 fA14 fA15 fA16 fA1lt
          obtain ⟨wrz, rfl⟩ : ∃ wo : World, wo = wc := ⟨_, rfl⟩
          have hbx := HM28.out.box
          obtain ⟨fBz0, fBz1, fBz2, fBz3, fBz4, fBz5, fBz6, fBzlt⟩ := box7 hbx
          clear hbx
          have hbx := (MSt.nth (L1 := [_, _, _, _]) HM28.out).box
          obtain ⟨fBp0, fBp1, fBp2, fBp3, fBp4, fBp5, fBp6, fBplt⟩ := box7 hbx
          clear hbx
          go_wp2_with fail
          clear fBz0 fBz1 fBz2 fBz3 fBz4 fBz5 fBz6 fBzlt fBp0 fBp1 fBp2 fBp3 fBp4 fBp5 fBp6 fBplt
          refine (eqValue_any HA.out.2.1 HA.out.2.1 _ _ _ (MSt.nth (L1 := [_]) HM28.out).read (MSt.nth (L1 := [_, _, _, _, _]) HM28.out).read).mono ?_
          rintro e w29 ⟨b, rfl, hbi, hb⟩
          obtain rfl : b = true := hbi.2 rfl
          clear hbi
          have HM29 := Lib.hid (HM28.out.later hb)
          clear HM28
          clear hb
          have hbx := (MSt.nth (L1 := [_, _, _]) HM29.out).box
          obtain ⟨fBq0, fBq1, fBq2, fBq3, fBq4, fBq5, fBq6, fBqlt⟩ := box7 hbx
          clear hbx
          go_wp2_with fail
          clear fBq0 fBq1 fBq2 fBq3 fBq4 fBq5 fBq6 fBqlt
          refine (heldD_any HA.out.2.1 HA.out.2.2 1 K HK.out (by omega) _ _ (MSt.nth (L1 := [_, _]) HM29.out).read).mono ?_
          rintro e w30 ⟨rfl, hb⟩
          have HM30 := Lib.hid (HM29.out.later hb)
          clear HM29
          clear hb
          go_wp2_with fail
          go_ret
          exact ⟨rfl, HM30.out.bel⟩
end Go.Proofs.YtpmpilnedhifiaaGreat
