/-
  Texts that the proof rests on, put together: StrDraw.
-/
import Derived.Test.YtabcmnlmmpbmnaaGreatMgH50
import Derived.Test.YtabcmnlmmpbmnaaGreatMgH46
import Derived.Test.YtabcmnlmmpbmnaaGreatMgH48
import Derived.Test.YtabcmnlmmpbmnaaGreatMgH49
import Derived.Test.YtabcmnlmmpbmnaaGreatMgH24
import Derived.Test.YtabcmnlmmpbmnaaGreatMgH32
import Derived.Test.YtabcmnlmmpbmnaaGreatMgH3
import Derived.Deep.RegionLaw
import Derived.Deep.RegionHeld3
import Derived.Outline
/-
  The law FnStreams. (Written by genlstlaws.py.)
-/

namespace Go.Proofs.YtabcmnlmmpbmnaaGreat
open Go.RowKit
set_option linter.unusedVariables false
set_option linter.unusedSimpArgs false

set_option maxHeartbeats 12800000 in
set_option maxRecDepth 100000 in
theorem fnStreams_walk (A : Option Addr) (n c : Nat) (zs : List Int) (w : World) (h : IsBytes .u8 w A n c zs) :
    Calls Tryz.prog 6 #[.slice A n c] w fun e w' => e = .returned (.bool true) ∧ Below w.heap.size w w' := by
  by_cases hb : 1048576 < n
  · have hbig := big_yes A n c w hb h.code.1
    clear h
    go_enter Tryz.func6, Tryz.ntmps6
    go_wp2_with fail
    refine hbig.mono ?_
    rintro e w1 ⟨rfl, rfl⟩
    go_wp2_with fail
    go_ret
    exact ⟨rfl, Below.refl _ _⟩
  · have hbig := big_no A n c w (by omega)
    have HC := Lib.hid h.code
    clear h
    go_enter Tryz.func6, Tryz.ntmps6
    go_wp2_with fail
    refine hbig.mono ?_
    rintro e w ⟨rfl, rfl⟩
    clear hbig
    go_wp2_with fail
    refine (drawSkip_any A n c w HC.out (by omega)).mono ?_
    rintro e w1 ⟨d1, c1, f1, d2, c2, f2, hd1, hw1, hd2, hw2, rfl, hD⟩
    have HD1 := Lib.hid hd1
    have HD2 := Lib.hid hd2
    obtain ⟨k, m, s, t, l, c, r, hl, hr⟩ := hd1
    obtain ⟨A4, q4, A5, q5, A6, q6, rfl, -, -, -⟩ := Rd.ofValue (hD).objs.out.1.read
    obtain ⟨k', m', s', t', l', c', r', hl', hr'⟩ := hd2
    obtain ⟨A4', q4', A5', q5', A6', q6', rfl, -, -, -⟩ := Rd.ofValue (MSt.swap hD).objs.out.1.read
    simp only [List.length_map] at hD
    have h1 := (hD.new 28 7 #[.int .i64 k, .int .i64 m, .int .i64 s, .string t, .slice A4 l.length q4, .slice A5 c.length q5, .slice A6 r.length q6] rfl).new 28 7 #[.int .i64 k', .int .i64 m', .int .i64 s', .string t', .slice A4' l'.length q4', .slice A5' c'.length q5', .slice A6' r'.length q6'] rfl
    rw [World.size_alloc] at h1
    have HM1 := Lib.hid h1
    have HW := Lib.hid (show Dt.wt (.agg [.int k, .int m, .int s, .str t, .lst l, .lst (c.map .str), .lst r]) + Dt.wt (.agg [.int k', .int m', .int s', .str t', .lst l', .lst (c'.map .str), .lst r']) ≤ 1048576 by omega)
    have HW1 := Lib.hid (show Dt.wt (.agg [.int k, .int m, .int s, .str t, .lst l, .lst (c.map .str), .lst r]) ≤ 1048576 by omega)
    have HW2 := Lib.hid (show Dt.wt (.agg [.int k', .int m', .int s', .str t', .lst l', .lst (c'.map .str), .lst r']) ≤ 1048576 by omega)
    have HN := Lib.hid hb
    clear h1 hw1 hw2 hD hb hl hr hl' hr'
    simp only [List.length_map]
    go_wp2_with fail
    generalize hW : (w1.alloc (.cells #[.int .i64 k, .int .i64 m, .int .i64 s, .string t, .slice A4 l.length q4, .slice A5 c.length q5, .slice A6 r.length q6] 28)).alloc (.cells #[.int .i64 k', .int .i64 m', .int .i64 s', .string t', .slice A4' l'.length q4', .slice A5' c'.length q5', .slice A6' r'.length q6'] 28) = W0 at *
    clear hW
    generalize hx : w1.heap.size = bx at *
    clear hx
    obtain ⟨D, hap⟩ := two_some skipD (.agg [.int k, .int m, .int s, .str t, .lst l, .lst (c.map .str), .lst r]) (.agg [.int k', .int m', .int s', .str t', .lst l', .lst (c'.map .str), .lst r'])
    have HA := Lib.hid (And.intro hap (And.intro (hap.val (isVal_skipD _ HD2.out)) (Nat.le_trans (hap.wt (wt_skipD _ HD2.out)) HW.out)))
    clear hap
    refine (implSkip_any HD1.out HD2.out HW.out _ _ _ (MSt.nth (L1 := [_, _]) HM1.out).read (MSt.nth (L1 := [_, _, _]) HM1.out).read D HA.out.1).mono ?_
    rintro e w2 ⟨csVv, fpVv, rfl, how, hnf, hb⟩
    obtain ⟨vy0, vy1, vy2, vy3, vy4, vn4, vc4, vy5, vn5, vc5, vy6, vn6, vc6, rfl⟩ := IsVal.form (HA.out.2.1) how.read
    have HM2 := Lib.hid (HM1.out.add hb (owA_at how hnf))
    clear HM1
    clear hb how hnf
    obtain ⟨wB, rfl⟩ : ∃ wo : World, wo = w2 := ⟨_, rfl⟩
    have hkv := And.intro (kd_cell HA.out.2.1 HM2.out.read) (stp_cell HA.out.2.1 HM2.out.read)
    have HK := Lib.hid hkv
    clear hkv
    have hbx := (MSt.nth (L1 := [_, _]) HM2.out).box
    obtain ⟨fB10, fB11, fB12, fB13, fB14, fB15, fB16, fB1lt⟩ := box7 hbx
    clear hbx
    have hbx := (MSt.nth (L1 := [_]) HM2.out).box
    obtain ⟨fB20, fB21, fB22, fB23, fB24, fB25, fB26, fB2lt⟩ := box7 hbx
    clear hbx
    go_upto_region 5 with fail
    have HM3 := Lib.hid (HM2.out.new 28 7 #[.int .i64 vy0, .int .i64 vy1, .int .i64 vy2, .string vy3, .slice vy4 vn4 vc4, .slice vy5 vn5 vc5, .slice vy6 vn6 vc6] rfl)
    clear HM2
    clear fB10 fB11 fB12 fB13 fB14 fB15 fB16 fB1lt fB20 fB21 fB22 fB23 fB24 fB25 fB26 fB2lt
    have hbx := (MSt.nth (L1 := [_, _, _]) HM3.out).box
    obtain ⟨fB10, fB11, fB12, fB13, fB14, fB15, fB16, fB1lt⟩ := box7 hbx
    clear hbx
    have hbx := (MSt.nth (L1 := [_, _]) HM3.out).box
    obtain ⟨fB20, fB21, fB22, fB23, fB24, fB25, fB26, fB2lt⟩ := box7 hbx
    clear hbx
    have hbx := HM3.out.box
    obtain ⟨fB50, fB51, fB52, fB53, fB54, fB55, fB56, fB5lt⟩ := box7 hbx
    clear hbx
    by_cases e3 : k' = 4
    rotate_left
    · have n3 : (k' != 4) = true := by simpa using e3
      go_cut [33] from 18 to 32 (fun p wx => p = .bool true ∧ MSt w [boxA 28 7 (wB.heap.size) [.int .i64 vy0, .int .i64 vy1, .int .i64 vy2, .string vy3, .slice vy4 vn4 vc4, .slice vy5 vn5 vc5, .slice vy6 vn6 vc6], owA (D) [.int .i64 vy0, .int .i64 vy1, .int .i64 vy2, .string vy3, .slice vy4 vn4 vc4, .slice vy5 vn5 vc5, .slice vy6 vn6 vc6] fpVv, boxA 28 7 (bx + 1) [.int .i64 k', .int .i64 m', .int .i64 s', .string t', .slice A4' l'.length q4', .slice A5' c'.length q5', .slice A6' r'.length q6'], boxA 28 7 (bx) [.int .i64 k, .int .i64 m, .int .i64 s, .string t, .slice A4 l.length q4, .slice A5 c.length q5, .slice A6 r.length q6], owA ((.agg [.int k, .int m, .int s, .str t, .lst l, .lst (c.map .str), .lst r])) [.int .i64 k, .int .i64 m, .int .i64 s, .string t, .slice A4 l.length q4, .slice A5 c.length q5, .slice A6 r.length q6] f1, owA ((.agg [.int k', .int m', .int s', .str t', .lst l', .lst (c'.map .str), .lst r'])) [.int .i64 k', .int .i64 m', .int .i64 s', .string t', .slice A4' l'.length q4', .slice A5' c'.length q5', .slice A6' r'.length q6'] f2] wx)
      case first =>
        have hud : undef = Value.tuple #[] := rfl
        first
        | (go_region_law (first
          | (
            go_simp
            go_at_call 24
            refine (specSkip_any HD1.out HD2.out HW.out _ _ _ (MSt.nth (L1 := [_, _, _, _]) HM3.out.drew).read (MSt.nth (L1 := [_, _, _, _, _]) HM3.out.drew).read D HA.out.1).mono ?_
            rintro e w4 ⟨csVs, fpVs, rfl, how, hnf, hb⟩
            obtain ⟨zy0, zy1, zy2, zy3, zy4, zn4, zc4, zy5, zn5, zc5, zy6, zn6, zc6, rfl⟩ := IsVal.form (HA.out.2.1) how.read
            have HM4 := Lib.hid (HM3.out.drew.add hb (owA_at how hnf))
            clear hb how hnf
            have hbx := (MSt.nth (L1 := [_, _, _, _]) HM4.out).box
            obtain ⟨fB10, fB11, fB12, fB13, fB14, fB15, fB16, fB1lt⟩ := box7 hbx
            clear hbx
            have hbx := (MSt.nth (L1 := [_, _, _]) HM4.out).box
            obtain ⟨fB20, fB21, fB22, fB23, fB24, fB25, fB26, fB2lt⟩ := box7 hbx
            clear hbx
            have hbx := (MSt.nth (L1 := [_]) HM4.out).box
            obtain ⟨fB50, fB51, fB52, fB53, fB54, fB55, fB56, fB5lt⟩ := box7 hbx
            clear hbx)
          | (
            go_simp
            go_at_call 14
            refine (specEqualValue_any HA.out.2.1 HA.out.2.1 _ _ _ (MSt.nth (L1 := [_, _]) HM4.out).read HM4.out.read).mono ?_
            rintro e w5 ⟨b, rfl, hbi, hb⟩
            obtain rfl : b = true := hbi.2 (rfl)
            clear hbi
            have HM5 := Lib.hid (HM4.out.later hb)
            clear HM4
            clear hb
            have hbx := (MSt.nth (L1 := [_, _, _, _]) HM5.out).box
            obtain ⟨fB10, fB11, fB12, fB13, fB14, fB15, fB16, fB1lt⟩ := box7 hbx
            clear hbx
            have hbx := (MSt.nth (L1 := [_, _, _]) HM5.out).box
            obtain ⟨fB20, fB21, fB22, fB23, fB24, fB25, fB26, fB2lt⟩ := box7 hbx
            clear hbx
            have hbx := (MSt.nth (L1 := [_]) HM5.out).box
            obtain ⟨fB50, fB51, fB52, fB53, fB54, fB55, fB56, fB5lt⟩ := box7 hbx
            clear hbx)
          | fail))
        | fail
        all_goals
          go_wp2_with fail
          go_meet
          exact ⟨rfl, by first | exact MSt.drop (HM5.out) | exact MSt.drop (HM5.out.drew)⟩
      case rest =>
        obtain ⟨rfl, hM⟩ := hcut
        have HM6 := Lib.hid hM
        clear hM HM3 fB10 fB11 fB12 fB13 fB14 fB15 fB16 fB1lt fB20 fB21 fB22 fB23 fB24 fB25 fB26 fB2lt fB50 fB51 fB52 fB53 fB54 fB55 fB56 fB5lt
        obtain ⟨wq6, rfl⟩ : ∃ wo : World, wo = wc := ⟨_, rfl⟩
        have hbx := (MSt.nth (L1 := [_, _, _]) HM6.out).box
        obtain ⟨fB10, fB11, fB12, fB13, fB14, fB15, fB16, fB1lt⟩ := box7 hbx
        clear hbx
        have hbx := (MSt.nth (L1 := [_, _]) HM6.out).box
        obtain ⟨fB20, fB21, fB22, fB23, fB24, fB25, fB26, fB2lt⟩ := box7 hbx
        clear hbx
        have hbx := HM6.out.box
        obtain ⟨fB50, fB51, fB52, fB53, fB54, fB55, fB56, fB5lt⟩ := box7 hbx
        clear hbx
        go_wp2_with fail
        go_region_held3 (fun w' => w'.cell? ⟨bx, 0, none⟩ = some (.int .i64 k) ∧ w'.cell? ⟨bx, 1, none⟩ = some (.int .i64 m) ∧ w'.cell? ⟨bx, 2, none⟩ = some (.int .i64 s) ∧ w'.cell? ⟨bx, 3, none⟩ = some (.string t) ∧ w'.cell? ⟨bx, 4, none⟩ = some (.slice A4 l.length q4) ∧ w'.cell? ⟨bx, 5, none⟩ = some (.slice A5 c.length q5) ∧ w'.cell? ⟨bx, 6, none⟩ = some (.slice A6 r.length q6) ∧ w'.cell? ⟨bx + 1, 0, none⟩ = some (.int .i64 k') ∧ w'.cell? ⟨bx + 1, 1, none⟩ = some (.int .i64 m') ∧ w'.cell? ⟨bx + 1, 2, none⟩ = some (.int .i64 s') ∧ w'.cell? ⟨bx + 1, 3, none⟩ = some (.string t') ∧ w'.cell? ⟨bx + 1, 4, none⟩ = some (.slice A4' l'.length q4') ∧ w'.cell? ⟨bx + 1, 5, none⟩ = some (.slice A5' c'.length q5') ∧ w'.cell? ⟨bx + 1, 6, none⟩ = some (.slice A6' r'.length q6') ∧ w'.cell? ⟨wB.heap.size, 0, none⟩ = some (.int .i64 vy0) ∧ w'.cell? ⟨wB.heap.size, 1, none⟩ = some (.int .i64 vy1) ∧ w'.cell? ⟨wB.heap.size, 2, none⟩ = some (.int .i64 vy2) ∧ w'.cell? ⟨wB.heap.size, 3, none⟩ = some (.string vy3) ∧ w'.cell? ⟨wB.heap.size, 4, none⟩ = some (.slice vy4 vn4 vc4) ∧ w'.cell? ⟨wB.heap.size, 5, none⟩ = some (.slice vy5 vn5 vc5) ∧ w'.cell? ⟨wB.heap.size, 6, none⟩ = some (.slice vy6 vn6 vc6)) (exact ⟨fB10, fB11, fB12, fB13, fB14, fB15, fB16, fB20, fB21, fB22, fB23, fB24, fB25, fB26, fB50, fB51, fB52, fB53, fB54, fB55, fB56⟩)
          (first
            | (
              go_at_call 24
              refine (specSkip_any HD1.out HD2.out HW.out _ _ _ (MSt.nth (L1 := [_, _, _, _]) HM6.out.drew).read (MSt.nth (L1 := [_, _, _, _, _]) HM6.out.drew).read D HA.out.1).mono ?_
              rintro e w7 ⟨csVs, fpVs, rfl, how, hnf, hb⟩
              obtain ⟨zy0, zy1, zy2, zy3, zy4, zn4, zc4, zy5, zn5, zc5, zy6, zn6, zc6, rfl⟩ := IsVal.form (HA.out.2.1) how.read
              have HM7 := Lib.hid (HM6.out.drew.add hb (owA_at how hnf))
              clear hb how hnf
              have hbx := (MSt.nth (L1 := [_, _, _, _]) HM7.out).box
              obtain ⟨fB10, fB11, fB12, fB13, fB14, fB15, fB16, fB1lt⟩ := box7 hbx
              clear hbx
              have hbx := (MSt.nth (L1 := [_, _, _]) HM7.out).box
              obtain ⟨fB20, fB21, fB22, fB23, fB24, fB25, fB26, fB2lt⟩ := box7 hbx
              clear hbx
              have hbx := (MSt.nth (L1 := [_]) HM7.out).box
              obtain ⟨fB50, fB51, fB52, fB53, fB54, fB55, fB56, fB5lt⟩ := box7 hbx
              clear hbx)
            | (
              go_at_call 14
              refine (specEqualValue_any HA.out.2.1 HA.out.2.1 _ _ _ (MSt.nth (L1 := [_, _]) HM7.out).read HM7.out.read).mono ?_
              rintro e w8 ⟨b, rfl, hbi, hb⟩
              obtain rfl : b = true := hbi.2 (rfl)
              clear hbi
              have HM8 := Lib.hid (HM7.out.later hb)
              clear HM7
              clear hb
              have hbx := (MSt.nth (L1 := [_, _, _, _]) HM8.out).box
              obtain ⟨fB10, fB11, fB12, fB13, fB14, fB15, fB16, fB1lt⟩ := box7 hbx
              clear hbx
              have hbx := (MSt.nth (L1 := [_, _, _]) HM8.out).box
              obtain ⟨fB20, fB21, fB22, fB23, fB24, fB25, fB26, fB2lt⟩ := box7 hbx
              clear hbx
              have hbx := (MSt.nth (L1 := [_]) HM8.out).box
              obtain ⟨fB50, fB51, fB52, fB53, fB54, fB55, fB56, fB5lt⟩ := box7 hbx
              clear hbx)
            | fail)
        have HM9 := Lib.hid (MSt.drop (HM8.out))
        clear HM8
        clear fB10 fB11 fB12 fB13 fB14 fB15 fB16 fB1lt fB20 fB21 fB22 fB23 fB24 fB25 fB26 fB2lt fB50 fB51 fB52 fB53 fB54 fB55 fB56 fB5lt
        go_wp2_with fail
        go_ret
        exact ⟨rfl, HM9.out.bel⟩
    subst e3
    go_region_held3 (fun w' => w'.cell? ⟨bx, 0, none⟩ = some (.int .i64 k) ∧ w'.cell? ⟨bx, 1, none⟩ = some (.int .i64 m) ∧ w'.cell? ⟨bx, 2, none⟩ = some (.int .i64 s) ∧ w'.cell? ⟨bx, 3, none⟩ = some (.string t) ∧ w'.cell? ⟨bx, 4, none⟩ = some (.slice A4 l.length q4) ∧ w'.cell? ⟨bx, 5, none⟩ = some (.slice A5 c.length q5) ∧ w'.cell? ⟨bx, 6, none⟩ = some (.slice A6 r.length q6) ∧ w'.cell? ⟨bx + 1, 0, none⟩ = some (.int .i64 4) ∧ w'.cell? ⟨bx + 1, 1, none⟩ = some (.int .i64 m') ∧ w'.cell? ⟨bx + 1, 2, none⟩ = some (.int .i64 s') ∧ w'.cell? ⟨bx + 1, 3, none⟩ = some (.string t') ∧ w'.cell? ⟨bx + 1, 4, none⟩ = some (.slice A4' l'.length q4') ∧ w'.cell? ⟨bx + 1, 5, none⟩ = some (.slice A5' c'.length q5') ∧ w'.cell? ⟨bx + 1, 6, none⟩ = some (.slice A6' r'.length q6') ∧ w'.cell? ⟨wB.heap.size, 0, none⟩ = some (.int .i64 vy0) ∧ w'.cell? ⟨wB.heap.size, 1, none⟩ = some (.int .i64 vy1) ∧ w'.cell? ⟨wB.heap.size, 2, none⟩ = some (.int .i64 vy2) ∧ w'.cell? ⟨wB.heap.size, 3, none⟩ = some (.string vy3) ∧ w'.cell? ⟨wB.heap.size, 4, none⟩ = some (.slice vy4 vn4 vc4) ∧ w'.cell? ⟨wB.heap.size, 5, none⟩ = some (.slice vy5 vn5 vc5) ∧ w'.cell? ⟨wB.heap.size, 6, none⟩ = some (.slice vy6 vn6 vc6)) (exact ⟨fB10, fB11, fB12, fB13, fB14, fB15, fB16, fB20, fB21, fB22, fB23, fB24, fB25, fB26, fB50, fB51, fB52, fB53, fB54, fB55, fB56⟩)
      (first
        | (
          go_at_call 24
          refine (specSkip_any HD1.out HD2.out HW.out _ _ _ (MSt.nth (L1 := [_, _, _, _]) HM3.out.drew).read (MSt.nth (L1 := [_, _, _, _, _]) HM3.out.drew).read D HA.out.1).mono ?_
          rintro e w4 ⟨csVs, fpVs, rfl, how, hnf, hb⟩
          obtain ⟨zy0, zy1, zy2, zy3, zy4, zn4, zc4, zy5, zn5, zc5, zy6, zn6, zc6, rfl⟩ := IsVal.form (HA.out.2.1) how.read
          have HM4 := Lib.hid (HM3.out.drew.add hb (owA_at how hnf))
          clear hb how hnf
          have hbx := (MSt.nth (L1 := [_, _, _, _]) HM4.out).box
          obtain ⟨fB10, fB11, fB12, fB13, fB14, fB15, fB16, fB1lt⟩ := box7 hbx
          clear hbx
          have hbx := (MSt.nth (L1 := [_, _, _]) HM4.out).box
          obtain ⟨fB20, fB21, fB22, fB23, fB24, fB25, fB26, fB2lt⟩ := box7 hbx
          clear hbx
          have hbx := (MSt.nth (L1 := [_]) HM4.out).box
          obtain ⟨fB50, fB51, fB52, fB53, fB54, fB55, fB56, fB5lt⟩ := box7 hbx
          clear hbx)
        | (
          go_at_call 14
          refine (specEqualValue_any HA.out.2.1 HA.out.2.1 _ _ _ (MSt.nth (L1 := [_, _]) HM4.out).read HM4.out.read).mono ?_
          rintro e w5 ⟨b, rfl, hbi, hb⟩
          obtain rfl : b = true := hbi.2 (rfl)
          clear hbi
          have HM5 := Lib.hid (HM4.out.later hb)
          clear HM4
          clear hb
          have hbx := (MSt.nth (L1 := [_, _, _, _]) HM5.out).box
          obtain ⟨fB10, fB11, fB12, fB13, fB14, fB15, fB16, fB1lt⟩ := box7 hbx
          clear hbx
          have hbx := (MSt.nth (L1 := [_, _, _]) HM5.out).box
          obtain ⟨fB20, fB21, fB22, fB23, fB24, fB25, fB26, fB2lt⟩ := box7 hbx
          clear hbx
          have hbx := (MSt.nth (L1 := [_]) HM5.out).box
          obtain ⟨fB50, fB51, fB52, fB53, fB54, fB55, fB56, fB5lt⟩ := box7 hbx
          clear hbx)
        | fail)
    have HM6 := Lib.hid (MSt.drop (HM5.out))
    clear HM5
    clear fB10 fB11 fB12 fB13 fB14 fB15 fB16 fB1lt fB20 fB21 fB22 fB23 fB24 fB25 fB26 fB2lt fB50 fB51 fB52 fB53 fB54 fB55 fB56 fB5lt
    have hbx := (MSt.nth (L1 := [_, _, _]) HM6.out).box
    obtain ⟨fB10, fB11, fB12, fB13, fB14, fB15, fB16, fB1lt⟩ := box7 hbx
    clear hbx
    have hbx := (MSt.nth (L1 := [_, _]) HM6.out).box
    obtain ⟨fB20, fB21, fB22, fB23, fB24, fB25, fB26, fB2lt⟩ := box7 hbx
    clear hbx
    have hbx := HM6.out.box
    obtain ⟨fB50, fB51, fB52, fB53, fB54, fB55, fB56, fB5lt⟩ := box7 hbx
    clear hbx
    by_cases e1 : vy0 = 4
    rotate_left
    · have n1 : (vy0 != 4) = true := by simpa using e1
      go_wp2_with fail
      go_region_held3 (fun w' => w'.cell? ⟨bx, 0, none⟩ = some (.int .i64 k) ∧ w'.cell? ⟨bx, 1, none⟩ = some (.int .i64 m) ∧ w'.cell? ⟨bx, 2, none⟩ = some (.int .i64 s) ∧ w'.cell? ⟨bx, 3, none⟩ = some (.string t) ∧ w'.cell? ⟨bx, 4, none⟩ = some (.slice A4 l.length q4) ∧ w'.cell? ⟨bx, 5, none⟩ = some (.slice A5 c.length q5) ∧ w'.cell? ⟨bx, 6, none⟩ = some (.slice A6 r.length q6) ∧ w'.cell? ⟨bx + 1, 0, none⟩ = some (.int .i64 4) ∧ w'.cell? ⟨bx + 1, 1, none⟩ = some (.int .i64 m') ∧ w'.cell? ⟨bx + 1, 2, none⟩ = some (.int .i64 s') ∧ w'.cell? ⟨bx + 1, 3, none⟩ = some (.string t') ∧ w'.cell? ⟨bx + 1, 4, none⟩ = some (.slice A4' l'.length q4') ∧ w'.cell? ⟨bx + 1, 5, none⟩ = some (.slice A5' c'.length q5') ∧ w'.cell? ⟨bx + 1, 6, none⟩ = some (.slice A6' r'.length q6') ∧ w'.cell? ⟨wB.heap.size, 0, none⟩ = some (.int .i64 vy0) ∧ w'.cell? ⟨wB.heap.size, 1, none⟩ = some (.int .i64 vy1) ∧ w'.cell? ⟨wB.heap.size, 2, none⟩ = some (.int .i64 vy2) ∧ w'.cell? ⟨wB.heap.size, 3, none⟩ = some (.string vy3) ∧ w'.cell? ⟨wB.heap.size, 4, none⟩ = some (.slice vy4 vn4 vc4) ∧ w'.cell? ⟨wB.heap.size, 5, none⟩ = some (.slice vy5 vn5 vc5) ∧ w'.cell? ⟨wB.heap.size, 6, none⟩ = some (.slice vy6 vn6 vc6)) (exact ⟨fB10, fB11, fB12, fB13, fB14, fB15, fB16, fB20, fB21, fB22, fB23, fB24, fB25, fB26, fB50, fB51, fB52, fB53, fB54, fB55, fB56⟩)
        (first
          | (
            go_at_call 24
            refine (specSkip_any HD1.out HD2.out HW.out _ _ _ (MSt.nth (L1 := [_, _, _, _]) HM6.out.drew).read (MSt.nth (L1 := [_, _, _, _, _]) HM6.out.drew).read D HA.out.1).mono ?_
            rintro e w7 ⟨csVs, fpVs, rfl, how, hnf, hb⟩
            obtain ⟨zy0, zy1, zy2, zy3, zy4, zn4, zc4, zy5, zn5, zc5, zy6, zn6, zc6, rfl⟩ := IsVal.form (HA.out.2.1) how.read
            have HM7 := Lib.hid (HM6.out.drew.add hb (owA_at how hnf))
            clear hb how hnf
            have hbx := (MSt.nth (L1 := [_, _, _, _]) HM7.out).box
            obtain ⟨fB10, fB11, fB12, fB13, fB14, fB15, fB16, fB1lt⟩ := box7 hbx
            clear hbx
            have hbx := (MSt.nth (L1 := [_, _, _]) HM7.out).box
            obtain ⟨fB20, fB21, fB22, fB23, fB24, fB25, fB26, fB2lt⟩ := box7 hbx
            clear hbx
            have hbx := (MSt.nth (L1 := [_]) HM7.out).box
            obtain ⟨fB50, fB51, fB52, fB53, fB54, fB55, fB56, fB5lt⟩ := box7 hbx
            clear hbx)
          | (
            go_at_call 14
            refine (specEqualValue_any HA.out.2.1 HA.out.2.1 _ _ _ (MSt.nth (L1 := [_, _]) HM7.out).read HM7.out.read).mono ?_
            rintro e w8 ⟨b, rfl, hbi, hb⟩
            obtain rfl : b = true := hbi.2 (rfl)
            clear hbi
            have HM8 := Lib.hid (HM7.out.later hb)
            clear HM7
            clear hb
            have hbx := (MSt.nth (L1 := [_, _, _, _]) HM8.out).box
            obtain ⟨fB10, fB11, fB12, fB13, fB14, fB15, fB16, fB1lt⟩ := box7 hbx
            clear hbx
            have hbx := (MSt.nth (L1 := [_, _, _]) HM8.out).box
            obtain ⟨fB20, fB21, fB22, fB23, fB24, fB25, fB26, fB2lt⟩ := box7 hbx
            clear hbx
            have hbx := (MSt.nth (L1 := [_]) HM8.out).box
            obtain ⟨fB50, fB51, fB52, fB53, fB54, fB55, fB56, fB5lt⟩ := box7 hbx
            clear hbx)
          | fail)
      have HM9 := Lib.hid (MSt.drop (HM8.out))
      clear HM8
      clear fB10 fB11 fB12 fB13 fB14 fB15 fB16 fB1lt fB20 fB21 fB22 fB23 fB24 fB25 fB26 fB2lt fB50 fB51 fB52 fB53 fB54 fB55 fB56 fB5lt
      go_wp2_with fail
      go_ret
      exact ⟨rfl, HM9.out.bel⟩
    subst e1
    clear fB10 fB11 fB12 fB13 fB14 fB15 fB16 fB1lt fB20 fB21 fB22 fB23 fB24 fB25 fB26 fB2lt fB50 fB51 fB52 fB53 fB54 fB55 fB56 fB5lt
    obtain ⟨⟨hf1, hf2, hk1, -⟩, hneg, hno, hDD⟩ := skip_fine HA.out.1 HK.out.1.1
    obtain rfl : k = 1 := hk1
    obtain rfl : vy2 = s' := by rw [← HK.out.2, hDD]; rfl
    have hv1 : vy1 = m' + m * vy2 := by rw [← HK.out.1.2, hDD]; rfl
    have hna := numOf_fine HD1.out hf1 rfl
    have hst := str_fine HD2.out hf2 rfl
    simp only [Dt.nm, Dt.stp] at hna hst hneg hno hDD
    rw [← hv1] at hno hDD
    subst hDD
    have HF := Lib.hid (And.intro hf2 (And.intro (show Fine (strD vy1 vy2) from ⟨str_SV hno hst.2, by simp [strD, Dt.kd]⟩) (And.intro hno (And.intro hst hv1))))
    unfold NumOk at hna
    obtain ⟨a1, a2⟩ := hna
    clear hf1 hf2 hst hno hv1
    have hbx := (MSt.nth (L1 := [_, _, _]) HM6.out).box
    obtain ⟨fB10, fB11, fB12, fB13, fB14, fB15, fB16, fB1lt⟩ := box7 hbx
    clear hbx
    have hbx := (MSt.nth (L1 := [_, _]) HM6.out).box
    obtain ⟨fB20, fB21, fB22, fB23, fB24, fB25, fB26, fB2lt⟩ := box7 hbx
    clear hbx
    have hbx := HM6.out.box
    obtain ⟨fB50, fB51, fB52, fB53, fB54, fB55, fB56, fB5lt⟩ := box7 hbx
    clear hbx
    go_wp2_with fail
    clear fB10 fB11 fB12 fB13 fB14 fB15 fB16 fB1lt fB20 fB21 fB22 fB23 fB24 fB25 fB26 fB2lt fB50 fB51 fB52 fB53 fB54 fB55 fB56 fB5lt
    go_loopw [6] (fun iv wr => ∃ j : Nat, j ≤ 4 ∧ iv = .int .i64 (j : Int) ∧ Hid (MSt w [boxA 28 7 (wB.heap.size) [.int .i64 4, .int .i64 vy1, .int .i64 vy2, .string vy3, .slice vy4 vn4 vc4, .slice vy5 vn5 vc5, .slice vy6 vn6 vc6], owA (strD vy1 vy2) [.int .i64 4, .int .i64 vy1, .int .i64 vy2, .string vy3, .slice vy4 vn4 vc4, .slice vy5 vn5 vc5, .slice vy6 vn6 vc6] fpVv, boxA 28 7 (bx + 1) [.int .i64 4, .int .i64 m', .int .i64 vy2, .string t', .slice A4' l'.length q4', .slice A5' c'.length q5', .slice A6' r'.length q6'], boxA 28 7 (bx) [.int .i64 1, .int .i64 m, .int .i64 s, .string t, .slice A4 l.length q4, .slice A5 c.length q5, .slice A6 r.length q6], owA ((.agg [.int 1, .int m, .int s, .str t, .lst l, .lst (c.map .str), .lst r])) [.int .i64 1, .int .i64 m, .int .i64 s, .string t, .slice A4 l.length q4, .slice A5 c.length q5, .slice A6 r.length q6] f1, owA ((.agg [.int 4, .int m', .int vy2, .str t', .lst l', .lst (c'.map .str), .lst r'])) [.int .i64 4, .int .i64 m', .int .i64 vy2, .string t', .slice A4' l'.length q4', .slice A5' c'.length q5', .slice A6' r'.length q6'] f2] wr)) (fun iv _ => 4 - (intOf iv).toNat)
    case atStart => exact ⟨0, by omega, rfl, HM6⟩
    case round =>
      obtain ⟨j, hj, rfl, HM1⟩ := hrel
      have hszr := HM1.out.size
      by_cases hlt : j < 4
      · obtain ⟨i, hi⟩ : ∃ i : Int, i = (j : Int) := ⟨_, rfl⟩
        have hlt4 : (j : Int) < 4 := by omega
        have hltd : decide ((j : Int) < 4) = true := by simp; omega
        have htw := nth_of_str (i := (j : Int)) (by omega) (by unfold NumOk; omega) HF.out.2.1 rfl
        have htw : Two nthD (valD 1 (j : Int) ⟨#[]⟩ []) (strD vy1 vy2) (chkD (vy1 + (j : Int) * vy2)) := htw
        have HT := Lib.hid htw
        clear htw hi i
        have hbx := (MSt.nth (L1 := [_, _, _]) HM1.out).box
        obtain ⟨fB10, fB11, fB12, fB13, fB14, fB15, fB16, fB1lt⟩ := box7 hbx
        clear hbx
        have hbx := (MSt.nth (L1 := [_, _]) HM1.out).box
        obtain ⟨fB20, fB21, fB22, fB23, fB24, fB25, fB26, fB2lt⟩ := box7 hbx
        clear hbx
        have hbx := HM1.out.box
        obtain ⟨fB50, fB51, fB52, fB53, fB54, fB55, fB56, fB5lt⟩ := box7 hbx
        clear hbx
        go_upto_region 10 with fail
        go_cut [7] from 43 to 47 (fun p wx => ∃ (gX : Nat) (cx : List Value) (fx : List Nat), p = .pointer (some ⟨gX, 0, none⟩) ∧ MSt w (boxA 28 7 gX cx :: owA (chkD (vy1 + (j : Int) * vy2)) cx fx :: [boxA 28 7 (wB.heap.size) [.int .i64 4, .int .i64 vy1, .int .i64 vy2, .string vy3, .slice vy4 vn4 vc4, .slice vy5 vn5 vc5, .slice vy6 vn6 vc6], owA (strD vy1 vy2) [.int .i64 4, .int .i64 vy1, .int .i64 vy2, .string vy3, .slice vy4 vn4 vc4, .slice vy5 vn5 vc5, .slice vy6 vn6 vc6] fpVv, boxA 28 7 (bx + 1) [.int .i64 4, .int .i64 m', .int .i64 vy2, .string t', .slice A4' l'.length q4', .slice A5' c'.length q5', .slice A6' r'.length q6'], boxA 28 7 (bx) [.int .i64 1, .int .i64 m, .int .i64 s, .string t, .slice A4 l.length q4, .slice A5 c.length q5, .slice A6 r.length q6], owA ((.agg [.int 1, .int m, .int s, .str t, .lst l, .lst (c.map .str), .lst r])) [.int .i64 1, .int .i64 m, .int .i64 s, .string t, .slice A4 l.length q4, .slice A5 c.length q5, .slice A6 r.length q6] f1, owA ((.agg [.int 4, .int m', .int vy2, .str t', .lst l', .lst (c'.map .str), .lst r'])) [.int .i64 4, .int .i64 m', .int .i64 vy2, .string t', .slice A4' l'.length q4', .slice A5' c'.length q5', .slice A6' r'.length q6'] f2]) wx)
        case first =>
          go_region_law (first
            | (
              go_simp
              go_at_call 26
              refine (specNumberValue_any (j : Int) _).mono ?_
              rintro e wa2 ⟨rfl, hb⟩
              first | (have HL := Lib.hid (HM1.out.drew.later hb)) | (have hx0 := (HM1.out.drew.new 28 7 #[.int .i64 0, .int .i64 0, .int .i64 0, .string ⟨#[]⟩, .slice none 0 0, .slice none 0 0, .slice none 0 0] rfl).later hb; simp only [World.size_drew] at hx0; have HX := Lib.hid hx0; clear hx0) | fail
              have hws2 := hb.size
              first | simp at hws2 | skip
              clear hb
              first | have hbm := MSt.has HL.out (a := boxA 28 7 (bx) [.int .i64 1, .int .i64 m, .int .i64 s, .string t, .slice A4 l.length q4, .slice A5 c.length q5, .slice A6 r.length q6]) (by simp) | have hbm := MSt.has HX.out (a := boxA 28 7 (bx) [.int .i64 1, .int .i64 m, .int .i64 s, .string t, .slice A4 l.length q4, .slice A5 c.length q5, .slice A6 r.length q6]) (by simp) | fail
              obtain ⟨fB10, fB11, fB12, fB13, fB14, fB15, fB16, fB1lt⟩ := box7 hbm
              clear hbm
              first | have hbm := MSt.has HL.out (a := boxA 28 7 (bx + 1) [.int .i64 4, .int .i64 m', .int .i64 vy2, .string t', .slice A4' l'.length q4', .slice A5' c'.length q5', .slice A6' r'.length q6']) (by simp) | have hbm := MSt.has HX.out (a := boxA 28 7 (bx + 1) [.int .i64 4, .int .i64 m', .int .i64 vy2, .string t', .slice A4' l'.length q4', .slice A5' c'.length q5', .slice A6' r'.length q6']) (by simp) | fail
              obtain ⟨fB20, fB21, fB22, fB23, fB24, fB25, fB26, fB2lt⟩ := box7 hbm
              clear hbm
              first | have hbm := MSt.has HL.out (a := boxA 28 7 (wB.heap.size) [.int .i64 4, .int .i64 vy1, .int .i64 vy2, .string vy3, .slice vy4 vn4 vc4, .slice vy5 vn5 vc5, .slice vy6 vn6 vc6]) (by simp) | have hbm := MSt.has HX.out (a := boxA 28 7 (wB.heap.size) [.int .i64 4, .int .i64 vy1, .int .i64 vy2, .string vy3, .slice vy4 vn4 vc4, .slice vy5 vn5 vc5, .slice vy6 vn6 vc6]) (by simp) | fail
              obtain ⟨fB50, fB51, fB52, fB53, fB54, fB55, fB56, fB5lt⟩ := box7 hbm
              clear hbm
              first | (have hbx := MSt.box (HX.out); obtain ⟨fX0, fX1, fX2, fX3, fX4, fX5, fX6, fXlt⟩ := box7 hbx; obtain ⟨zX0, zX1, zX2, zX3, zX4, zX5, zX6⟩ := box7z hbx; clear hbx) | skip)
            | (
              go_simp
              go_at_call 25
              first | refine (implNth_any (isVal_flatD 1 (j : Int) ⟨#[]⟩) HA.out.2.1 (by rw [wt_flatD]; have := HA.out.2.2; omega) _ _ _ (Rd.flat _ _ 1 (j : Int) 0 ⟨#[]⟩) (MSt.has HL.out (a := owA (strD vy1 vy2) [.int .i64 4, .int .i64 vy1, .int .i64 vy2, .string vy3, .slice vy4 vn4 vc4, .slice vy5 vn5 vc5, .slice vy6 vn6 vc6] fpVv) (by simp)).1.read _ HT.out).mono ?_ | refine (implNth_any (isVal_flatD 1 (j : Int) ⟨#[]⟩) HA.out.2.1 (by rw [wt_flatD]; have := HA.out.2.2; omega) _ _ _ (Rd.flat _ _ 1 (j : Int) 0 ⟨#[]⟩) (MSt.has HX.out (a := owA (strD vy1 vy2) [.int .i64 4, .int .i64 vy1, .int .i64 vy2, .string vy3, .slice vy4 vn4 vc4, .slice vy5 vn5 vc5, .slice vy6 vn6 vc6] fpVv) (by simp)).1.read _ HT.out).mono ?_ | refine (implNth_any (isVal_flatD 1 (j : Int) ⟨#[]⟩) HA.out.2.1 (by rw [wt_flatD]; have := HA.out.2.2; omega) _ _ _ (Rd.flat _ _ 1 (j : Int) 0 ⟨#[]⟩) (MSt.has (HL.out.new 28 7 #[.int .i64 0, .int .i64 0, .int .i64 0, .string ⟨#[]⟩, .slice none 0 0, .slice none 0 0, .slice none 0 0] rfl) (a := owA (strD vy1 vy2) [.int .i64 4, .int .i64 vy1, .int .i64 vy2, .string vy3, .slice vy4 vn4 vc4, .slice vy5 vn5 vc5, .slice vy6 vn6 vc6] fpVv) (by simp)).1.read _ HT.out).mono ?_ | fail
              rintro e wa3 ⟨cx, fx, rfl, how, hnf, hb⟩
              obtain ⟨xy0, xy1, xy2, xy3, xy4, xn4, xc4, xy5, xn5, xc5, xy6, xn6, xc6, rfl⟩ := IsVal.form (show IsVal (chkD (vy1 + (j : Int) * vy2)) from isVal_flatD _ _ _) how.read
              first | (have HY := Lib.hid (HX.out.add hb (owA_at how hnf))) | (have HM := Lib.hid (HL.out.add hb (owA_at how hnf))) | (have HY := Lib.hid ((HL.out.new 28 7 #[.int .i64 0, .int .i64 0, .int .i64 0, .string ⟨#[]⟩, .slice none 0 0, .slice none 0 0, .slice none 0 0] rfl).add hb (owA_at how hnf))) | fail
              clear hb how hnf
              first | (have hbx := MSt.box (MSt.swap HY.out); obtain ⟨fX0, fX1, fX2, fX3, fX4, fX5, fX6, fXlt⟩ := box7 hbx; obtain ⟨zX0, zX1, zX2, zX3, zX4, zX5, zX6⟩ := box7z hbx; clear hbx) | skip)
            | fail)
          all_goals
            go_wp2_with fail
            go_meet
            refine ⟨_, [.int .i64 xy0, .int .i64 xy1, .int .i64 xy2, .string xy3, .slice xy4 xn4 xc4, .slice xy5 xn5 xc5, .slice xy6 xn6 xc6], fx, rfl, ?_⟩
            first
              | (have hg := MSt.set7 (e := 28) (MSt.swap HY.out) [.int .i64 xy0, .int .i64 xy1, .int .i64 xy2, .string xy3, .slice xy4 xn4 xc4, .slice xy5 xn5 xc5, .slice xy6 xn6 xc6] (by simp); simp only [World.setCells, Nat.zero_add, Nat.reduceAdd, World.size_drew] at hg; (with_reducible exact hg))
              | (with_reducible exact (HM.out.new 28 7 #[.int .i64 xy0, .int .i64 xy1, .int .i64 xy2, .string xy3, .slice xy4 xn4 xc4, .slice xy5 xn5 xc5, .slice xy6 xn6 xc6] rfl))
              | fail
        case rest =>
          obtain ⟨gX, cx, fx, rfl, hM⟩ := hcut
          obtain ⟨xy0, xy1, xy2, xy3, xy4, xn4, xc4, xy5, xn5, xc5, xy6, xn6, xc6, rfl⟩ := IsVal.form (show IsVal (chkD (vy1 + (j : Int) * vy2)) from isVal_flatD _ _ _) (MSt.read (MSt.nth (L1 := [_]) hM))
          have HM2 := Lib.hid hM
          clear hM HM1 fB10 fB11 fB12 fB13 fB14 fB15 fB16 fB1lt fB20 fB21 fB22 fB23 fB24 fB25 fB26 fB2lt fB50 fB51 fB52 fB53 fB54 fB55 fB56 fB5lt
          obtain ⟨wq2, rfl⟩ : ∃ wo : World, wo = wc := ⟨_, rfl⟩
          have hwm : IntKind.i64.wrap (m + (j : Int)) = m + (j : Int) := by rw [IntKind.wrap_i64]; omega
          by_cases hle : m + (j : Int) ≤ 1000000000
          · have htw := nth_of_str (i := m + (j : Int)) (by omega) (by unfold NumOk; omega) HF.out.1 rfl
            have htw : Two nthD (valD 1 (m + (j : Int)) ⟨#[]⟩ []) (.agg [.int 4, .int m', .int vy2, .str t', .lst l', .lst (c'.map .str), .lst r']) (chkD (m' + (m + (j : Int)) * vy2)) := htw
            rw [← prod_split m' vy2 m (j : Int), ← HF.out.2.2.2.2] at htw
            have HT2 := Lib.hid htw
            clear htw
            have hbx := (MSt.nth (L1 := [_, _, _, _, _]) HM2.out).box
            obtain ⟨fB10, fB11, fB12, fB13, fB14, fB15, fB16, fB1lt⟩ := box7 hbx
            clear hbx
            have hbx := (MSt.nth (L1 := [_, _, _, _]) HM2.out).box
            obtain ⟨fB20, fB21, fB22, fB23, fB24, fB25, fB26, fB2lt⟩ := box7 hbx
            clear hbx
            have hbx := (MSt.nth (L1 := [_, _]) HM2.out).box
            obtain ⟨fB50, fB51, fB52, fB53, fB54, fB55, fB56, fB5lt⟩ := box7 hbx
            clear hbx
            have hbx := HM2.out.box
            obtain ⟨fBX0, fBX1, fBX2, fBX3, fBX4, fBX5, fBX6, fBXlt⟩ := box7 hbx
            clear hbx
            have hld : decide (m + (j : Int) ≤ 1000000000) = true := by simp; omega
            go_upto_region 11 with fail
            go_region_held3 (fun w' => w'.cell? ⟨bx, 0, none⟩ = some (.int .i64 1) ∧ w'.cell? ⟨bx, 1, none⟩ = some (.int .i64 m) ∧ w'.cell? ⟨bx, 2, none⟩ = some (.int .i64 s) ∧ w'.cell? ⟨bx, 3, none⟩ = some (.string t) ∧ w'.cell? ⟨bx, 4, none⟩ = some (.slice A4 l.length q4) ∧ w'.cell? ⟨bx, 5, none⟩ = some (.slice A5 c.length q5) ∧ w'.cell? ⟨bx, 6, none⟩ = some (.slice A6 r.length q6) ∧ w'.cell? ⟨bx + 1, 0, none⟩ = some (.int .i64 4) ∧ w'.cell? ⟨bx + 1, 1, none⟩ = some (.int .i64 m') ∧ w'.cell? ⟨bx + 1, 2, none⟩ = some (.int .i64 vy2) ∧ w'.cell? ⟨bx + 1, 3, none⟩ = some (.string t') ∧ w'.cell? ⟨bx + 1, 4, none⟩ = some (.slice A4' l'.length q4') ∧ w'.cell? ⟨bx + 1, 5, none⟩ = some (.slice A5' c'.length q5') ∧ w'.cell? ⟨bx + 1, 6, none⟩ = some (.slice A6' r'.length q6') ∧ w'.cell? ⟨wB.heap.size, 0, none⟩ = some (.int .i64 4) ∧ w'.cell? ⟨wB.heap.size, 1, none⟩ = some (.int .i64 vy1) ∧ w'.cell? ⟨wB.heap.size, 2, none⟩ = some (.int .i64 vy2) ∧ w'.cell? ⟨wB.heap.size, 3, none⟩ = some (.string vy3) ∧ w'.cell? ⟨wB.heap.size, 4, none⟩ = some (.slice vy4 vn4 vc4) ∧ w'.cell? ⟨wB.heap.size, 5, none⟩ = some (.slice vy5 vn5 vc5) ∧ w'.cell? ⟨wB.heap.size, 6, none⟩ = some (.slice vy6 vn6 vc6) ∧ w'.cell? ⟨gX, 0, none⟩ = some (.int .i64 xy0) ∧ w'.cell? ⟨gX, 1, none⟩ = some (.int .i64 xy1) ∧ w'.cell? ⟨gX, 2, none⟩ = some (.int .i64 xy2) ∧ w'.cell? ⟨gX, 3, none⟩ = some (.string xy3) ∧ w'.cell? ⟨gX, 4, none⟩ = some (.slice xy4 xn4 xc4) ∧ w'.cell? ⟨gX, 5, none⟩ = some (.slice xy5 xn5 xc5) ∧ w'.cell? ⟨gX, 6, none⟩ = some (.slice xy6 xn6 xc6)) (exact ⟨fB10, fB11, fB12, fB13, fB14, fB15, fB16, fB20, fB21, fB22, fB23, fB24, fB25, fB26, fB50, fB51, fB52, fB53, fB54, fB55, fB56, fBX0, fBX1, fBX2, fBX3, fBX4, fBX5, fBX6⟩)
              (first
                | (
                  go_at_call 26
                  refine (specNumberValue_any (m + (j : Int)) _).mono ?_
                  rintro e w3 ⟨rfl, hb⟩
                  have HM3 := Lib.hid (HM2.out.drew.later hb)
                  clear hb
                  have hbx := (MSt.nth (L1 := [_, _, _, _, _]) HM3.out).box
                  obtain ⟨fB10, fB11, fB12, fB13, fB14, fB15, fB16, fB1lt⟩ := box7 hbx
                  clear hbx
                  have hbx := (MSt.nth (L1 := [_, _, _, _]) HM3.out).box
                  obtain ⟨fB20, fB21, fB22, fB23, fB24, fB25, fB26, fB2lt⟩ := box7 hbx
                  clear hbx
                  have hbx := (MSt.nth (L1 := [_, _]) HM3.out).box
                  obtain ⟨fB50, fB51, fB52, fB53, fB54, fB55, fB56, fB5lt⟩ := box7 hbx
                  clear hbx
                  have hbx := HM3.out.box
                  obtain ⟨fBX0, fBX1, fBX2, fBX3, fBX4, fBX5, fBX6, fBXlt⟩ := box7 hbx
                  clear hbx)
                | (
                  go_at_call 25
                  refine (implNth_any (isVal_flatD 1 (m + (j : Int)) ⟨#[]⟩) HD2.out (by rw [wt_flatD]; have := HW2.out; omega) _ _ _ (Rd.flat _ _ 1 (m + (j : Int)) 0 ⟨#[]⟩) (MSt.nth (L1 := [_, _, _, _, _, _, _]) HM3.out).read _ HT2.out).mono ?_
                  rintro e w4 ⟨csVY, fpVY, rfl, how, hnf, hb⟩
                  obtain ⟨yy0, yy1, yy2, yy3, yy4, yn4, yc4, yy5, yn5, yc5, yy6, yn6, yc6, rfl⟩ := IsVal.form (show IsVal (chkD (vy1 + (j : Int) * vy2)) from isVal_flatD _ _ _) how.read
                  have HM4 := Lib.hid (HM3.out.add hb (owA_at how hnf))
                  clear hb how hnf
                  have hbx := (MSt.nth (L1 := [_, _, _, _, _, _]) HM4.out).box
                  obtain ⟨fB10, fB11, fB12, fB13, fB14, fB15, fB16, fB1lt⟩ := box7 hbx
                  clear hbx
                  have hbx := (MSt.nth (L1 := [_, _, _, _, _]) HM4.out).box
                  obtain ⟨fB20, fB21, fB22, fB23, fB24, fB25, fB26, fB2lt⟩ := box7 hbx
                  clear hbx
                  have hbx := (MSt.nth (L1 := [_, _, _]) HM4.out).box
                  obtain ⟨fB50, fB51, fB52, fB53, fB54, fB55, fB56, fB5lt⟩ := box7 hbx
                  clear hbx
                  have hbx := (MSt.nth (L1 := [_]) HM4.out).box
                  obtain ⟨fBX0, fBX1, fBX2, fBX3, fBX4, fBX5, fBX6, fBXlt⟩ := box7 hbx
                  clear hbx)
                | (
                  go_at_call 14
                  refine (specEqualValue_any (show IsVal (chkD (vy1 + (j : Int) * vy2)) from isVal_flatD _ _ _) (show IsVal (chkD (vy1 + (j : Int) * vy2)) from isVal_flatD _ _ _) _ _ _ (MSt.nth (L1 := [_, _]) HM4.out).read HM4.out.read).mono ?_
                  rintro e w5 ⟨b, rfl, hbi, hb⟩
                  obtain rfl : b = true := hbi.2 (rfl)
                  clear hbi
                  have HM5 := Lib.hid (HM4.out.later hb)
                  clear HM4
                  clear hb
                  have hbx := (MSt.nth (L1 := [_, _, _, _, _, _]) HM5.out).box
                  obtain ⟨fB10, fB11, fB12, fB13, fB14, fB15, fB16, fB1lt⟩ := box7 hbx
                  clear hbx
                  have hbx := (MSt.nth (L1 := [_, _, _, _, _]) HM5.out).box
                  obtain ⟨fB20, fB21, fB22, fB23, fB24, fB25, fB26, fB2lt⟩ := box7 hbx
                  clear hbx
                  have hbx := (MSt.nth (L1 := [_, _, _]) HM5.out).box
                  obtain ⟨fB50, fB51, fB52, fB53, fB54, fB55, fB56, fB5lt⟩ := box7 hbx
                  clear hbx
                  have hbx := (MSt.nth (L1 := [_]) HM5.out).box
                  obtain ⟨fBX0, fBX1, fBX2, fBX3, fBX4, fBX5, fBX6, fBXlt⟩ := box7 hbx
                  clear hbx)
                | fail)
            have HM6 := Lib.hid (MSt.drop (HM5.out))
            clear HM5
            clear fB10 fB11 fB12 fB13 fB14 fB15 fB16 fB1lt fB20 fB21 fB22 fB23 fB24 fB25 fB26 fB2lt fB50 fB51 fB52 fB53 fB54 fB55 fB56 fB5lt fBX0 fBX1 fBX2 fBX3 fBX4 fBX5 fBX6 fBXlt
            have HE := Lib.hid (MSt.drop (MSt.drop HM6.out))
            have hbx := (MSt.nth (L1 := [_, _, _, _, _]) HM6.out).box
            obtain ⟨fB10, fB11, fB12, fB13, fB14, fB15, fB16, fB1lt⟩ := box7 hbx
            clear hbx
            have hbx := (MSt.nth (L1 := [_, _, _, _]) HM6.out).box
            obtain ⟨fB20, fB21, fB22, fB23, fB24, fB25, fB26, fB2lt⟩ := box7 hbx
            clear hbx
            have hbx := (MSt.nth (L1 := [_, _]) HM6.out).box
            obtain ⟨fB50, fB51, fB52, fB53, fB54, fB55, fB56, fB5lt⟩ := box7 hbx
            clear hbx
            go_wp2_with fail
            exact ⟨⟨j + 1, by omega, by simp, HE⟩, by simp [intOf]; omega⟩
          · have hle2 : ¬ m + (j : Int) ≤ 1000000000 := hle
            have hld : decide (m + (j : Int) ≤ 1000000000) = false := by simp; omega
            have hbx := (MSt.nth (L1 := [_, _, _, _, _]) HM2.out).box
            obtain ⟨fB10, fB11, fB12, fB13, fB14, fB15, fB16, fB1lt⟩ := box7 hbx
            clear hbx
            have hbx := (MSt.nth (L1 := [_, _, _, _]) HM2.out).box
            obtain ⟨fB20, fB21, fB22, fB23, fB24, fB25, fB26, fB2lt⟩ := box7 hbx
            clear hbx
            have hbx := (MSt.nth (L1 := [_, _]) HM2.out).box
            obtain ⟨fB50, fB51, fB52, fB53, fB54, fB55, fB56, fB5lt⟩ := box7 hbx
            clear hbx
            have hbx := HM2.out.box
            obtain ⟨fBX0, fBX1, fBX2, fBX3, fBX4, fBX5, fBX6, fBXlt⟩ := box7 hbx
            clear hbx
            go_upto_region 11 with fail
            go_quiet (fail)
            go_wp2_with fail
            exact ⟨⟨j + 1, by omega, by simp, Lib.hid (by first | exact MSt.drop (MSt.drop HM2.out) | exact MSt.drop (MSt.drop HM2.out.drew) | exact MSt.drop (MSt.drop (HM2.out.drewN _)))⟩, by simp [intOf]; omega⟩
      · obtain rfl : j = 4 := by omega
        have hbx := (MSt.nth (L1 := [_, _, _]) HM1.out).box
        obtain ⟨fB10, fB11, fB12, fB13, fB14, fB15, fB16, fB1lt⟩ := box7 hbx
        clear hbx
        have hbx := (MSt.nth (L1 := [_, _]) HM1.out).box
        obtain ⟨fB20, fB21, fB22, fB23, fB24, fB25, fB26, fB2lt⟩ := box7 hbx
        clear hbx
        have hbx := HM1.out.box
        obtain ⟨fB50, fB51, fB52, fB53, fB54, fB55, fB56, fB5lt⟩ := box7 hbx
        clear hbx
        go_wp2_with fail
        go_ret
        exact ⟨by simp, HM1.out.bel⟩
end Go.Proofs.YtabcmnlmmpbmnaaGreat
