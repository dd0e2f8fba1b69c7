/-
  Texts that the proof rests on, put together: TkSk.
-/
import Derived.Test.YtabcmnlmmpbmnaaGreatMgH50
import Derived.Test.YtabcmnlmmpbmnaaGreatMgH44
import Derived.Test.YtabcmnlmmpbmnaaGreatMgH46
import Derived.Test.YtabcmnlmmpbmnaaGreatMgH47
import Derived.Test.YtabcmnlmmpbmnaaGreatMgH48
import Derived.Test.YtabcmnlmmpbmnaaGreatMgH49
import Derived.Test.YtabcmnlmmpbmnaaGreatMgH53
import Derived.Test.YtabcmnlmmpbmnaaGreatMgH24
import Derived.Test.YtabcmnlmmpbmnaaGreatMgH32
import Derived.Test.YtabcmnlmmpbmnaaGreatMgH3
import Derived.Deep.RegionLaw
import Derived.Deep.RegionHeld3
import Derived.Outline
/-
  The law FnTakeSkip. (Written by genlstlaws.py.)
-/

namespace Go.Proofs.YtabcmnlmmpbmnaaGreat
open Go.RowKit
set_option linter.unusedVariables false
set_option linter.unusedSimpArgs false

set_option maxHeartbeats 12800000 in
set_option maxRecDepth 100000 in
theorem fnTakeSkip_walk (A : Option Addr) (n c : Nat) (zs : List Int) (w : World) (h : IsBytes .u8 w A n c zs) :
    Calls Tryz.prog 5 #[.slice A n c] w fun e w' => e = .returned (.bool true) ∧ Below w.heap.size w w' := by
  by_cases hb : 1048576 < n
  · have hbig := big_yes A n c w hb h.code.1
    clear h
    go_enter Tryz.func5, Tryz.ntmps5
    go_wp2_with fail
    refine hbig.mono ?_
    rintro e w1 ⟨rfl, rfl⟩
    go_wp2_with fail
    go_ret
    exact ⟨rfl, Below.refl _ _⟩
  · have hbig := big_no A n c w (by omega)
    have HC := Lib.hid h.code
    clear h
    go_enter Tryz.func5, Tryz.ntmps5
    go_wp2_with fail
    refine hbig.mono ?_
    rintro e w ⟨rfl, rfl⟩
    clear hbig
    go_wp2_with fail
    refine (drawTake_any A n c w HC.out (by omega)).mono ?_
    rintro e w1 ⟨d1, c1, f1, d2, c2, f2, hd1, hw1, hd2, hw2, rfl, hD⟩
    have HD1 := Lib.hid hd1
    have HD2 := Lib.hid hd2
    obtain ⟨k, m, s, t, l, c, r, hl, hr⟩ := hd1
    obtain ⟨A4, q4, A5, q5, A6, q6, rfl, -, -, -⟩ := Rd.ofValue (hD).objs.out.1.read
    obtain ⟨k', m', s', t', l', c', r', hl', hr'⟩ := hd2
    obtain ⟨A4', q4', A5', q5', A6', q6', rfl, -, -, -⟩ := Rd.ofValue (MSt.swap hD).objs.out.1.read
    simp only [List.length_map] at hD
    have h1 := (hD.new 28 7 #[.int .i64 k, .int .i64 m, .int .i64 s, .string t, .slice A4 l.length q4, .slice A5 c.length q5, .slice A6 r.length q6] rfl).new 28 7 #[.int .i64 k', .int .i64 m', .int .i64 s', .string t', .slice A4' l'.length q4', .slice A5' c'.length q5', .slice A6' r'.length q6'] rfl
    rw [World.size_alloc] at h1
    have HM1 := Lib.hid h1
    have HW := Lib.hid (show Dt.wt (.agg [.int k, .int m, .int s, .str t, .lst l, .lst (c.map .str), .lst r]) + Dt.wt (.agg [.int k', .int m', .int s', .str t', .lst l', .lst (c'.map .str), .lst r']) ≤ 1048576 by omega)
    have HW1 := Lib.hid (show Dt.wt (.agg [.int k, .int m, .int s, .str t, .lst l, .lst (c.map .str), .lst r]) ≤ 1048576 by omega)
    have HW2 := Lib.hid (show Dt.wt (.agg [.int k', .int m', .int s', .str t', .lst l', .lst (c'.map .str), .lst r']) ≤ 1048576 by omega)
    have HN := Lib.hid hb
    clear h1 hw1 hw2 hD hb hl hr hl' hr'
    simp only [List.length_map]
    go_wp2_with fail
    generalize hW : (w1.alloc (.cells #[.int .i64 k, .int .i64 m, .int .i64 s, .string t, .slice A4 l.length q4, .slice A5 c.length q5, .slice A6 r.length q6] 28)).alloc (.cells #[.int .i64 k', .int .i64 m', .int .i64 s', .string t', .slice A4' l'.length q4', .slice A5' c'.length q5', .slice A6' r'.length q6'] 28) = W0 at *
    clear hW
    generalize hx : w1.heap.size = bx at *
    clear hx
    obtain ⟨D, hap⟩ := two_some takeD (.agg [.int k, .int m, .int s, .str t, .lst l, .lst (c.map .str), .lst r]) (.agg [.int k', .int m', .int s', .str t', .lst l', .lst (c'.map .str), .lst r'])
    obtain ⟨E, hbp⟩ := two_some skipD (.agg [.int k, .int m, .int s, .str t, .lst l, .lst (c.map .str), .lst r]) (.agg [.int k', .int m', .int s', .str t', .lst l', .lst (c'.map .str), .lst r'])
    have HA := Lib.hid (And.intro hap (And.intro (hap.val (isVal_takeD _ HD2.out)) (hap.wtTake HD2.out HW2.out)))
    have HB := Lib.hid (And.intro hbp (And.intro (hbp.val (isVal_skipD _ HD2.out)) (Nat.le_trans (hbp.wt (wt_skipD _ HD2.out)) HW.out)))
    clear hap hbp
    refine (implTake_any HD1.out HD2.out HW.out _ _ _ (MSt.nth (L1 := [_, _]) HM1.out).read (MSt.nth (L1 := [_, _, _]) HM1.out).read D HA.out.1).mono ?_
    rintro e w2 ⟨csVa, fpVa, rfl, how, hnf, hb⟩
    obtain ⟨ay0, ay1, ay2, ay3, ay4, an4, ac4, ay5, an5, ac5, ay6, an6, ac6, rfl⟩ := IsVal.form (HA.out.2.1) how.read
    have HM2 := Lib.hid (HM1.out.add hb (owA_at how hnf))
    clear HM1
    clear hb how hnf
    obtain ⟨wB, rfl⟩ : ∃ wo : World, wo = w2 := ⟨_, rfl⟩
    have hbx := (MSt.nth (L1 := [_, _]) HM2.out).box
    obtain ⟨fB10, fB11, fB12, fB13, fB14, fB15, fB16, fB1lt⟩ := box7 hbx
    clear hbx
    have hbx := (MSt.nth (L1 := [_]) HM2.out).box
    obtain ⟨fB20, fB21, fB22, fB23, fB24, fB25, fB26, fB2lt⟩ := box7 hbx
    clear hbx
    go_wp2_with fail
    have HM3 := Lib.hid (HM2.out.new 28 7 #[.int .i64 ay0, .int .i64 ay1, .int .i64 ay2, .string ay3, .slice ay4 an4 ac4, .slice ay5 an5 ac5, .slice ay6 an6 ac6] rfl)
    clear HM2
    clear fB10 fB11 fB12 fB13 fB14 fB15 fB16 fB1lt fB20 fB21 fB22 fB23 fB24 fB25 fB26 fB2lt
    refine (implSkip_any HD1.out HD2.out HW.out _ _ _ (MSt.nth (L1 := [_, _, _, _]) HM3.out).read (MSt.nth (L1 := [_, _, _, _, _]) HM3.out).read E HB.out.1).mono ?_
    rintro e w4 ⟨csVb, fpVb, rfl, how, hnf, hb⟩
    obtain ⟨by0, by1, by2, by3, by4, bn4, bc4, by5, bn5, bc5, by6, bn6, bc6, rfl⟩ := IsVal.form (HB.out.2.1) how.read
    have HM4 := Lib.hid (HM3.out.add hb (owA_at how hnf))
    clear HM3
    clear hb how hnf
    obtain ⟨wD, rfl⟩ : ∃ wo : World, wo = w4 := ⟨_, rfl⟩
    have hkv := And.intro (kd_cell HA.out.2.1 (MSt.nth (L1 := [_, _]) HM4.out).read).1 (kd_cell HB.out.2.1 HM4.out.read).1
    have HK := Lib.hid hkv
    clear hkv
    have hbx := (MSt.nth (L1 := [_, _, _, _]) HM4.out).box
    obtain ⟨fB10, fB11, fB12, fB13, fB14, fB15, fB16, fB1lt⟩ := box7 hbx
    clear hbx
    have hbx := (MSt.nth (L1 := [_, _, _]) HM4.out).box
    obtain ⟨fB20, fB21, fB22, fB23, fB24, fB25, fB26, fB2lt⟩ := box7 hbx
    clear hbx
    have hbx := (MSt.nth (L1 := [_]) HM4.out).box
    obtain ⟨fB50, fB51, fB52, fB53, fB54, fB55, fB56, fB5lt⟩ := box7 hbx
    clear hbx
    go_upto_region 6 with fail
    have HM5 := Lib.hid (HM4.out.new 28 7 #[.int .i64 by0, .int .i64 by1, .int .i64 by2, .string by3, .slice by4 bn4 bc4, .slice by5 bn5 bc5, .slice by6 bn6 bc6] rfl)
    clear HM4
    clear fB10 fB11 fB12 fB13 fB14 fB15 fB16 fB1lt fB20 fB21 fB22 fB23 fB24 fB25 fB26 fB2lt fB50 fB51 fB52 fB53 fB54 fB55 fB56 fB5lt
    have hbx := (MSt.nth (L1 := [_, _, _, _, _]) HM5.out).box
    obtain ⟨fB10, fB11, fB12, fB13, fB14, fB15, fB16, fB1lt⟩ := box7 hbx
    clear hbx
    have hbx := (MSt.nth (L1 := [_, _, _, _]) HM5.out).box
    obtain ⟨fB20, fB21, fB22, fB23, fB24, fB25, fB26, fB2lt⟩ := box7 hbx
    clear hbx
    have hbx := (MSt.nth (L1 := [_, _]) HM5.out).box
    obtain ⟨fB50, fB51, fB52, fB53, fB54, fB55, fB56, fB5lt⟩ := box7 hbx
    clear hbx
    have hbx := HM5.out.box
    obtain ⟨fB60, fB61, fB62, fB63, fB64, fB65, fB66, fB6lt⟩ := box7 hbx
    clear hbx
    go_region_held3 (fun w' => w'.cell? ⟨bx, 0, none⟩ = some (.int .i64 k) ∧ w'.cell? ⟨bx, 1, none⟩ = some (.int .i64 m) ∧ w'.cell? ⟨bx, 2, none⟩ = some (.int .i64 s) ∧ w'.cell? ⟨bx, 3, none⟩ = some (.string t) ∧ w'.cell? ⟨bx, 4, none⟩ = some (.slice A4 l.length q4) ∧ w'.cell? ⟨bx, 5, none⟩ = some (.slice A5 c.length q5) ∧ w'.cell? ⟨bx, 6, none⟩ = some (.slice A6 r.length q6) ∧ w'.cell? ⟨bx + 1, 0, none⟩ = some (.int .i64 k') ∧ w'.cell? ⟨bx + 1, 1, none⟩ = some (.int .i64 m') ∧ w'.cell? ⟨bx + 1, 2, none⟩ = some (.int .i64 s') ∧ w'.cell? ⟨bx + 1, 3, none⟩ = some (.string t') ∧ w'.cell? ⟨bx + 1, 4, none⟩ = some (.slice A4' l'.length q4') ∧ w'.cell? ⟨bx + 1, 5, none⟩ = some (.slice A5' c'.length q5') ∧ w'.cell? ⟨bx + 1, 6, none⟩ = some (.slice A6' r'.length q6') ∧ w'.cell? ⟨wB.heap.size, 0, none⟩ = some (.int .i64 ay0) ∧ w'.cell? ⟨wB.heap.size, 1, none⟩ = some (.int .i64 ay1) ∧ w'.cell? ⟨wB.heap.size, 2, none⟩ = some (.int .i64 ay2) ∧ w'.cell? ⟨wB.heap.size, 3, none⟩ = some (.string ay3) ∧ w'.cell? ⟨wB.heap.size, 4, none⟩ = some (.slice ay4 an4 ac4) ∧ w'.cell? ⟨wB.heap.size, 5, none⟩ = some (.slice ay5 an5 ac5) ∧ w'.cell? ⟨wB.heap.size, 6, none⟩ = some (.slice ay6 an6 ac6) ∧ w'.cell? ⟨wD.heap.size, 0, none⟩ = some (.int .i64 by0) ∧ w'.cell? ⟨wD.heap.size, 1, none⟩ = some (.int .i64 by1) ∧ w'.cell? ⟨wD.heap.size, 2, none⟩ = some (.int .i64 by2) ∧ w'.cell? ⟨wD.heap.size, 3, none⟩ = some (.string by3) ∧ w'.cell? ⟨wD.heap.size, 4, none⟩ = some (.slice by4 bn4 bc4) ∧ w'.cell? ⟨wD.heap.size, 5, none⟩ = some (.slice by5 bn5 bc5) ∧ w'.cell? ⟨wD.heap.size, 6, none⟩ = some (.slice by6 bn6 bc6)) (exact ⟨fB10, fB11, fB12, fB13, fB14, fB15, fB16, fB20, fB21, fB22, fB23, fB24, fB25, fB26, fB50, fB51, fB52, fB53, fB54, fB55, fB56, fB60, fB61, fB62, fB63, fB64, fB65, fB66⟩)
      (first
        | (
          go_at_call 23
          refine (specTake_any HD1.out HD2.out HW.out _ _ _ (MSt.nth (L1 := [_, _, _, _, _, _]) HM5.out.drew).read (MSt.nth (L1 := [_, _, _, _, _, _, _]) HM5.out.drew).read D HA.out.1).mono ?_
          rintro e w6 ⟨csVs, fpVs, rfl, how, hnf, hb⟩
          obtain ⟨zy0, zy1, zy2, zy3, zy4, zn4, zc4, zy5, zn5, zc5, zy6, zn6, zc6, rfl⟩ := IsVal.form (HA.out.2.1) how.read
          have HM6 := Lib.hid (HM5.out.drew.add hb (owA_at how hnf))
          clear hb how hnf
          have hbx := (MSt.nth (L1 := [_, _, _, _, _, _]) HM6.out).box
          obtain ⟨fB10, fB11, fB12, fB13, fB14, fB15, fB16, fB1lt⟩ := box7 hbx
          clear hbx
          have hbx := (MSt.nth (L1 := [_, _, _, _, _]) HM6.out).box
          obtain ⟨fB20, fB21, fB22, fB23, fB24, fB25, fB26, fB2lt⟩ := box7 hbx
          clear hbx
          have hbx := (MSt.nth (L1 := [_, _, _]) HM6.out).box
          obtain ⟨fB50, fB51, fB52, fB53, fB54, fB55, fB56, fB5lt⟩ := box7 hbx
          clear hbx
          have hbx := (MSt.nth (L1 := [_]) HM6.out).box
          obtain ⟨fB60, fB61, fB62, fB63, fB64, fB65, fB66, fB6lt⟩ := box7 hbx
          clear hbx)
        | (
          go_at_call_of 14 (Value.agg #[.int .i64 ay0, .int .i64 ay1, .int .i64 ay2, .string ay3, .slice ay4 an4 ac4, .slice ay5 an5 ac5, .slice ay6 an6 ac6])
          refine (specEqualValue_any HA.out.2.1 HA.out.2.1 _ _ _ (MSt.nth (L1 := [_, _, _, _]) HM6.out).read HM6.out.read).mono ?_
          rintro e w7 ⟨b, rfl, hbi, hb⟩
          obtain rfl : b = true := hbi.2 (rfl)
          clear hbi
          have HM7 := Lib.hid (HM6.out.later hb)
          clear HM6
          clear hb
          have hbx := (MSt.nth (L1 := [_, _, _, _, _, _]) HM7.out).box
          obtain ⟨fB10, fB11, fB12, fB13, fB14, fB15, fB16, fB1lt⟩ := box7 hbx
          clear hbx
          have hbx := (MSt.nth (L1 := [_, _, _, _, _]) HM7.out).box
          obtain ⟨fB20, fB21, fB22, fB23, fB24, fB25, fB26, fB2lt⟩ := box7 hbx
          clear hbx
          have hbx := (MSt.nth (L1 := [_, _, _]) HM7.out).box
          obtain ⟨fB50, fB51, fB52, fB53, fB54, fB55, fB56, fB5lt⟩ := box7 hbx
          clear hbx
          have hbx := (MSt.nth (L1 := [_]) HM7.out).box
          obtain ⟨fB60, fB61, fB62, fB63, fB64, fB65, fB66, fB6lt⟩ := box7 hbx
          clear hbx)
        | (
          go_at_call 24
          refine (specSkip_any HD1.out HD2.out HW.out _ _ _ (MSt.nth (L1 := [_, _, _, _, _, _, _]) HM7.out).read (MSt.nth (L1 := [_, _, _, _, _, _, _, _]) HM7.out).read E HB.out.1).mono ?_
          rintro e w8 ⟨csVt, fpVt, rfl, how, hnf, hb⟩
          obtain ⟨yy0, yy1, yy2, yy3, yy4, yn4, yc4, yy5, yn5, yc5, yy6, yn6, yc6, rfl⟩ := IsVal.form (HB.out.2.1) how.read
          have HM8 := Lib.hid (HM7.out.add hb (owA_at how hnf))
          clear hb how hnf
          have hbx := (MSt.nth (L1 := [_, _, _, _, _, _, _]) HM8.out).box
          obtain ⟨fB10, fB11, fB12, fB13, fB14, fB15, fB16, fB1lt⟩ := box7 hbx
          clear hbx
          have hbx := (MSt.nth (L1 := [_, _, _, _, _, _]) HM8.out).box
          obtain ⟨fB20, fB21, fB22, fB23, fB24, fB25, fB26, fB2lt⟩ := box7 hbx
          clear hbx
          have hbx := (MSt.nth (L1 := [_, _, _, _]) HM8.out).box
          obtain ⟨fB50, fB51, fB52, fB53, fB54, fB55, fB56, fB5lt⟩ := box7 hbx
          clear hbx
          have hbx := (MSt.nth (L1 := [_, _]) HM8.out).box
          obtain ⟨fB60, fB61, fB62, fB63, fB64, fB65, fB66, fB6lt⟩ := box7 hbx
          clear hbx)
        | (
          go_at_call_of 14 (Value.agg #[.int .i64 by0, .int .i64 by1, .int .i64 by2, .string by3, .slice by4 bn4 bc4, .slice by5 bn5 bc5, .slice by6 bn6 bc6])
          refine (specEqualValue_any HB.out.2.1 HB.out.2.1 _ _ _ (MSt.nth (L1 := [_, _, _]) HM8.out).read HM8.out.read).mono ?_
          rintro e w9 ⟨b, rfl, hbi, hb⟩
          obtain rfl : b = true := hbi.2 (rfl)
          clear hbi
          have HM9 := Lib.hid (HM8.out.later hb)
          clear HM8
          clear hb
          have hbx := (MSt.nth (L1 := [_, _, _, _, _, _, _]) HM9.out).box
          obtain ⟨fB10, fB11, fB12, fB13, fB14, fB15, fB16, fB1lt⟩ := box7 hbx
          clear hbx
          have hbx := (MSt.nth (L1 := [_, _, _, _, _, _]) HM9.out).box
          obtain ⟨fB20, fB21, fB22, fB23, fB24, fB25, fB26, fB2lt⟩ := box7 hbx
          clear hbx
          have hbx := (MSt.nth (L1 := [_, _, _, _]) HM9.out).box
          obtain ⟨fB50, fB51, fB52, fB53, fB54, fB55, fB56, fB5lt⟩ := box7 hbx
          clear hbx
          have hbx := (MSt.nth (L1 := [_, _]) HM9.out).box
          obtain ⟨fB60, fB61, fB62, fB63, fB64, fB65, fB66, fB6lt⟩ := box7 hbx
          clear hbx)
        | fail)
    have HM10 := Lib.hid (MSt.drop (MSt.drop (HM9.out)))
    clear HM9
    clear fB10 fB11 fB12 fB13 fB14 fB15 fB16 fB1lt fB20 fB21 fB22 fB23 fB24 fB25 fB26 fB2lt fB50 fB51 fB52 fB53 fB54 fB55 fB56 fB5lt fB60 fB61 fB62 fB63 fB64 fB65 fB66 fB6lt
    by_cases e1 : ay0 = 3
    rotate_left
    · have n1 : (ay0 != 3) = true := by simpa using e1
      have hbx := (MSt.nth (L1 := [_, _, _, _, _]) HM10.out).box
      obtain ⟨fB10, fB11, fB12, fB13, fB14, fB15, fB16, fB1lt⟩ := box7 hbx
      clear hbx
      have hbx := (MSt.nth (L1 := [_, _, _, _]) HM10.out).box
      obtain ⟨fB20, fB21, fB22, fB23, fB24, fB25, fB26, fB2lt⟩ := box7 hbx
      clear hbx
      have hbx := (MSt.nth (L1 := [_, _]) HM10.out).box
      obtain ⟨fB50, fB51, fB52, fB53, fB54, fB55, fB56, fB5lt⟩ := box7 hbx
      clear hbx
      have hbx := HM10.out.box
      obtain ⟨fB60, fB61, fB62, fB63, fB64, fB65, fB66, fB6lt⟩ := box7 hbx
      clear hbx
      go_wp2_with fail
      go_ret
      exact ⟨rfl, HM10.out.bel⟩
    subst e1
    by_cases e2 : by0 = 3
    rotate_left
    · have n1 : (by0 != 3) = true := by simpa using e2
      have hbx := (MSt.nth (L1 := [_, _, _, _, _]) HM10.out).box
      obtain ⟨fB10, fB11, fB12, fB13, fB14, fB15, fB16, fB1lt⟩ := box7 hbx
      clear hbx
      have hbx := (MSt.nth (L1 := [_, _, _, _]) HM10.out).box
      obtain ⟨fB20, fB21, fB22, fB23, fB24, fB25, fB26, fB2lt⟩ := box7 hbx
      clear hbx
      have hbx := (MSt.nth (L1 := [_, _]) HM10.out).box
      obtain ⟨fB50, fB51, fB52, fB53, fB54, fB55, fB56, fB5lt⟩ := box7 hbx
      clear hbx
      have hbx := HM10.out.box
      obtain ⟨fB60, fB61, fB62, fB63, fB64, fB65, fB66, fB6lt⟩ := box7 hbx
      clear hbx
      go_wp2_with fail
      go_ret
      exact ⟨rfl, HM10.out.bel⟩
    subst e2
    obtain ⟨⟨hf1, hf2, hk1, -⟩, hk3, i, hi, h8, hDD, hEE⟩ := take_fine HA.out.1 HB.out.1 HK.out.1 HK.out.2
    obtain rfl : k = 1 := hk1
    obtain rfl : k' = 3 := hk3
    obtain rfl : m = (i : Int) := hi
    simp only [Dt.el] at hDD hEE
    subst hDD hEE
    have hap := ap_parts (i := i) HD2.out hf2 rfl
    have hlp := len_parts (i := i) hf2 rfl
    simp only [Dt.el] at hap hlp
    have hwp : Dt.wt (valD 3 0 ⟨#[]⟩ (l'.take i)) + Dt.wt (valD 3 0 ⟨#[]⟩ (l'.drop i)) ≤ 1048576 := by rw [wt_lstD, wt_lstD]; have h1 := el_wt HD2.out; have h2 := HW2.out; have h3 := wts_append (l'.take i) (l'.drop i); rw [List.take_append_drop] at h3; simp only [Dt.el, Dt.wt, List.length_take, List.length_drop] at h1 h2 ⊢; omega
    have hna4 := (rd_lst4 (MSt.nth (L1 := [_, _, _]) HM10.out).read).1
    have hnb4 := (rd_lst4 (MSt.nth (L1 := [_]) HM10.out).read).1
    rw [← hna4, ← hnb4] at hlp
    have HP := Lib.hid (And.intro hap (And.intro hlp (And.intro hwp hf2)))
    clear hap hlp hwp hf1
    have hln8 := (lst_fine HD2.out hf2 rfl).1
    simp only [Dt.el] at hln8
    clear hf2
    have hla : an4 ≤ 8 := by rw [hna4, List.length_take]; omega
    have hlb : bn4 ≤ 8 := by rw [hnb4, List.length_drop]; omega
    have HNA := Lib.hid (And.intro hna4 hnb4)
    clear hna4 hnb4
    have hbx := (MSt.nth (L1 := [_, _, _, _, _]) HM10.out).box
    obtain ⟨fB10, fB11, fB12, fB13, fB14, fB15, fB16, fB1lt⟩ := box7 hbx
    clear hbx
    have hbx := (MSt.nth (L1 := [_, _, _, _]) HM10.out).box
    obtain ⟨fB20, fB21, fB22, fB23, fB24, fB25, fB26, fB2lt⟩ := box7 hbx
    clear hbx
    have hbx := (MSt.nth (L1 := [_, _]) HM10.out).box
    obtain ⟨fB50, fB51, fB52, fB53, fB54, fB55, fB56, fB5lt⟩ := box7 hbx
    clear hbx
    have hbx := HM10.out.box
    obtain ⟨fB60, fB61, fB62, fB63, fB64, fB65, fB66, fB6lt⟩ := box7 hbx
    clear hbx
    go_wp2_with fail
    go_region_held3 (fun w' => w'.cell? ⟨bx, 0, none⟩ = some (.int .i64 1) ∧ w'.cell? ⟨bx, 1, none⟩ = some (.int .i64 (i : Int)) ∧ w'.cell? ⟨bx, 2, none⟩ = some (.int .i64 s) ∧ w'.cell? ⟨bx, 3, none⟩ = some (.string t) ∧ w'.cell? ⟨bx, 4, none⟩ = some (.slice A4 l.length q4) ∧ w'.cell? ⟨bx, 5, none⟩ = some (.slice A5 c.length q5) ∧ w'.cell? ⟨bx, 6, none⟩ = some (.slice A6 r.length q6) ∧ w'.cell? ⟨bx + 1, 0, none⟩ = some (.int .i64 3) ∧ w'.cell? ⟨bx + 1, 1, none⟩ = some (.int .i64 m') ∧ w'.cell? ⟨bx + 1, 2, none⟩ = some (.int .i64 s') ∧ w'.cell? ⟨bx + 1, 3, none⟩ = some (.string t') ∧ w'.cell? ⟨bx + 1, 4, none⟩ = some (.slice A4' l'.length q4') ∧ w'.cell? ⟨bx + 1, 5, none⟩ = some (.slice A5' c'.length q5') ∧ w'.cell? ⟨bx + 1, 6, none⟩ = some (.slice A6' r'.length q6') ∧ w'.cell? ⟨wB.heap.size, 0, none⟩ = some (.int .i64 3) ∧ w'.cell? ⟨wB.heap.size, 1, none⟩ = some (.int .i64 ay1) ∧ w'.cell? ⟨wB.heap.size, 2, none⟩ = some (.int .i64 ay2) ∧ w'.cell? ⟨wB.heap.size, 3, none⟩ = some (.string ay3) ∧ w'.cell? ⟨wB.heap.size, 4, none⟩ = some (.slice ay4 an4 ac4) ∧ w'.cell? ⟨wB.heap.size, 5, none⟩ = some (.slice ay5 an5 ac5) ∧ w'.cell? ⟨wB.heap.size, 6, none⟩ = some (.slice ay6 an6 ac6) ∧ w'.cell? ⟨wD.heap.size, 0, none⟩ = some (.int .i64 3) ∧ w'.cell? ⟨wD.heap.size, 1, none⟩ = some (.int .i64 by1) ∧ w'.cell? ⟨wD.heap.size, 2, none⟩ = some (.int .i64 by2) ∧ w'.cell? ⟨wD.heap.size, 3, none⟩ = some (.string by3) ∧ w'.cell? ⟨wD.heap.size, 4, none⟩ = some (.slice by4 bn4 bc4) ∧ w'.cell? ⟨wD.heap.size, 5, none⟩ = some (.slice by5 bn5 bc5) ∧ w'.cell? ⟨wD.heap.size, 6, none⟩ = some (.slice by6 bn6 bc6)) (exact ⟨fB10, fB11, fB12, fB13, fB14, fB15, fB16, fB20, fB21, fB22, fB23, fB24, fB25, fB26, fB50, fB51, fB52, fB53, fB54, fB55, fB56, fB60, fB61, fB62, fB63, fB64, fB65, fB66⟩)
      (first
        | (
          go_at_call 15
          refine (specAp_any HA.out.2.1 HB.out.2.1 HP.out.2.2.1 _ _ _ (MSt.nth (L1 := [_, _, _]) HM10.out.drew).read (MSt.nth (L1 := [_]) HM10.out.drew).read 1 _ HP.out.1).mono ?_
          rintro e w11 ⟨csVp, fpVp, rfl, how, hnf, hb⟩
          obtain ⟨xy0, xy1, xy2, xy3, xy4, xn4, xc4, xy5, xn5, xc5, xy6, xn6, xc6, rfl⟩ := IsVal.form (HD2.out) how.read
          have HM11 := Lib.hid (HM10.out.drew.add hb (owA_at how hnf))
          clear hb how hnf
          have hbx := (MSt.nth (L1 := [_, _, _, _, _, _]) HM11.out).box
          obtain ⟨fB10, fB11, fB12, fB13, fB14, fB15, fB16, fB1lt⟩ := box7 hbx
          clear hbx
          have hbx := (MSt.nth (L1 := [_, _, _, _, _]) HM11.out).box
          obtain ⟨fB20, fB21, fB22, fB23, fB24, fB25, fB26, fB2lt⟩ := box7 hbx
          clear hbx
          have hbx := (MSt.nth (L1 := [_, _, _]) HM11.out).box
          obtain ⟨fB50, fB51, fB52, fB53, fB54, fB55, fB56, fB5lt⟩ := box7 hbx
          clear hbx
          have hbx := (MSt.nth (L1 := [_]) HM11.out).box
          obtain ⟨fB60, fB61, fB62, fB63, fB64, fB65, fB66, fB6lt⟩ := box7 hbx
          clear hbx)
        | (
          go_at_call 14
          refine (specEqualValue_any HD2.out HD2.out _ _ _ HM11.out.read (MSt.nth (L1 := [_, _, _, _, _, _, _, _]) HM11.out).read).mono ?_
          rintro e w12 ⟨b, rfl, hbi, hb⟩
          obtain rfl : b = true := hbi.2 (rfl)
          clear hbi
          have HM12 := Lib.hid (HM11.out.later hb)
          clear HM11
          clear hb
          have hbx := (MSt.nth (L1 := [_, _, _, _, _, _]) HM12.out).box
          obtain ⟨fB10, fB11, fB12, fB13, fB14, fB15, fB16, fB1lt⟩ := box7 hbx
          clear hbx
          have hbx := (MSt.nth (L1 := [_, _, _, _, _]) HM12.out).box
          obtain ⟨fB20, fB21, fB22, fB23, fB24, fB25, fB26, fB2lt⟩ := box7 hbx
          clear hbx
          have hbx := (MSt.nth (L1 := [_, _, _]) HM12.out).box
          obtain ⟨fB50, fB51, fB52, fB53, fB54, fB55, fB56, fB5lt⟩ := box7 hbx
          clear hbx
          have hbx := (MSt.nth (L1 := [_]) HM12.out).box
          obtain ⟨fB60, fB61, fB62, fB63, fB64, fB65, fB66, fB6lt⟩ := box7 hbx
          clear hbx)
        | fail)
    have HM13 := Lib.hid (MSt.drop (HM12.out))
    clear HM12
    clear fB10 fB11 fB12 fB13 fB14 fB15 fB16 fB1lt fB20 fB21 fB22 fB23 fB24 fB25 fB26 fB2lt fB50 fB51 fB52 fB53 fB54 fB55 fB56 fB5lt fB60 fB61 fB62 fB63 fB64 fB65 fB66 fB6lt
    have hbx := (MSt.nth (L1 := [_, _, _, _, _]) HM13.out).box
    obtain ⟨fB10, fB11, fB12, fB13, fB14, fB15, fB16, fB1lt⟩ := box7 hbx
    clear hbx
    have hbx := (MSt.nth (L1 := [_, _, _, _]) HM13.out).box
    obtain ⟨fB20, fB21, fB22, fB23, fB24, fB25, fB26, fB2lt⟩ := box7 hbx
    clear hbx
    have hbx := (MSt.nth (L1 := [_, _]) HM13.out).box
    obtain ⟨fB50, fB51, fB52, fB53, fB54, fB55, fB56, fB5lt⟩ := box7 hbx
    clear hbx
    have hbx := HM13.out.box
    obtain ⟨fB60, fB61, fB62, fB63, fB64, fB65, fB66, fB6lt⟩ := box7 hbx
    clear hbx
    go_wp2_with fail
    clear fB10 fB11 fB12 fB13 fB14 fB15 fB16 fB1lt fB20 fB21 fB22 fB23 fB24 fB25 fB26 fB2lt fB50 fB51 fB52 fB53 fB54 fB55 fB56 fB5lt fB60 fB61 fB62 fB63 fB64 fB65 fB66 fB6lt
    go_loopw [7] (fun iv wr => ∃ j : Nat, j ≤ an4 ∧ iv = .int .i64 (j : Int) ∧ Hid (MSt w [boxA 28 7 (wD.heap.size) [.int .i64 3, .int .i64 by1, .int .i64 by2, .string by3, .slice by4 bn4 bc4, .slice by5 bn5 bc5, .slice by6 bn6 bc6], owA ((valD 3 0 ⟨#[]⟩ (l'.drop i))) [.int .i64 3, .int .i64 by1, .int .i64 by2, .string by3, .slice by4 bn4 bc4, .slice by5 bn5 bc5, .slice by6 bn6 bc6] fpVb, boxA 28 7 (wB.heap.size) [.int .i64 3, .int .i64 ay1, .int .i64 ay2, .string ay3, .slice ay4 an4 ac4, .slice ay5 an5 ac5, .slice ay6 an6 ac6], owA ((valD 3 0 ⟨#[]⟩ (l'.take i))) [.int .i64 3, .int .i64 ay1, .int .i64 ay2, .string ay3, .slice ay4 an4 ac4, .slice ay5 an5 ac5, .slice ay6 an6 ac6] fpVa, boxA 28 7 (bx + 1) [.int .i64 3, .int .i64 m', .int .i64 s', .string t', .slice A4' l'.length q4', .slice A5' c'.length q5', .slice A6' r'.length q6'], boxA 28 7 (bx) [.int .i64 1, .int .i64 (i : Int), .int .i64 s, .string t, .slice A4 l.length q4, .slice A5 c.length q5, .slice A6 r.length q6], owA ((.agg [.int 1, .int (i : Int), .int s, .str t, .lst l, .lst (c.map .str), .lst r])) [.int .i64 1, .int .i64 (i : Int), .int .i64 s, .string t, .slice A4 l.length q4, .slice A5 c.length q5, .slice A6 r.length q6] f1, owA ((.agg [.int 3, .int m', .int s', .str t', .lst l', .lst (c'.map .str), .lst r'])) [.int .i64 3, .int .i64 m', .int .i64 s', .string t', .slice A4' l'.length q4', .slice A5' c'.length q5', .slice A6' r'.length q6'] f2] wr)) (fun iv _ => an4 - (intOf iv).toNat)
    case atStart => exact ⟨0, Nat.zero_le _, rfl, HM13⟩
    case round =>
      obtain ⟨j, hj, rfl, HM1⟩ := hrel
      have hszr := HM1.out.size
      by_cases hlt : j < an4
      · have hltA : j < (l'.take i).length := by rw [← HNA.out.1]; exact hlt
        have hlt2 : j < l'.length := by rw [List.length_take] at hltA; omega
        have htw := nth_of_lst (i := j) (l := l') (by unfold NumOk; omega) HP.out.2.2.2 rfl rfl hlt2
        obtain ⟨b, o, cs, hA, hbB, hrd, hlen, hcell⟩ := (rd_lst4 (MSt.nth (L1 := [_, _, _]) HM1.out).read).2.at (k := 7) (fun x hx => (el_val HA.out.2.1 x hx).width) (by omega) j hltA
        subst hA
        have hge : (l'.take i)[j] = l'[j] := List.getElem_take
        rw [hge] at hrd
        have hxv : IsVal l'[j] := el_val HD2.out _ (List.getElem_mem hlt2)
        have hxw : (l'[j]).wt ≤ 1048576 := by have h1 := wts_in (List.getElem_mem hlt2); have h2 := el_wt HD2.out; have h3 := HW2.out; simp only [Dt.el, Dt.wt] at h2 h3 ⊢; omega
        generalize l'[j] = x at htw hrd hxv hxw
        obtain ⟨uy0, uy1, uy2, uy3, uy4, un4, uc4, uy5, un5, uc5, uy6, un6, uc6, rfl⟩ := IsVal.form hxv hrd
        have HX := Lib.hid (And.intro htw (And.intro hrd hxv))
        have h00 := hcell 0 (by omega)
        have h01 := hcell 1 (by omega)
        have h02 := hcell 2 (by omega)
        have h03 := hcell 3 (by omega)
        have h04 := hcell 4 (by omega)
        have h05 := hcell 5 (by omega)
        have h06 := hcell 6 (by omega)
        simp only [List.getElem?_cons_zero, List.getElem?_cons_succ, Nat.add_zero] at h00 h01 h02 h03 h04 h05 h06
        clear htw hrd hxv hxw hcell hlen hge hltA
        have hwj : IntKind.i64.wrap (j : Int) = (j : Int) := by rw [IntKind.wrap_i64]; omega
        have hbl : b < wr.heap.size := hbB
        have HE0 := Lib.hid (And.intro h00 (And.intro h01 (And.intro h02 (And.intro h03 (And.intro h04 (And.intro h05 h06))))))
        have hbx := (MSt.nth (L1 := [_, _, _, _, _]) HM1.out).box
        obtain ⟨fB10, fB11, fB12, fB13, fB14, fB15, fB16, fB1lt⟩ := box7 hbx
        clear hbx
        have hbx := (MSt.nth (L1 := [_, _, _, _]) HM1.out).box
        obtain ⟨fB20, fB21, fB22, fB23, fB24, fB25, fB26, fB2lt⟩ := box7 hbx
        clear hbx
        have hbx := (MSt.nth (L1 := [_, _]) HM1.out).box
        obtain ⟨fB50, fB51, fB52, fB53, fB54, fB55, fB56, fB5lt⟩ := box7 hbx
        clear hbx
        have hbx := HM1.out.box
        obtain ⟨fB60, fB61, fB62, fB63, fB64, fB65, fB66, fB6lt⟩ := box7 hbx
        clear hbx
        go_wp2_with fail
        go_region_held3 (fun w' => w'.cell? ⟨bx, 0, none⟩ = some (.int .i64 1) ∧ w'.cell? ⟨bx, 1, none⟩ = some (.int .i64 (i : Int)) ∧ w'.cell? ⟨bx, 2, none⟩ = some (.int .i64 s) ∧ w'.cell? ⟨bx, 3, none⟩ = some (.string t) ∧ w'.cell? ⟨bx, 4, none⟩ = some (.slice A4 l.length q4) ∧ w'.cell? ⟨bx, 5, none⟩ = some (.slice A5 c.length q5) ∧ w'.cell? ⟨bx, 6, none⟩ = some (.slice A6 r.length q6) ∧ w'.cell? ⟨bx + 1, 0, none⟩ = some (.int .i64 3) ∧ w'.cell? ⟨bx + 1, 1, none⟩ = some (.int .i64 m') ∧ w'.cell? ⟨bx + 1, 2, none⟩ = some (.int .i64 s') ∧ w'.cell? ⟨bx + 1, 3, none⟩ = some (.string t') ∧ w'.cell? ⟨bx + 1, 4, none⟩ = some (.slice A4' l'.length q4') ∧ w'.cell? ⟨bx + 1, 5, none⟩ = some (.slice A5' c'.length q5') ∧ w'.cell? ⟨bx + 1, 6, none⟩ = some (.slice A6' r'.length q6') ∧ w'.cell? ⟨wB.heap.size, 0, none⟩ = some (.int .i64 3) ∧ w'.cell? ⟨wB.heap.size, 1, none⟩ = some (.int .i64 ay1) ∧ w'.cell? ⟨wB.heap.size, 2, none⟩ = some (.int .i64 ay2) ∧ w'.cell? ⟨wB.heap.size, 3, none⟩ = some (.string ay3) ∧ w'.cell? ⟨wB.heap.size, 4, none⟩ = some (.slice (some ⟨b, o, none⟩) an4 ac4) ∧ w'.cell? ⟨wB.heap.size, 5, none⟩ = some (.slice ay5 an5 ac5) ∧ w'.cell? ⟨wB.heap.size, 6, none⟩ = some (.slice ay6 an6 ac6) ∧ w'.cell? ⟨wD.heap.size, 0, none⟩ = some (.int .i64 3) ∧ w'.cell? ⟨wD.heap.size, 1, none⟩ = some (.int .i64 by1) ∧ w'.cell? ⟨wD.heap.size, 2, none⟩ = some (.int .i64 by2) ∧ w'.cell? ⟨wD.heap.size, 3, none⟩ = some (.string by3) ∧ w'.cell? ⟨wD.heap.size, 4, none⟩ = some (.slice by4 bn4 bc4) ∧ w'.cell? ⟨wD.heap.size, 5, none⟩ = some (.slice by5 bn5 bc5) ∧ w'.cell? ⟨wD.heap.size, 6, none⟩ = some (.slice by6 bn6 bc6) ∧ w'.cell? ⟨b, o + j * 7, none⟩ = some (.int .i64 uy0) ∧ w'.cell? ⟨b, o + j * 7 + 1, none⟩ = some (.int .i64 uy1) ∧ w'.cell? ⟨b, o + j * 7 + 2, none⟩ = some (.int .i64 uy2) ∧ w'.cell? ⟨b, o + j * 7 + 3, none⟩ = some (.string uy3) ∧ w'.cell? ⟨b, o + j * 7 + 4, none⟩ = some (.slice uy4 un4 uc4) ∧ w'.cell? ⟨b, o + j * 7 + 5, none⟩ = some (.slice uy5 un5 uc5) ∧ w'.cell? ⟨b, o + j * 7 + 6, none⟩ = some (.slice uy6 un6 uc6)) (exact ⟨fB10, fB11, fB12, fB13, fB14, fB15, fB16, fB20, fB21, fB22, fB23, fB24, fB25, fB26, fB50, fB51, fB52, fB53, fB54, fB55, fB56, fB60, fB61, fB62, fB63, fB64, fB65, fB66, h00, h01, h02, h03, h04, h05, h06⟩)
          (first
            | (
              go_at_call 26
              refine (specNumberValue_any (j : Int) _).mono ?_
              rintro e w2 ⟨rfl, hb⟩
              have HM2 := Lib.hid (HM1.out.drew.later hb)
              have HBW2 : Hid (Below wr.heap.size wr w2) := Lib.hid (((Below.refl _ _).drew).trans (hb.mono (by simp)))
              have hbw := HBW2.out
              have h00 := (hbw.cell (p := ⟨b, o + j * 7, none⟩) hbl).trans HE0.out.1
              have h01 := (hbw.cell (p := ⟨b, o + j * 7 + 1, none⟩) hbl).trans HE0.out.2.1
              have h02 := (hbw.cell (p := ⟨b, o + j * 7 + 2, none⟩) hbl).trans HE0.out.2.2.1
              have h03 := (hbw.cell (p := ⟨b, o + j * 7 + 3, none⟩) hbl).trans HE0.out.2.2.2.1
              have h04 := (hbw.cell (p := ⟨b, o + j * 7 + 4, none⟩) hbl).trans HE0.out.2.2.2.2.1
              have h05 := (hbw.cell (p := ⟨b, o + j * 7 + 5, none⟩) hbl).trans HE0.out.2.2.2.2.2.1
              have h06 := (hbw.cell (p := ⟨b, o + j * 7 + 6, none⟩) hbl).trans HE0.out.2.2.2.2.2.2
              clear hb hbw
              have hbx := (MSt.nth (L1 := [_, _, _, _, _]) HM2.out).box
              obtain ⟨fB10, fB11, fB12, fB13, fB14, fB15, fB16, fB1lt⟩ := box7 hbx
              clear hbx
              have hbx := (MSt.nth (L1 := [_, _, _, _]) HM2.out).box
              obtain ⟨fB20, fB21, fB22, fB23, fB24, fB25, fB26, fB2lt⟩ := box7 hbx
              clear hbx
              have hbx := (MSt.nth (L1 := [_, _]) HM2.out).box
              obtain ⟨fB50, fB51, fB52, fB53, fB54, fB55, fB56, fB5lt⟩ := box7 hbx
              clear hbx
              have hbx := HM2.out.box
              obtain ⟨fB60, fB61, fB62, fB63, fB64, fB65, fB66, fB6lt⟩ := box7 hbx
              clear hbx)
            | (
              go_at_call 25
              refine (implNth_any (isVal_flatD 1 (j : Int) ⟨#[]⟩) HD2.out (by rw [wt_flatD]; have := HW2.out; omega) _ _ _ (Rd.flat _ _ 1 (j : Int) 0 ⟨#[]⟩) (MSt.nth (L1 := [_, _, _, _, _, _, _]) HM2.out).read _ HX.out.1).mono ?_
              rintro e w3 ⟨csVY, fpVY, rfl, how, hnf, hb⟩
              obtain ⟨yy0, yy1, yy2, yy3, yy4, yn4, yc4, yy5, yn5, yc5, yy6, yn6, yc6, rfl⟩ := IsVal.form (HX.out.2.2) how.read
              have HBW3 : Hid (Below wr.heap.size wr w3) := Lib.hid (HBW2.out.trans (hb.mono HBW2.out.size))
              have hbw := HBW3.out
              have h00 := (hbw.cell (p := ⟨b, o + j * 7, none⟩) hbl).trans HE0.out.1
              have h01 := (hbw.cell (p := ⟨b, o + j * 7 + 1, none⟩) hbl).trans HE0.out.2.1
              have h02 := (hbw.cell (p := ⟨b, o + j * 7 + 2, none⟩) hbl).trans HE0.out.2.2.1
              have h03 := (hbw.cell (p := ⟨b, o + j * 7 + 3, none⟩) hbl).trans HE0.out.2.2.2.1
              have h04 := (hbw.cell (p := ⟨b, o + j * 7 + 4, none⟩) hbl).trans HE0.out.2.2.2.2.1
              have h05 := (hbw.cell (p := ⟨b, o + j * 7 + 5, none⟩) hbl).trans HE0.out.2.2.2.2.2.1
              have h06 := (hbw.cell (p := ⟨b, o + j * 7 + 6, none⟩) hbl).trans HE0.out.2.2.2.2.2.2
              have HM3 := Lib.hid (HM2.out.add hb (owA_at how hnf))
              clear hb hbw how hnf
              have hbx := (MSt.nth (L1 := [_, _, _, _, _, _]) HM3.out).box
              obtain ⟨fB10, fB11, fB12, fB13, fB14, fB15, fB16, fB1lt⟩ := box7 hbx
              clear hbx
              have hbx := (MSt.nth (L1 := [_, _, _, _, _]) HM3.out).box
              obtain ⟨fB20, fB21, fB22, fB23, fB24, fB25, fB26, fB2lt⟩ := box7 hbx
              clear hbx
              have hbx := (MSt.nth (L1 := [_, _, _]) HM3.out).box
              obtain ⟨fB50, fB51, fB52, fB53, fB54, fB55, fB56, fB5lt⟩ := box7 hbx
              clear hbx
              have hbx := (MSt.nth (L1 := [_]) HM3.out).box
              obtain ⟨fB60, fB61, fB62, fB63, fB64, fB65, fB66, fB6lt⟩ := box7 hbx
              clear hbx)
            | (
              go_at_call 14
              refine (specEqualValue_any HX.out.2.2 HX.out.2.2 _ _ _ HM3.out.read ((HX.out.2.1.below HBW3.out).more HBW3.out.size)).mono ?_
              rintro e w4 ⟨b9, rfl, hbi, hb⟩
              obtain rfl : b9 = true := hbi.2 rfl
              clear hbi
              have HBW4 : Hid (Below wr.heap.size wr w4) := Lib.hid (HBW3.out.trans (hb.mono HBW3.out.size))
              have hbw := HBW4.out
              have h00 := (hbw.cell (p := ⟨b, o + j * 7, none⟩) hbl).trans HE0.out.1
              have h01 := (hbw.cell (p := ⟨b, o + j * 7 + 1, none⟩) hbl).trans HE0.out.2.1
              have h02 := (hbw.cell (p := ⟨b, o + j * 7 + 2, none⟩) hbl).trans HE0.out.2.2.1
              have h03 := (hbw.cell (p := ⟨b, o + j * 7 + 3, none⟩) hbl).trans HE0.out.2.2.2.1
              have h04 := (hbw.cell (p := ⟨b, o + j * 7 + 4, none⟩) hbl).trans HE0.out.2.2.2.2.1
              have h05 := (hbw.cell (p := ⟨b, o + j * 7 + 5, none⟩) hbl).trans HE0.out.2.2.2.2.2.1
              have h06 := (hbw.cell (p := ⟨b, o + j * 7 + 6, none⟩) hbl).trans HE0.out.2.2.2.2.2.2
              have HM4 := Lib.hid (HM3.out.later hb)
              clear hb hbw
              have hbx := (MSt.nth (L1 := [_, _, _, _, _, _]) HM4.out).box
              obtain ⟨fB10, fB11, fB12, fB13, fB14, fB15, fB16, fB1lt⟩ := box7 hbx
              clear hbx
              have hbx := (MSt.nth (L1 := [_, _, _, _, _]) HM4.out).box
              obtain ⟨fB20, fB21, fB22, fB23, fB24, fB25, fB26, fB2lt⟩ := box7 hbx
              clear hbx
              have hbx := (MSt.nth (L1 := [_, _, _]) HM4.out).box
              obtain ⟨fB50, fB51, fB52, fB53, fB54, fB55, fB56, fB5lt⟩ := box7 hbx
              clear hbx
              have hbx := (MSt.nth (L1 := [_]) HM4.out).box
              obtain ⟨fB60, fB61, fB62, fB63, fB64, fB65, fB66, fB6lt⟩ := box7 hbx
              clear hbx)
            | fail)
        have HM5 := Lib.hid (MSt.drop (HM4.out))
        clear HM4
        clear fB10 fB11 fB12 fB13 fB14 fB15 fB16 fB1lt fB20 fB21 fB22 fB23 fB24 fB25 fB26 fB2lt fB50 fB51 fB52 fB53 fB54 fB55 fB56 fB5lt fB60 fB61 fB62 fB63 fB64 fB65 fB66 fB6lt
        clear h00 h01 h02 h03 h04 h05 h06 hbl
        have HE := HM5
        have hbx := (MSt.nth (L1 := [_, _, _, _, _]) HM5.out).box
        obtain ⟨fB10, fB11, fB12, fB13, fB14, fB15, fB16, fB1lt⟩ := box7 hbx
        clear hbx
        have hbx := (MSt.nth (L1 := [_, _, _, _]) HM5.out).box
        obtain ⟨fB20, fB21, fB22, fB23, fB24, fB25, fB26, fB2lt⟩ := box7 hbx
        clear hbx
        have hbx := (MSt.nth (L1 := [_, _]) HM5.out).box
        obtain ⟨fB50, fB51, fB52, fB53, fB54, fB55, fB56, fB5lt⟩ := box7 hbx
        clear hbx
        have hbx := HM5.out.box
        obtain ⟨fB60, fB61, fB62, fB63, fB64, fB65, fB66, fB6lt⟩ := box7 hbx
        clear hbx
        go_wp2_with fail
        exact ⟨⟨j + 1, by omega, by simp, HE⟩, by simp [intOf]; omega⟩
      · obtain rfl : an4 = j := by omega
        have hwl : IntKind.i64.wrap ((an4 : Int) + (bn4 : Int)) = (an4 : Int) + (bn4 : Int) := by rw [IntKind.wrap_i64]; omega
        have hbx := (MSt.nth (L1 := [_, _, _, _, _]) HM1.out).box
        obtain ⟨fB10, fB11, fB12, fB13, fB14, fB15, fB16, fB1lt⟩ := box7 hbx
        clear hbx
        have hbx := (MSt.nth (L1 := [_, _, _, _]) HM1.out).box
        obtain ⟨fB20, fB21, fB22, fB23, fB24, fB25, fB26, fB2lt⟩ := box7 hbx
        clear hbx
        have hbx := (MSt.nth (L1 := [_, _]) HM1.out).box
        obtain ⟨fB50, fB51, fB52, fB53, fB54, fB55, fB56, fB5lt⟩ := box7 hbx
        clear hbx
        have hbx := HM1.out.box
        obtain ⟨fB60, fB61, fB62, fB63, fB64, fB65, fB66, fB6lt⟩ := box7 hbx
        clear hbx
        go_wp2_with fail
        go_region_held3 (fun w' => w'.cell? ⟨bx, 0, none⟩ = some (.int .i64 1) ∧ w'.cell? ⟨bx, 1, none⟩ = some (.int .i64 (i : Int)) ∧ w'.cell? ⟨bx, 2, none⟩ = some (.int .i64 s) ∧ w'.cell? ⟨bx, 3, none⟩ = some (.string t) ∧ w'.cell? ⟨bx, 4, none⟩ = some (.slice A4 l.length q4) ∧ w'.cell? ⟨bx, 5, none⟩ = some (.slice A5 c.length q5) ∧ w'.cell? ⟨bx, 6, none⟩ = some (.slice A6 r.length q6) ∧ w'.cell? ⟨bx + 1, 0, none⟩ = some (.int .i64 3) ∧ w'.cell? ⟨bx + 1, 1, none⟩ = some (.int .i64 m') ∧ w'.cell? ⟨bx + 1, 2, none⟩ = some (.int .i64 s') ∧ w'.cell? ⟨bx + 1, 3, none⟩ = some (.string t') ∧ w'.cell? ⟨bx + 1, 4, none⟩ = some (.slice A4' l'.length q4') ∧ w'.cell? ⟨bx + 1, 5, none⟩ = some (.slice A5' c'.length q5') ∧ w'.cell? ⟨bx + 1, 6, none⟩ = some (.slice A6' r'.length q6') ∧ w'.cell? ⟨wB.heap.size, 0, none⟩ = some (.int .i64 3) ∧ w'.cell? ⟨wB.heap.size, 1, none⟩ = some (.int .i64 ay1) ∧ w'.cell? ⟨wB.heap.size, 2, none⟩ = some (.int .i64 ay2) ∧ w'.cell? ⟨wB.heap.size, 3, none⟩ = some (.string ay3) ∧ w'.cell? ⟨wB.heap.size, 4, none⟩ = some (.slice ay4 an4 ac4) ∧ w'.cell? ⟨wB.heap.size, 5, none⟩ = some (.slice ay5 an5 ac5) ∧ w'.cell? ⟨wB.heap.size, 6, none⟩ = some (.slice ay6 an6 ac6) ∧ w'.cell? ⟨wD.heap.size, 0, none⟩ = some (.int .i64 3) ∧ w'.cell? ⟨wD.heap.size, 1, none⟩ = some (.int .i64 by1) ∧ w'.cell? ⟨wD.heap.size, 2, none⟩ = some (.int .i64 by2) ∧ w'.cell? ⟨wD.heap.size, 3, none⟩ = some (.string by3) ∧ w'.cell? ⟨wD.heap.size, 4, none⟩ = some (.slice by4 bn4 bc4) ∧ w'.cell? ⟨wD.heap.size, 5, none⟩ = some (.slice by5 bn5 bc5) ∧ w'.cell? ⟨wD.heap.size, 6, none⟩ = some (.slice by6 bn6 bc6)) (exact ⟨fB10, fB11, fB12, fB13, fB14, fB15, fB16, fB20, fB21, fB22, fB23, fB24, fB25, fB26, fB50, fB51, fB52, fB53, fB54, fB55, fB56, fB60, fB61, fB62, fB63, fB64, fB65, fB66⟩)
          (first
            | (
              go_at_call 27
              refine (implLen_any HD2.out HW2.out _ _ (MSt.nth (L1 := [_, _, _, _, _, _, _]) HM1.out.drew).read _ HP.out.2.1).mono ?_
              rintro e w2 ⟨csVl, fpVl, rfl, how, hnf, hb⟩
              obtain ⟨xy0, xy1, xy2, xy3, xy4, xn4, xc4, xy5, xn5, xc5, xy6, xn6, xc6, rfl⟩ := IsVal.form (isVal_flatD _ _ _) how.read
              have HM2 := Lib.hid (HM1.out.drew.add hb (owA_at how hnf))
              clear hb how hnf
              have hbx := (MSt.nth (L1 := [_, _, _, _, _, _]) HM2.out).box
              obtain ⟨fB10, fB11, fB12, fB13, fB14, fB15, fB16, fB1lt⟩ := box7 hbx
              clear hbx
              have hbx := (MSt.nth (L1 := [_, _, _, _, _]) HM2.out).box
              obtain ⟨fB20, fB21, fB22, fB23, fB24, fB25, fB26, fB2lt⟩ := box7 hbx
              clear hbx
              have hbx := (MSt.nth (L1 := [_, _, _]) HM2.out).box
              obtain ⟨fB50, fB51, fB52, fB53, fB54, fB55, fB56, fB5lt⟩ := box7 hbx
              clear hbx
              have hbx := (MSt.nth (L1 := [_]) HM2.out).box
              obtain ⟨fB60, fB61, fB62, fB63, fB64, fB65, fB66, fB6lt⟩ := box7 hbx
              clear hbx)
            | (
              go_at_call 26
              refine (specNumberValue_any ((an4 : Int) + (bn4 : Int)) _).mono ?_
              rintro e w3 ⟨rfl, hb⟩
              have HM3 := Lib.hid (HM2.out.later hb)
              clear hb
              have hbx := (MSt.nth (L1 := [_, _, _, _, _, _]) HM3.out).box
              obtain ⟨fB10, fB11, fB12, fB13, fB14, fB15, fB16, fB1lt⟩ := box7 hbx
              clear hbx
              have hbx := (MSt.nth (L1 := [_, _, _, _, _]) HM3.out).box
              obtain ⟨fB20, fB21, fB22, fB23, fB24, fB25, fB26, fB2lt⟩ := box7 hbx
              clear hbx
              have hbx := (MSt.nth (L1 := [_, _, _]) HM3.out).box
              obtain ⟨fB50, fB51, fB52, fB53, fB54, fB55, fB56, fB5lt⟩ := box7 hbx
              clear hbx
              have hbx := (MSt.nth (L1 := [_]) HM3.out).box
              obtain ⟨fB60, fB61, fB62, fB63, fB64, fB65, fB66, fB6lt⟩ := box7 hbx
              clear hbx)
            | (
              go_at_call 14
              refine (specEqualValue_any (isVal_flatD 1 _ ⟨#[]⟩) (isVal_flatD 1 _ ⟨#[]⟩) _ _ _ HM3.out.read (Rd.flat _ _ 1 _ 0 ⟨#[]⟩)).mono ?_
              rintro e w4 ⟨b, rfl, hbi, hb⟩
              obtain rfl : b = true := hbi.2 (rfl)
              clear hbi
              have HM4 := Lib.hid (HM3.out.later hb)
              clear HM3
              clear hb
              have hbx := (MSt.nth (L1 := [_, _, _, _, _, _]) HM4.out).box
              obtain ⟨fB10, fB11, fB12, fB13, fB14, fB15, fB16, fB1lt⟩ := box7 hbx
              clear hbx
              have hbx := (MSt.nth (L1 := [_, _, _, _, _]) HM4.out).box
              obtain ⟨fB20, fB21, fB22, fB23, fB24, fB25, fB26, fB2lt⟩ := box7 hbx
              clear hbx
              have hbx := (MSt.nth (L1 := [_, _, _]) HM4.out).box
              obtain ⟨fB50, fB51, fB52, fB53, fB54, fB55, fB56, fB5lt⟩ := box7 hbx
              clear hbx
              have hbx := (MSt.nth (L1 := [_]) HM4.out).box
              obtain ⟨fB60, fB61, fB62, fB63, fB64, fB65, fB66, fB6lt⟩ := box7 hbx
              clear hbx)
            | fail)
        have HM5 := Lib.hid (MSt.drop (HM4.out))
        clear HM4
        clear fB10 fB11 fB12 fB13 fB14 fB15 fB16 fB1lt fB20 fB21 fB22 fB23 fB24 fB25 fB26 fB2lt fB50 fB51 fB52 fB53 fB54 fB55 fB56 fB5lt fB60 fB61 fB62 fB63 fB64 fB65 fB66 fB6lt
        go_wp2_with fail
        go_ret
        exact ⟨rfl, HM5.out.bel⟩
end Go.Proofs.YtabcmnlmmpbmnaaGreat
