/-
  Texts that the proof rests on, put together: SumDraw.
-/
import Derived.Test.YtabcmnlmmpbmnaaGreatMgH50
import Derived.Test.YtabcmnlmmpbmnaaGreatMgH54
import Derived.Test.YtabcmnlmmpbmnaaGreatMgH48
import Derived.Test.YtabcmnlmmpbmnaaGreatMgH32
import Derived.Test.YtabcmnlmmpbmnaaGreatMgH3
import Derived.Deep.RegionLaw
import Derived.Deep.RegionHeld3
import Derived.Outline
/-
  The law FnSum. (Written by genlstlaws.py.)
-/

namespace Go.Proofs.YtabcmnlmmpbmnaaGreat
open Go.RowKit
set_option linter.unusedVariables false
set_option linter.unusedSimpArgs false

set_option maxHeartbeats 12800000 in
set_option maxRecDepth 100000 in
theorem fnSum_walk (A : Option Addr) (n c : Nat) (zs : List Int) (w : World) (h : IsBytes .u8 w A n c zs) :
    Calls Tryz.prog 7 #[.slice A n c] w fun e w' => e = .returned (.bool true) ∧ Below w.heap.size w w' := by
  by_cases hb : 1048576 < n
  · have hbig := big_yes A n c w hb h.code.1
    clear h
    go_enter Tryz.func7, Tryz.ntmps7
    go_wp2_with fail
    refine hbig.mono ?_
    rintro e w1 ⟨rfl, rfl⟩
    go_wp2_with fail
    go_ret
    exact ⟨rfl, Below.refl _ _⟩
  · have hbig := big_no A n c w (by omega)
    have HC := Lib.hid h.code
    clear h
    go_enter Tryz.func7, Tryz.ntmps7
    go_wp2_with fail
    refine hbig.mono ?_
    rintro e w ⟨rfl, rfl⟩
    clear hbig
    go_wp2_with fail
    refine (drawSum_any A n c w HC.out (by omega)).mono ?_
    rintro e w1 ⟨d1, c1, f1, hd1, hw1, rfl, hD⟩
    have HD1 := Lib.hid hd1
    obtain ⟨k, m, s, t, l, c, r, hl, hr⟩ := hd1
    obtain ⟨A4, q4, A5, q5, A6, q6, rfl, -, -, -⟩ := Rd.ofValue (hD).objs.out.1.read
    simp only [List.length_map] at hD
    have h1 := hD.new 28 7 #[.int .i64 k, .int .i64 m, .int .i64 s, .string t, .slice A4 l.length q4, .slice A5 c.length q5, .slice A6 r.length q6] rfl
    have HM1 := Lib.hid h1
    have HW1 := Lib.hid (show Dt.wt (.agg [.int k, .int m, .int s, .str t, .lst l, .lst (c.map .str), .lst r]) ≤ 1048576 by omega)
    have HN := Lib.hid hb
    clear h1 hw1 hD hb hl hr
    simp only [List.length_map]
    go_wp2_with fail
    generalize hW : w1.alloc (.cells #[.int .i64 k, .int .i64 m, .int .i64 s, .string t, .slice A4 l.length q4, .slice A5 c.length q5, .slice A6 r.length q6] 28) = W0 at *
    clear hW
    generalize hx : w1.heap.size = bx at *
    clear hx
    obtain ⟨D, hap⟩ := one_some sumD (.agg [.int k, .int m, .int s, .str t, .lst l, .lst (c.map .str), .lst r])
    have HA := Lib.hid (And.intro hap (And.intro (hap.val (ne_sumD _).val) (Nat.le_trans (hap.wt (by rw [(ne_sumD _).wt]; omega)) HW1.out)))
    clear hap
    refine (implSum_any HD1.out HW1.out _ _ (MSt.nth (L1 := [_]) HM1.out).read D HA.out.1).mono ?_
    rintro e w2 ⟨csVv, fpVv, rfl, how, hnf, hb⟩
    obtain ⟨vy0, vy1, vy2, vy3, vy4, vn4, vc4, vy5, vn5, vc5, vy6, vn6, vc6, rfl⟩ := IsVal.form (HA.out.2.1) how.read
    have HM2 := Lib.hid (HM1.out.add hb (owA_at how hnf))
    clear HM1
    clear hb how hnf
    have hkv := kd_cell HA.out.2.1 HM2.out.read
    have HK := Lib.hid hkv
    clear hkv
    have hbx := (MSt.nth (L1 := [_]) HM2.out).box
    obtain ⟨fB10, fB11, fB12, fB13, fB14, fB15, fB16, fB1lt⟩ := box7 hbx
    clear hbx
    go_upto_region 5 with fail
    have HM3 := Lib.hid (HM2.out.new 28 7 #[.int .i64 vy0, .int .i64 vy1, .int .i64 vy2, .string vy3, .slice vy4 vn4 vc4, .slice vy5 vn5 vc5, .slice vy6 vn6 vc6] rfl)
    clear HM2
    clear fB10 fB11 fB12 fB13 fB14 fB15 fB16 fB1lt
    have hbx := (MSt.nth (L1 := [_, _]) HM3.out).box
    obtain ⟨fB10, fB11, fB12, fB13, fB14, fB15, fB16, fB1lt⟩ := box7 hbx
    clear hbx
    have hbx := HM3.out.box
    obtain ⟨fB40, fB41, fB42, fB43, fB44, fB45, fB46, fB4lt⟩ := box7 hbx
    clear hbx
    by_cases e3 : k = 3
    rotate_left
    · have n3 : (k != 3) = true := by simpa using e3
      go_cut [27] from 13 to 26 (fun p wx => p = .bool true ∧ MSt w [boxA 28 7 (w2.heap.size) [.int .i64 vy0, .int .i64 vy1, .int .i64 vy2, .string vy3, .slice vy4 vn4 vc4, .slice vy5 vn5 vc5, .slice vy6 vn6 vc6], owA (D) [.int .i64 vy0, .int .i64 vy1, .int .i64 vy2, .string vy3, .slice vy4 vn4 vc4, .slice vy5 vn5 vc5, .slice vy6 vn6 vc6] fpVv, boxA 28 7 (bx) [.int .i64 k, .int .i64 m, .int .i64 s, .string t, .slice A4 l.length q4, .slice A5 c.length q5, .slice A6 r.length q6], owA ((.agg [.int k, .int m, .int s, .str t, .lst l, .lst (c.map .str), .lst r])) [.int .i64 k, .int .i64 m, .int .i64 s, .string t, .slice A4 l.length q4, .slice A5 c.length q5, .slice A6 r.length q6] f1] wx)
      case first =>
        have hud : undef = Value.tuple #[] := rfl
        first
        | (go_region_law (first
          | (
            go_simp
            go_at_call 31
            refine (specSum_any HD1.out HW1.out _ _ (MSt.nth (L1 := [_, _, _]) HM3.out.drew).read D HA.out.1).mono ?_
            rintro e w4 ⟨csVs, fpVs, rfl, how, hnf, hb⟩
            obtain ⟨zy0, zy1, zy2, zy3, zy4, zn4, zc4, zy5, zn5, zc5, zy6, zn6, zc6, rfl⟩ := IsVal.form (HA.out.2.1) how.read
            have HM4 := Lib.hid (HM3.out.drew.add hb (owA_at how hnf))
            clear hb how hnf
            have hbx := (MSt.nth (L1 := [_, _, _]) HM4.out).box
            obtain ⟨fB10, fB11, fB12, fB13, fB14, fB15, fB16, fB1lt⟩ := box7 hbx
            clear hbx
            have hbx := (MSt.nth (L1 := [_]) HM4.out).box
            obtain ⟨fB40, fB41, fB42, fB43, fB44, fB45, fB46, fB4lt⟩ := box7 hbx
            clear hbx)
          | (
            go_simp
            go_at_call 14
            refine (specEqualValue_any HA.out.2.1 HA.out.2.1 _ _ _ (MSt.nth (L1 := [_, _]) HM4.out).read HM4.out.read).mono ?_
            rintro e w5 ⟨b, rfl, hbi, hb⟩
            obtain rfl : b = true := hbi.2 (rfl)
            clear hbi
            have HM5 := Lib.hid (HM4.out.later hb)
            clear HM4
            clear hb
            have hbx := (MSt.nth (L1 := [_, _, _]) HM5.out).box
            obtain ⟨fB10, fB11, fB12, fB13, fB14, fB15, fB16, fB1lt⟩ := box7 hbx
            clear hbx
            have hbx := (MSt.nth (L1 := [_]) HM5.out).box
            obtain ⟨fB40, fB41, fB42, fB43, fB44, fB45, fB46, fB4lt⟩ := box7 hbx
            clear hbx)
          | fail))
        | fail
        all_goals
          go_wp2_with fail
          go_meet
          exact ⟨rfl, by first | exact MSt.drop (HM5.out) | exact MSt.drop (HM5.out.drew)⟩
      case rest =>
        obtain ⟨rfl, hM⟩ := hcut
        have HM6 := Lib.hid hM
        clear hM HM3 fB10 fB11 fB12 fB13 fB14 fB15 fB16 fB1lt fB40 fB41 fB42 fB43 fB44 fB45 fB46 fB4lt
        obtain ⟨wq6, rfl⟩ : ∃ wo : World, wo = wc := ⟨_, rfl⟩
        have hbx := (MSt.nth (L1 := [_, _]) HM6.out).box
        obtain ⟨fB10, fB11, fB12, fB13, fB14, fB15, fB16, fB1lt⟩ := box7 hbx
        clear hbx
        have hbx := HM6.out.box
        obtain ⟨fB40, fB41, fB42, fB43, fB44, fB45, fB46, fB4lt⟩ := box7 hbx
        clear hbx
        go_wp2_with fail
        first
        | (go_region_law (first
          | (
            go_simp
            go_at_call 31
            refine (specSum_any HD1.out HW1.out _ _ (MSt.nth (L1 := [_, _, _]) HM6.out.drew).read D HA.out.1).mono ?_
            rintro e w7 ⟨csVs, fpVs, rfl, how, hnf, hb⟩
            obtain ⟨zy0, zy1, zy2, zy3, zy4, zn4, zc4, zy5, zn5, zc5, zy6, zn6, zc6, rfl⟩ := IsVal.form (HA.out.2.1) how.read
            have HM7 := Lib.hid (HM6.out.drew.add hb (owA_at how hnf))
            clear hb how hnf
            have hbx := (MSt.nth (L1 := [_, _, _]) HM7.out).box
            obtain ⟨fB10, fB11, fB12, fB13, fB14, fB15, fB16, fB1lt⟩ := box7 hbx
            clear hbx
            have hbx := (MSt.nth (L1 := [_]) HM7.out).box
            obtain ⟨fB40, fB41, fB42, fB43, fB44, fB45, fB46, fB4lt⟩ := box7 hbx
            clear hbx)
          | (
            go_simp
            go_at_call 14
            refine (specEqualValue_any HA.out.2.1 HA.out.2.1 _ _ _ (MSt.nth (L1 := [_, _]) HM7.out).read HM7.out.read).mono ?_
            rintro e w8 ⟨b, rfl, hbi, hb⟩
            obtain rfl : b = true := hbi.2 (rfl)
            clear hbi
            have HM8 := Lib.hid (HM7.out.later hb)
            clear HM7
            clear hb)
          | fail))
        | fail
        all_goals
          go_wp2_with fail
          go_ret
          exact ⟨rfl, by first | exact HM8.out.bel | exact HM8.out.drew.bel⟩
    subst e3
    by_cases e1 : vy0 = 1
    rotate_left
    · have n1 : (vy0 != 1) = true := by simpa using e1
      go_cut [27] from 13 to 26 (fun p wx => p = .bool true ∧ MSt w [boxA 28 7 (w2.heap.size) [.int .i64 vy0, .int .i64 vy1, .int .i64 vy2, .string vy3, .slice vy4 vn4 vc4, .slice vy5 vn5 vc5, .slice vy6 vn6 vc6], owA (D) [.int .i64 vy0, .int .i64 vy1, .int .i64 vy2, .string vy3, .slice vy4 vn4 vc4, .slice vy5 vn5 vc5, .slice vy6 vn6 vc6] fpVv, boxA 28 7 (bx) [.int .i64 3, .int .i64 m, .int .i64 s, .string t, .slice A4 l.length q4, .slice A5 c.length q5, .slice A6 r.length q6], owA ((.agg [.int 3, .int m, .int s, .str t, .lst l, .lst (c.map .str), .lst r])) [.int .i64 3, .int .i64 m, .int .i64 s, .string t, .slice A4 l.length q4, .slice A5 c.length q5, .slice A6 r.length q6] f1] wx)
      case first =>
        have hud : undef = Value.tuple #[] := rfl
        first
        | (go_region_law (first
          | (
            go_simp
            go_at_call 31
            refine (specSum_any HD1.out HW1.out _ _ (MSt.nth (L1 := [_, _, _]) HM3.out.drew).read D HA.out.1).mono ?_
            rintro e w4 ⟨csVs, fpVs, rfl, how, hnf, hb⟩
            obtain ⟨zy0, zy1, zy2, zy3, zy4, zn4, zc4, zy5, zn5, zc5, zy6, zn6, zc6, rfl⟩ := IsVal.form (HA.out.2.1) how.read
            have HM4 := Lib.hid (HM3.out.drew.add hb (owA_at how hnf))
            clear hb how hnf
            have hbx := (MSt.nth (L1 := [_, _, _]) HM4.out).box
            obtain ⟨fB10, fB11, fB12, fB13, fB14, fB15, fB16, fB1lt⟩ := box7 hbx
            clear hbx
            have hbx := (MSt.nth (L1 := [_]) HM4.out).box
            obtain ⟨fB40, fB41, fB42, fB43, fB44, fB45, fB46, fB4lt⟩ := box7 hbx
            clear hbx)
          | (
            go_simp
            go_at_call 14
            refine (specEqualValue_any HA.out.2.1 HA.out.2.1 _ _ _ (MSt.nth (L1 := [_, _]) HM4.out).read HM4.out.read).mono ?_
            rintro e w5 ⟨b, rfl, hbi, hb⟩
            obtain rfl : b = true := hbi.2 (rfl)
            clear hbi
            have HM5 := Lib.hid (HM4.out.later hb)
            clear HM4
            clear hb
            have hbx := (MSt.nth (L1 := [_, _, _]) HM5.out).box
            obtain ⟨fB10, fB11, fB12, fB13, fB14, fB15, fB16, fB1lt⟩ := box7 hbx
            clear hbx
            have hbx := (MSt.nth (L1 := [_]) HM5.out).box
            obtain ⟨fB40, fB41, fB42, fB43, fB44, fB45, fB46, fB4lt⟩ := box7 hbx
            clear hbx)
          | fail))
        | fail
        all_goals
          go_wp2_with fail
          go_meet
          exact ⟨rfl, by first | exact MSt.drop (HM5.out) | exact MSt.drop (HM5.out.drew)⟩
      case rest =>
        obtain ⟨rfl, hM⟩ := hcut
        have HM6 := Lib.hid hM
        clear hM HM3 fB10 fB11 fB12 fB13 fB14 fB15 fB16 fB1lt fB40 fB41 fB42 fB43 fB44 fB45 fB46 fB4lt
        obtain ⟨wq6, rfl⟩ : ∃ wo : World, wo = wc := ⟨_, rfl⟩
        have hbx := (MSt.nth (L1 := [_, _]) HM6.out).box
        obtain ⟨fB10, fB11, fB12, fB13, fB14, fB15, fB16, fB1lt⟩ := box7 hbx
        clear hbx
        have hbx := HM6.out.box
        obtain ⟨fB40, fB41, fB42, fB43, fB44, fB45, fB46, fB4lt⟩ := box7 hbx
        clear hbx
        go_wp2_with fail
        first
        | (go_region_law (first
          | (
            go_simp
            go_at_call 31
            refine (specSum_any HD1.out HW1.out _ _ (MSt.nth (L1 := [_, _, _]) HM6.out.drew).read D HA.out.1).mono ?_
            rintro e w7 ⟨csVs, fpVs, rfl, how, hnf, hb⟩
            obtain ⟨zy0, zy1, zy2, zy3, zy4, zn4, zc4, zy5, zn5, zc5, zy6, zn6, zc6, rfl⟩ := IsVal.form (HA.out.2.1) how.read
            have HM7 := Lib.hid (HM6.out.drew.add hb (owA_at how hnf))
            clear hb how hnf
            have hbx := (MSt.nth (L1 := [_, _, _]) HM7.out).box
            obtain ⟨fB10, fB11, fB12, fB13, fB14, fB15, fB16, fB1lt⟩ := box7 hbx
            clear hbx
            have hbx := (MSt.nth (L1 := [_]) HM7.out).box
            obtain ⟨fB40, fB41, fB42, fB43, fB44, fB45, fB46, fB4lt⟩ := box7 hbx
            clear hbx)
          | (
            go_simp
            go_at_call 14
            refine (specEqualValue_any HA.out.2.1 HA.out.2.1 _ _ _ (MSt.nth (L1 := [_, _]) HM7.out).read HM7.out.read).mono ?_
            rintro e w8 ⟨b, rfl, hbi, hb⟩
            obtain rfl : b = true := hbi.2 (rfl)
            clear hbi
            have HM8 := Lib.hid (HM7.out.later hb)
            clear HM7
            clear hb)
          | fail))
        | fail
        all_goals
          go_wp2_with fail
          go_ret
          exact ⟨rfl, by first | exact HM8.out.bel | exact HM8.out.drew.bel⟩
    subst e1
    go_cut [27] from 13 to 26 (fun p wx => p = .bool false ∧ MSt w [boxA 28 7 (w2.heap.size) [.int .i64 1, .int .i64 vy1, .int .i64 vy2, .string vy3, .slice vy4 vn4 vc4, .slice vy5 vn5 vc5, .slice vy6 vn6 vc6], owA (D) [.int .i64 1, .int .i64 vy1, .int .i64 vy2, .string vy3, .slice vy4 vn4 vc4, .slice vy5 vn5 vc5, .slice vy6 vn6 vc6] fpVv, boxA 28 7 (bx) [.int .i64 3, .int .i64 m, .int .i64 s, .string t, .slice A4 l.length q4, .slice A5 c.length q5, .slice A6 r.length q6], owA ((.agg [.int 3, .int m, .int s, .str t, .lst l, .lst (c.map .str), .lst r])) [.int .i64 3, .int .i64 m, .int .i64 s, .string t, .slice A4 l.length q4, .slice A5 c.length q5, .slice A6 r.length q6] f1] wx)
    case first =>
      have hud : undef = Value.tuple #[] := rfl
      first
      | (go_region_law (first
        | (
          go_simp
          go_at_call 31
          refine (specSum_any HD1.out HW1.out _ _ (MSt.nth (L1 := [_, _, _]) HM3.out.drew).read D HA.out.1).mono ?_
          rintro e w4 ⟨csVs, fpVs, rfl, how, hnf, hb⟩
          obtain ⟨zy0, zy1, zy2, zy3, zy4, zn4, zc4, zy5, zn5, zc5, zy6, zn6, zc6, rfl⟩ := IsVal.form (HA.out.2.1) how.read
          have HM4 := Lib.hid (HM3.out.drew.add hb (owA_at how hnf))
          clear hb how hnf
          have hbx := (MSt.nth (L1 := [_, _, _]) HM4.out).box
          obtain ⟨fB10, fB11, fB12, fB13, fB14, fB15, fB16, fB1lt⟩ := box7 hbx
          clear hbx
          have hbx := (MSt.nth (L1 := [_]) HM4.out).box
          obtain ⟨fB40, fB41, fB42, fB43, fB44, fB45, fB46, fB4lt⟩ := box7 hbx
          clear hbx)
        | (
          go_simp
          go_at_call 14
          refine (specEqualValue_any HA.out.2.1 HA.out.2.1 _ _ _ (MSt.nth (L1 := [_, _]) HM4.out).read HM4.out.read).mono ?_
          rintro e w5 ⟨b, rfl, hbi, hb⟩
          obtain rfl : b = true := hbi.2 (rfl)
          clear hbi
          have HM5 := Lib.hid (HM4.out.later hb)
          clear HM4
          clear hb
          have hbx := (MSt.nth (L1 := [_, _, _]) HM5.out).box
          obtain ⟨fB10, fB11, fB12, fB13, fB14, fB15, fB16, fB1lt⟩ := box7 hbx
          clear hbx
          have hbx := (MSt.nth (L1 := [_]) HM5.out).box
          obtain ⟨fB40, fB41, fB42, fB43, fB44, fB45, fB46, fB4lt⟩ := box7 hbx
          clear hbx)
        | fail))
      | fail
      all_goals
        go_wp2_with fail
        go_meet
        exact ⟨rfl, by first | exact MSt.drop (HM5.out) | exact MSt.drop (HM5.out.drew)⟩
    case rest =>
      obtain ⟨rfl, hM⟩ := hcut
      have HM6 := Lib.hid hM
      clear hM HM3 fB10 fB11 fB12 fB13 fB14 fB15 fB16 fB1lt fB40 fB41 fB42 fB43 fB44 fB45 fB46 fB4lt
      obtain ⟨wq6, rfl⟩ : ∃ wo : World, wo = wc := ⟨_, rfl⟩
      obtain rfl := sum_fine HA.out.1 rfl HK.out.1
      have hrl := rd_lst4 (MSt.nth (L1 := [_, _, _]) HM6.out).read
      have HR := Lib.hid hrl.2
      clear hrl
      have hln := HR.out.lst_len
      unfold maxLen at hln
      have hsz := HM6.out.size
      have HSK := Lib.hid (show (sumL l).kd = 1 from HK.out.1)
      have hbx := (MSt.nth (L1 := [_, _]) HM6.out).box
      obtain ⟨fB10, fB11, fB12, fB13, fB14, fB15, fB16, fB1lt⟩ := box7 hbx
      clear hbx
      have hbx := HM6.out.box
      obtain ⟨fB40, fB41, fB42, fB43, fB44, fB45, fB46, fB4lt⟩ := box7 hbx
      clear hbx
      go_wp2_with fail
      go_loopw [5, 6] (fun tv iv wr => ∃ (j : Nat) (tt : Int), j ≤ l.length ∧ tv = .int .i64 tt ∧ iv = .int .i64 (j : Int) ∧ Hid (sumL (l.take j) = valD 1 tt ⟨#[]⟩ []) ∧ wr = wq6) (fun _ iv _ => l.length - (intOf iv).toNat)
      case atStart => exact ⟨0, 0, Nat.zero_le _, rfl, rfl, Lib.hid rfl, rfl⟩
      case round =>
        obtain ⟨j, tt, hj, rfl, rfl, HT, rfl⟩ := hrel
        by_cases hlt : j < l.length
        · obtain ⟨hno, hnx⟩ := sum_step HSK.out hlt HT.out
          obtain ⟨b, o, cs, hA, hbB, hrd, hlen, hcell⟩ := HR.out.at (k := 7) (fun x hx => (el_val HD1.out x hx).width) (by omega) j hlt
          subst hA
          have hxv := el_val HD1.out _ (List.getElem_mem hlt)
          have hxv : IsVal l[j] := hxv
          generalize l[j] = x at hno hnx hrd hxv
          obtain ⟨uy0, uy1, uy2, uy3, uy4, un4, uc4, uy5, un5, uc5, uy6, un6, uc6, rfl⟩ := IsVal.form hxv hrd
          have hkx := (kd_cell hxv hrd).2
          rw [hkx] at hno hnx
          have HX := Lib.hid hnx
          unfold NumOk at hno
          obtain ⟨b1, b2⟩ := hno
          have h01 := hcell 1 (by omega)
          simp only [List.getElem?_cons_zero, List.getElem?_cons_succ, Nat.add_zero] at h01
          clear hkx hnx hrd hcell hlen hxv
          have hwr : IntKind.i64.wrap (tt + uy1) = tt + uy1 := by rw [IntKind.wrap_i64]; omega
          go_wp2_with fail
          exact ⟨⟨j + 1, tt + uy1, by omega, rfl, by simp, HX, by first | rfl | trivial⟩, by simp [intOf]; omega⟩
        · obtain rfl : j = l.length := by omega
          have hT := List.take_length (l := l)
          rw [hT] at HT
          clear hT
          have hfin : vy1 = tt := by rw [← HK.out.2]; show (sumL l).nm = tt; rw [HT.out]; rfl
          subst hfin
          go_wp2_with fail
          go_ret
          exact ⟨by simp, HM6.out.bel⟩
end Go.Proofs.YtabcmnlmmpbmnaaGreat
