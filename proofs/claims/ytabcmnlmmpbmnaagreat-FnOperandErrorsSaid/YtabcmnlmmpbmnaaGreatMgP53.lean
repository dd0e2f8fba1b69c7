/-
  Texts that the proof rests on, put together: OpsLaw, OpErrLaw.
-/
import Derived.Test.YtabcmnlmmpbmnaaGreatMgP26
import Derived.Test.YtabcmnlmmpbmnaaGreatMgP51
import Derived.Test.YtabcmnlmmpbmnaaGreatMgP29
import Derived.Test.YtabcmnlmmpbmnaaGreatMgP3
import Derived.Test.YtabcmnlmmpbmnaaGreatMgP48
import Derived.Deep.RegionLaw
import Derived.Deep.RegionHeld3
/-
  The law FnOperators. (Written by genoplaws.py.)
-/

namespace Go.Proofs.YtabcmnlmmpbmnaaGreat
open Go.RowKit
set_option linter.unusedVariables false

theorem kd_readO {w : World} {B : Nat} {d : Dt} {k : Int} {cs : List Value} (hd : IsVal d) (h : Rd w B d (.int .i64 k :: cs)) : k = d.kd := by
  obtain ⟨k', n, s, t, l, c, r, hl, hr⟩ := hd
  obtain ⟨A4, q4, A5, q5, A6, q6, e, -, -, -⟩ := Rd.ofValue h
  injection e with e1 _
  injection e1
theorem nm_readO {w : World} {B : Nat} {d : Dt} {k n : Int} {cs : List Value} (hd : IsVal d) (h : Rd w B d (.int .i64 k :: .int .i64 n :: cs)) : n = d.nm := by
  obtain ⟨k', n', s, t, l, c, r, hl, hr⟩ := hd
  obtain ⟨A4, q4, A5, q5, A6, q6, e, -, -, -⟩ := Rd.ofValue h
  injection e with e1 e2
  injection e2 with e2 e3
  injection e2
set_option maxHeartbeats 6400000 in
set_option maxRecDepth 100000 in
theorem fnOperators_walk (A : Option Addr) (n c : Nat) (zs : List Int) (w : World) (h : IsBytes .u8 w A n c zs) :
    Calls Tryz.prog 3 #[.slice A n c] w fun e w' => e = .returned (.bool true) ∧ Below w.heap.size w w' := by
  by_cases hb : 1048576 < n
  · have hbig := big_yes A n c w hb h.code.1
    clear h
    go_enter Tryz.func3, Tryz.ntmps3
    go_wp2_with fail
    refine hbig.mono ?_
    rintro e w1 ⟨rfl, rfl⟩
    go_wp2_with fail
    go_ret
    exact ⟨rfl, Below.refl _ _⟩
  · have hbig := big_no A n c w (by omega)
    have HC := Lib.hid h.code
    clear h
    go_enter Tryz.func3, Tryz.ntmps3
    go_wp2_with fail
    refine hbig.mono ?_
    rintro e w ⟨rfl, rfl⟩
    clear hbig
    go_wp2_with fail
    refine (drawAp_any A n c w HC.out (by omega)).mono ?_
    rintro e w1 ⟨y, d1, c1, f1, d2, c2, f2, hy0, hy1, hd1, hw1, hd2, hw2, rfl, hD⟩
    obtain ⟨py0, py1, py2, py3, py4, pn4, pc4, py5, pn5, pc5, py6, pn6, pc6, rfl⟩ := hd1.form hD.objs.out.1.read
    obtain ⟨qy0, qy1, qy2, qy3, qy4, qn4, qc4, qy5, qn5, qc5, qy6, qn6, qc6, rfl⟩ := hd2.form (MSt.swap hD).objs.out.1.read
    have h1 := (hD.new 28 7 #[.int .i64 py0, .int .i64 py1, .int .i64 py2, .string py3, .slice py4 pn4 pc4, .slice py5 pn5 pc5, .slice py6 pn6 pc6] rfl).new 28 7 #[.int .i64 qy0, .int .i64 qy1, .int .i64 qy2, .string qy3, .slice qy4 qn4 qc4, .slice qy5 qn5 qc5, .slice qy6 qn6 qc6] rfl
    rw [World.size_alloc] at h1
    have HM1 := Lib.hid h1
    have HW := Lib.hid (show d1.wt + d2.wt ≤ 1048576 by omega)
    have HD := Lib.hid (And.intro hd1 hd2)
    have HN := Lib.hid hb
    clear h1 hd1 hw1 hd2 hw2 hD hb
    go_wp2_with fail
    generalize hW : (w1.alloc (.cells #[.int .i64 py0, .int .i64 py1, .int .i64 py2, .string py3, .slice py4 pn4 pc4, .slice py5 pn5 pc5, .slice py6 pn6 pc6] 28)).alloc (.cells #[.int .i64 qy0, .int .i64 qy1, .int .i64 qy2, .string qy3, .slice qy4 qn4 qc4, .slice qy5 qn5 qc5, .slice qy6 qn6 qc6] 28) = W0 at *
    clear hW
    generalize hx : w1.heap.size = bx at *
    clear hx
    obtain ⟨D, hap⟩ := ap_some y d1 d2
    obtain ⟨D2, hap2⟩ := ap_some y d2 d1
    have HV := Lib.hid (hap.val HD.out.1 HD.out.2)
    have HV2 := Lib.hid (hap2.val HD.out.2 HD.out.1)
    have HS := Lib.hid (hap.sv HD.out.1 HD.out.2)
    have HA := Lib.hid hap
    have HA2 := Lib.hid hap2
    clear hap hap2
    have HWD := Lib.hid (show D.wt ≤ 1048576 from Nat.le_trans (HA.out.wt HD.out.1 HD.out.2) HW.out)
    have HWS := Lib.hid (show d2.wt + d1.wt ≤ 1048576 by have := HW.out; omega)
    have HW1 := Lib.hid (show d1.wt ≤ 1048576 by have := HW.out; omega)
    have HW2 := Lib.hid (show d2.wt ≤ 1048576 by have := HW.out; omega)
    refine (implAp_any HD.out.1 HD.out.2 HW.out _ _ _ (MSt.nth (L1 := [_, _]) HM1.out).read (MSt.nth (L1 := [_, _, _]) HM1.out).read y D HA.out).mono ?_
    rintro e w2 ⟨csVv, fpVv, rfl, how, hnf, hb⟩
    obtain ⟨vy0, vy1, vy2, vy3, vy4, vn4, vc4, vy5, vn5, vc5, vy6, vn6, vc6, rfl⟩ := IsVal.form (HV.out) how.read
    have HM2 := Lib.hid (HM1.out.add hb (owA_at how hnf))
    clear HM1
    clear hb how hnf
    have hbx := (MSt.nth (L1 := [_, _]) HM2.out).box
    obtain ⟨fB10, fB11, fB12, fB13, fB14, fB15, fB16, fB1lt⟩ := box7 hbx
    clear hbx
    have hbx := (MSt.nth (L1 := [_]) HM2.out).box
    obtain ⟨fB20, fB21, fB22, fB23, fB24, fB25, fB26, fB2lt⟩ := box7 hbx
    clear hbx
    go_upto_region 5 with fail
    have HM3 := Lib.hid (HM2.out.new 28 7 #[.int .i64 vy0, .int .i64 vy1, .int .i64 vy2, .string vy3, .slice vy4 vn4 vc4, .slice vy5 vn5 vc5, .slice vy6 vn6 vc6] rfl)
    clear HM2
    clear fB10 fB11 fB12 fB13 fB14 fB15 fB16 fB1lt fB20 fB21 fB22 fB23 fB24 fB25 fB26 fB2lt
    have hbx := (MSt.nth (L1 := [_, _, _]) HM3.out).box
    obtain ⟨fB10, fB11, fB12, fB13, fB14, fB15, fB16, fB1lt⟩ := box7 hbx
    clear hbx
    have hbx := (MSt.nth (L1 := [_, _]) HM3.out).box
    obtain ⟨fB20, fB21, fB22, fB23, fB24, fB25, fB26, fB2lt⟩ := box7 hbx
    clear hbx
    have hbx := HM3.out.box
    obtain ⟨fB60, fB61, fB62, fB63, fB64, fB65, fB66, fB6lt⟩ := box7 hbx
    clear hbx
    go_cut [32] from 21 to 31 (fun p wx => p = .bool false ∧ MSt w [boxA 28 7 (w2.heap.size) [.int .i64 vy0, .int .i64 vy1, .int .i64 vy2, .string vy3, .slice vy4 vn4 vc4, .slice vy5 vn5 vc5, .slice vy6 vn6 vc6], owA (D) [.int .i64 vy0, .int .i64 vy1, .int .i64 vy2, .string vy3, .slice vy4 vn4 vc4, .slice vy5 vn5 vc5, .slice vy6 vn6 vc6] fpVv, boxA 28 7 (bx + 1) [.int .i64 qy0, .int .i64 qy1, .int .i64 qy2, .string qy3, .slice qy4 qn4 qc4, .slice qy5 qn5 qc5, .slice qy6 qn6 qc6], boxA 28 7 (bx) [.int .i64 py0, .int .i64 py1, .int .i64 py2, .string py3, .slice py4 pn4 pc4, .slice py5 pn5 pc5, .slice py6 pn6 pc6], owA (d1) [.int .i64 py0, .int .i64 py1, .int .i64 py2, .string py3, .slice py4 pn4 pc4, .slice py5 pn5 pc5, .slice py6 pn6 pc6] f1, owA (d2) [.int .i64 qy0, .int .i64 qy1, .int .i64 qy2, .string qy3, .slice qy4 qn4 qc4, .slice qy5 qn5 qc5, .slice qy6 qn6 qc6] f2] wx)
    case first =>
      have hud : undef = Value.tuple #[] := rfl
      go_region_law (first
        | (
          go_simp
          go_at_call 15
          refine (specAp_any HD.out.1 HD.out.2 HW.out _ _ _ (MSt.nth (L1 := [_, _, _, _]) HM3.out.drew).read (MSt.nth (L1 := [_, _, _, _, _]) HM3.out.drew).read y D HA.out).mono ?_
          rintro e w4 ⟨csVs, fpVs, rfl, how, hnf, hb⟩
          obtain ⟨sy0, sy1, sy2, sy3, sy4, sn4, sc4, sy5, sn5, sc5, sy6, sn6, sc6, rfl⟩ := IsVal.form (HV.out) how.read
          have HM4 := Lib.hid (HM3.out.drew.add hb (owA_at how hnf))
          clear hb how hnf
          have hbx := (MSt.nth (L1 := [_, _, _, _]) HM4.out).box
          obtain ⟨fB10, fB11, fB12, fB13, fB14, fB15, fB16, fB1lt⟩ := box7 hbx
          clear hbx
          have hbx := (MSt.nth (L1 := [_, _, _]) HM4.out).box
          obtain ⟨fB20, fB21, fB22, fB23, fB24, fB25, fB26, fB2lt⟩ := box7 hbx
          clear hbx
          have hbx := (MSt.nth (L1 := [_]) HM4.out).box
          obtain ⟨fB60, fB61, fB62, fB63, fB64, fB65, fB66, fB6lt⟩ := box7 hbx
          clear hbx)
        | (
          go_simp
          go_at_call 14
          refine (specEqualValue_any HV.out HV.out _ _ _ (MSt.nth (L1 := [_, _]) HM4.out).read HM4.out.read).mono ?_
          rintro e w5 ⟨b, rfl, hbi, hb⟩
          obtain rfl : b = true := hbi.2 rfl
          clear hbi
          have HM5 := Lib.hid (HM4.out.later hb)
          clear HM4
          clear hb
          have hbx := (MSt.nth (L1 := [_, _, _, _]) HM5.out).box
          obtain ⟨fB10, fB11, fB12, fB13, fB14, fB15, fB16, fB1lt⟩ := box7 hbx
          clear hbx
          have hbx := (MSt.nth (L1 := [_, _, _]) HM5.out).box
          obtain ⟨fB20, fB21, fB22, fB23, fB24, fB25, fB26, fB2lt⟩ := box7 hbx
          clear hbx
          have hbx := (MSt.nth (L1 := [_]) HM5.out).box
          obtain ⟨fB60, fB61, fB62, fB63, fB64, fB65, fB66, fB6lt⟩ := box7 hbx
          clear hbx)
        | (
          go_simp
          go_at_call 16
          refine ((specValidV HV.out HWD.out _ _ (MSt.nth (L1 := [_, _]) HM5.out).read).mono (eqP_yes HS.out)).mono ?_
          rintro e w6 ⟨rfl, hb⟩
          have HM6 := Lib.hid (HM5.out.later hb)
          clear HM5
          clear hb)
        | fail)
      all_goals
        go_wp2_with fail
        go_meet
        exact ⟨rfl, MSt.drop (by first | exact HM6.out | exact HM6.out.drew)⟩
    case rest =>
      obtain ⟨rfl, hM⟩ := hcut
      have HM7 := Lib.hid hM
      clear hM HM3 fB10 fB11 fB12 fB13 fB14 fB15 fB16 fB1lt fB20 fB21 fB22 fB23 fB24 fB25 fB26 fB2lt fB60 fB61 fB62 fB63 fB64 fB65 fB66 fB6lt
      have hbx := (MSt.nth (L1 := [_, _, _]) HM7.out).box
      obtain ⟨fB10, fB11, fB12, fB13, fB14, fB15, fB16, fB1lt⟩ := box7 hbx
      clear hbx
      have hbx := (MSt.nth (L1 := [_, _]) HM7.out).box
      obtain ⟨fB20, fB21, fB22, fB23, fB24, fB25, fB26, fB2lt⟩ := box7 hbx
      clear hbx
      go_wp2_with fail
      clear fB10 fB11 fB12 fB13 fB14 fB15 fB16 fB1lt fB20 fB21 fB22 fB23 fB24 fB25 fB26 fB2lt
      refine (implAp_any HD.out.2 HD.out.1 HWS.out _ _ _ (MSt.nth (L1 := [_, _, _, _, _]) HM7.out).read (MSt.nth (L1 := [_, _, _, _]) HM7.out).read y D2 HA2.out).mono ?_
      rintro e w8 ⟨csVw, fpVw, rfl, how, hnf, hb⟩
      obtain ⟨uy0, uy1, uy2, uy3, uy4, un4, uc4, uy5, un5, uc5, uy6, un6, uc6, rfl⟩ := IsVal.form (HV2.out) how.read
      have HM8 := Lib.hid (HM7.out.add hb (owA_at how hnf))
      clear HM7
      clear hb how hnf
      have HK1 := Lib.hid (show py0 = d1.kd from kd_readO HD.out.1 (MSt.nth (L1 := [_, _, _, _, _]) HM8.out).read)
      have HK2 := Lib.hid (show qy0 = d2.kd from kd_readO HD.out.2 (MSt.nth (L1 := [_, _, _, _, _, _]) HM8.out).read)
      have HU := Lib.hid (And.intro (kd_readO HV.out (MSt.nth (L1 := [_, _]) HM8.out).read) (nm_readO HV.out (MSt.nth (L1 := [_, _]) HM8.out).read))
      have HU2 := Lib.hid (And.intro (kd_readO HV2.out HM8.out.read) (nm_readO HV2.out HM8.out.read))
      have hbx := (MSt.nth (L1 := [_, _, _, _]) HM8.out).box
      obtain ⟨fB10, fB11, fB12, fB13, fB14, fB15, fB16, fB1lt⟩ := box7 hbx
      clear hbx
      have hbx := (MSt.nth (L1 := [_, _, _]) HM8.out).box
      obtain ⟨fB20, fB21, fB22, fB23, fB24, fB25, fB26, fB2lt⟩ := box7 hbx
      clear hbx
      have hbx := (MSt.nth (L1 := [_]) HM8.out).box
      obtain ⟨fB60, fB61, fB62, fB63, fB64, fB65, fB66, fB6lt⟩ := box7 hbx
      clear hbx
      by_cases h1 : py0 = 1
      · have e1 : (py0 == 1) = true := by simpa using h1
        by_cases h2 : qy0 = 1
        · have e2 : (qy0 == 1) = true := by simpa using h2
          have HN1 := Lib.hid (show d1.kd = 1 by rw [← HK1.out]; exact h1)
          have HN2 := Lib.hid (show d2.kd = 1 by rw [← HK2.out]; exact h2)
          clear h1 h2
          go_wp2_with fail
          have HM9 := Lib.hid (HM8.out.new 28 7 #[.int .i64 uy0, .int .i64 uy1, .int .i64 uy2, .string uy3, .slice uy4 un4 uc4, .slice uy5 un5 uc5, .slice uy6 un6 uc6] rfl)
          clear HM8
          by_cases v1 : d1.SV
          · have HT1 := Lib.hid v1
            clear v1
            refine ((specValidV HD.out.1 HW1.out _ _ (MSt.nth (L1 := [_, _, _, _, _, _]) HM9.out).read).mono (eqP_yes HT1.out)).mono ?_
            rintro e w10 ⟨rfl, hb⟩
            have HM10 := Lib.hid (HM9.out.later hb)
            clear HM9
            clear hb
            clear fB10 fB11 fB12 fB13 fB14 fB15 fB16 fB1lt fB20 fB21 fB22 fB23 fB24 fB25 fB26 fB2lt fB60 fB61 fB62 fB63 fB64 fB65 fB66 fB6lt
            have hbx := (MSt.nth (L1 := [_, _, _, _, _]) HM10.out).box
            obtain ⟨fB10, fB11, fB12, fB13, fB14, fB15, fB16, fB1lt⟩ := box7 hbx
            clear hbx
            have hbx := (MSt.nth (L1 := [_, _, _, _]) HM10.out).box
            obtain ⟨fB20, fB21, fB22, fB23, fB24, fB25, fB26, fB2lt⟩ := box7 hbx
            clear hbx
            have hbx := (MSt.nth (L1 := [_, _]) HM10.out).box
            obtain ⟨fB60, fB61, fB62, fB63, fB64, fB65, fB66, fB6lt⟩ := box7 hbx
            clear hbx
            have hbx := HM10.out.box
            obtain ⟨fB70, fB71, fB72, fB73, fB74, fB75, fB76, fB7lt⟩ := box7 hbx
            clear hbx
            go_wp2_with fail
            by_cases v2 : d2.SV
            · have HT2 := Lib.hid v2
              clear v2
              refine ((specValidV HD.out.2 HW2.out _ _ (MSt.nth (L1 := [_, _, _, _, _, _, _]) HM10.out).read).mono (eqP_yes HT2.out)).mono ?_
              rintro e w11 ⟨rfl, hb⟩
              have HM11 := Lib.hid (HM10.out.later hb)
              clear HM10
              clear hb
              clear fB10 fB11 fB12 fB13 fB14 fB15 fB16 fB1lt fB20 fB21 fB22 fB23 fB24 fB25 fB26 fB2lt fB60 fB61 fB62 fB63 fB64 fB65 fB66 fB6lt fB70 fB71 fB72 fB73 fB74 fB75 fB76 fB7lt
              have hbx := (MSt.nth (L1 := [_, _, _, _, _]) HM11.out).box
              obtain ⟨fB10, fB11, fB12, fB13, fB14, fB15, fB16, fB1lt⟩ := box7 hbx
              clear hbx
              have hbx := (MSt.nth (L1 := [_, _, _, _]) HM11.out).box
              obtain ⟨fB20, fB21, fB22, fB23, fB24, fB25, fB26, fB2lt⟩ := box7 hbx
              clear hbx
              have hbx := (MSt.nth (L1 := [_, _]) HM11.out).box
              obtain ⟨fB60, fB61, fB62, fB63, fB64, fB65, fB66, fB6lt⟩ := box7 hbx
              clear hbx
              have hbx := HM11.out.box
              obtain ⟨fB70, fB71, fB72, fB73, fB74, fB75, fB76, fB7lt⟩ := box7 hbx
              clear hbx
              have hy : y = 0 ∨ y = 1 ∨ y = 2 ∨ y = 3 ∨ y = 4 ∨ y = 5 ∨ y = 6 := by omega
              rcases hy with rfl | rfl | rfl | rfl | rfl | rfl | rfl
              · skip
                go_wp2_with fail
                go_ret
                exact ⟨rfl, HM11.out.bel⟩
              · skip
                go_wp2_with fail
                clear fB10 fB11 fB12 fB13 fB14 fB15 fB16 fB1lt fB20 fB21 fB22 fB23 fB24 fB25 fB26 fB2lt fB60 fB61 fB62 fB63 fB64 fB65 fB66 fB6lt fB70 fB71 fB72 fB73 fB74 fB75 fB76 fB7lt
                refine (specEqualValue_any HV.out HV2.out _ _ _ (MSt.nth (L1 := [_, _, _]) HM11.out).read (MSt.nth (L1 := [_]) HM11.out).read).mono ?_
                rintro e w12 ⟨b, rfl, hbi, hb⟩
                obtain rfl : b = true := hbi.2 (by rw [num_sym HT1.out HT2.out HN1.out HN2.out (by omega) HA.out HA2.out])
                clear hbi
                have HM12 := Lib.hid (HM11.out.later hb)
                clear HM11
                clear hb
                go_wp2_with fail
                go_ret
                exact ⟨rfl, HM12.out.bel⟩
              · skip
                go_wp2_with fail
                go_ret
                exact ⟨rfl, HM11.out.bel⟩
              · skip
                go_wp2_with fail
                clear fB10 fB11 fB12 fB13 fB14 fB15 fB16 fB1lt fB20 fB21 fB22 fB23 fB24 fB25 fB26 fB2lt fB60 fB61 fB62 fB63 fB64 fB65 fB66 fB6lt fB70 fB71 fB72 fB73 fB74 fB75 fB76 fB7lt
                refine (specEqualValue_any HV.out HV2.out _ _ _ (MSt.nth (L1 := [_, _, _]) HM11.out).read (MSt.nth (L1 := [_]) HM11.out).read).mono ?_
                rintro e w12 ⟨b, rfl, hbi, hb⟩
                obtain rfl : b = true := hbi.2 (by rw [num_sym HT1.out HT2.out HN1.out HN2.out (by omega) HA.out HA2.out])
                clear hbi
                have HM12 := Lib.hid (HM11.out.later hb)
                clear HM11
                clear hb
                go_wp2_with fail
                go_ret
                exact ⟨rfl, HM12.out.bel⟩
              · skip
                have hv0 : vy0 = 1 := by rw [HU.out.1, less_num HT1.out HT2.out HN1.out HN2.out HA.out]; rfl
                have hu0 : uy0 = 1 := by rw [HU2.out.1, less_num HT2.out HT1.out HN2.out HN1.out HA2.out]; rfl
                have hv1 : vy1 = truN (decide (d1.nm < d2.nm)) := by rw [HU.out.2, less_num HT1.out HT2.out HN1.out HN2.out HA.out]; rfl
                have hu1 : uy1 = truN (decide (d2.nm < d1.nm)) := by rw [HU2.out.2, less_num HT2.out HT1.out HN2.out HN1.out HA2.out]; rfl
                have HI := Lib.hid (And.intro hv0 (And.intro hu0 (And.intro hv1 hu1)))
                clear hv0 hu0 hv1 hu1
                by_cases hlt : d1.nm < d2.nm
                · have t1 : istB vy0 vy1 = true := by rw [HI.out.1, HI.out.2.2.1, decide_eq_true hlt]; rfl
                  have t2 : istB uy0 uy1 = false := by rw [HI.out.2.1, HI.out.2.2.2, decide_eq_false (by omega)]; rfl
                  have T1 := Lib.hid t1
                  have T2 := Lib.hid t2
                  clear t1 t2 hlt
                  go_wp2_with fail
                  refine ((implIsTrue_any _ _ _ _ _ _ _ _).mono (fun e w' h => (show e = .returned (.bool true) ∧ _ from ⟨by rw [h.1, T1.out], h.2⟩))).mono ?_
                  rintro e w12 ⟨rfl, hb⟩
                  have HM12 := Lib.hid (HM11.out.later hb)
                  clear HM11
                  clear hb
                  clear fB10 fB11 fB12 fB13 fB14 fB15 fB16 fB1lt fB20 fB21 fB22 fB23 fB24 fB25 fB26 fB2lt fB60 fB61 fB62 fB63 fB64 fB65 fB66 fB6lt fB70 fB71 fB72 fB73 fB74 fB75 fB76 fB7lt
                  have hbx := HM12.out.box
                  obtain ⟨fB70, fB71, fB72, fB73, fB74, fB75, fB76, fB7lt⟩ := box7 hbx
                  clear hbx
                  go_wp2_with fail
                  clear fB70 fB71 fB72 fB73 fB74 fB75 fB76 fB7lt
                  refine ((implIsTrue_any _ _ _ _ _ _ _ _).mono (fun e w' h => (show e = .returned (.bool false) ∧ _ from ⟨by rw [h.1, T2.out], h.2⟩))).mono ?_
                  rintro e w13 ⟨rfl, hb⟩
                  have HM13 := Lib.hid (HM12.out.later hb)
                  clear HM12
                  clear hb
                  go_wp2_with fail
                  go_ret
                  exact ⟨rfl, HM13.out.bel⟩
                · have t1 : istB vy0 vy1 = false := by rw [HI.out.1, HI.out.2.2.1, decide_eq_false hlt]; rfl
                  have T1 := Lib.hid t1
                  clear t1 hlt
                  go_wp2_with fail
                  refine ((implIsTrue_any _ _ _ _ _ _ _ _).mono (fun e w' h => (show e = .returned (.bool false) ∧ _ from ⟨by rw [h.1, T1.out], h.2⟩))).mono ?_
                  rintro e w12 ⟨rfl, hb⟩
                  have HM12 := Lib.hid (HM11.out.later hb)
                  clear HM11
                  clear hb
                  clear fB10 fB11 fB12 fB13 fB14 fB15 fB16 fB1lt fB20 fB21 fB22 fB23 fB24 fB25 fB26 fB2lt fB60 fB61 fB62 fB63 fB64 fB65 fB66 fB6lt fB70 fB71 fB72 fB73 fB74 fB75 fB76 fB7lt
                  go_wp2_with fail
                  go_ret
                  exact ⟨rfl, HM12.out.bel⟩
              · skip
                go_wp2_with fail
                clear fB10 fB11 fB12 fB13 fB14 fB15 fB16 fB1lt fB20 fB21 fB22 fB23 fB24 fB25 fB26 fB2lt fB60 fB61 fB62 fB63 fB64 fB65 fB66 fB6lt fB70 fB71 fB72 fB73 fB74 fB75 fB76 fB7lt
                refine (specEqualValue_any HV.out HV2.out _ _ _ (MSt.nth (L1 := [_, _, _]) HM11.out).read (MSt.nth (L1 := [_]) HM11.out).read).mono ?_
                rintro e w12 ⟨b, rfl, hbi, hb⟩
                obtain rfl : b = true := hbi.2 (by rw [num_sym HT1.out HT2.out HN1.out HN2.out (by omega) HA.out HA2.out])
                clear hbi
                have HM12 := Lib.hid (HM11.out.later hb)
                clear HM11
                clear hb
                go_wp2_with fail
                go_ret
                exact ⟨rfl, HM12.out.bel⟩
              · skip
                go_wp2_with fail
                go_ret
                exact ⟨rfl, HM11.out.bel⟩
            · have HT2 := Lib.hid v2
              clear v2
              refine ((specValidV HD.out.2 HW2.out _ _ (MSt.nth (L1 := [_, _, _, _, _, _, _]) HM10.out).read).mono (eqP_no HT2.out)).mono ?_
              rintro e w11 ⟨rfl, hb⟩
              have HM11 := Lib.hid (HM10.out.later hb)
              clear HM10
              clear hb
              clear fB10 fB11 fB12 fB13 fB14 fB15 fB16 fB1lt fB20 fB21 fB22 fB23 fB24 fB25 fB26 fB2lt fB60 fB61 fB62 fB63 fB64 fB65 fB66 fB6lt fB70 fB71 fB72 fB73 fB74 fB75 fB76 fB7lt
              go_wp2_with fail
              go_ret
              exact ⟨rfl, HM11.out.bel⟩
          · have HT1 := Lib.hid v1
            clear v1
            refine ((specValidV HD.out.1 HW1.out _ _ (MSt.nth (L1 := [_, _, _, _, _, _]) HM9.out).read).mono (eqP_no HT1.out)).mono ?_
            rintro e w10 ⟨rfl, hb⟩
            have HM10 := Lib.hid (HM9.out.later hb)
            clear HM9
            clear hb
            clear fB10 fB11 fB12 fB13 fB14 fB15 fB16 fB1lt fB20 fB21 fB22 fB23 fB24 fB25 fB26 fB2lt fB60 fB61 fB62 fB63 fB64 fB65 fB66 fB6lt
            go_wp2_with fail
            go_ret
            exact ⟨rfl, HM10.out.bel⟩
        · have e2 : (qy0 == 1) = false := by simpa using h2
          clear h1 h2
          go_wp2_with fail
          go_ret
          exact ⟨rfl, (HM8.out.alloc _).bel⟩
      · have e1 : (py0 == 1) = false := by simpa using h1
        clear h1
        go_wp2_with fail
        go_ret
        exact ⟨rfl, (HM8.out.alloc _).bel⟩
end Go.Proofs.YtabcmnlmmpbmnaaGreat

/-
  The law FnOperandErrors. (Written by genoplaws.py.)
-/

namespace Go.Proofs.YtabcmnlmmpbmnaaGreat
open Go.RowKit
set_option linter.unusedVariables false

set_option maxHeartbeats 800000 in
set_option maxRecDepth 100000 in
theorem at0_any (A : Option Addr) (n c B : Nat) (w : World) (h : Code w B A n) (hn : n ≤ 1048576) :
    Calls Tryz.prog 19 #[.slice A n c, .int .i64 0] w fun e w' => ∃ v : Int, 0 ≤ v ∧ v ≤ 255 ∧ e = .returned (.int .i64 v) ∧ w = w' := by
  by_cases h0 : n = 0
  · have hlt : decide ((0 : Int) < (n : Int)) = false := by simp; omega
    have hn0 : ¬ 0 < n := by omega
    clear h h0
    go_enter Tryz.func19, Tryz.ntmps19
    go_wp2_with fail
    go_ret
    exact ⟨_, by omega, by omega, rfl, rfl⟩
  · obtain ⟨ad, z, rfl, hb, hc', hz0, hz1⟩ := h.2 0 (by omega)
    have hc : w.cell? ad = some (.int .u8 z) := hc'
    clear hc'
    have hlt : decide ((0 : Int) < (n : Int)) = true := by simp; omega
    have hn0 : 0 < n := by omega
    clear h h0 hb
    go_enter Tryz.func19, Tryz.ntmps19
    go_wp2_with fail
    go_ret
    exact ⟨z, by omega, by omega, rfl, rfl⟩

theorem errD_SV {c : Int} (h1 : 1 ≤ c) (h2 : c ≤ 8) : (errD c).SV := by
  rw [show errD c = .agg [.int 6, .int c, .int 0, .str ⟨#[]⟩, .lst [], .lst (([] : List ByteArray).map .str), .lst []] from rfl, SV_mk]
  exact .inr (.inr (.inr (.inr (.inr ⟨rfl, ⟨h1, h2⟩, rfl, rfl, rfl, rfl, rfl⟩))))
theorem errD_err {c : Int} (h1 : 1 ≤ c) (h2 : c ≤ 8) : ErrOf (errD c) c := .inr ⟨errD_SV h1 h2, rfl, rfl⟩
theorem kd_read {w : World} {B : Nat} {d : Dt} {k : Int} {cs : List Value} (hd : IsVal d) (h : Rd w B d (.int .i64 k :: cs)) : k = d.kd := by
  obtain ⟨k', n, s, t, l, c, r, hl, hr⟩ := hd
  obtain ⟨A4, q4, A5, q5, A6, q6, e, -, -, -⟩ := Rd.ofValue h
  injection e with e1 _
  injection e1
set_option maxHeartbeats 6400000 in
set_option maxRecDepth 100000 in
theorem fnOperandErrors_walk (A : Option Addr) (n c : Nat) (zs : List Int) (w : World) (h : IsBytes .u8 w A n c zs) :
    Calls Tryz.prog 4 #[.slice A n c] w fun e w' => e = .returned (.bool true) ∧ Below w.heap.size w w' := by
  by_cases hb : 1048576 < n
  · have hbig := big_yes A n c w hb h.code.1
    clear h
    go_enter Tryz.func4, Tryz.ntmps4
    go_wp2_with fail
    refine hbig.mono ?_
    rintro e w1 ⟨rfl, rfl⟩
    go_wp2_with fail
    go_ret
    exact ⟨rfl, Below.refl _ _⟩
  · have hbig := big_no A n c w (by omega)
    have HC := Lib.hid h.code
    clear h
    go_enter Tryz.func4, Tryz.ntmps4
    go_wp2_with fail
    refine hbig.mono ?_
    rintro e w ⟨rfl, rfl⟩
    clear hbig
    go_wp2_with fail
    refine (drawAp_any A n c w HC.out (by omega)).mono ?_
    rintro e w1 ⟨y, d1, c1, f1, d2, c2, f2, hy0, hy1, hd1, hw1, hd2, hw2, rfl, hD⟩
    obtain ⟨py0, py1, py2, py3, py4, pn4, pc4, py5, pn5, pc5, py6, pn6, pc6, rfl⟩ := hd1.form hD.objs.out.1.read
    obtain ⟨qy0, qy1, qy2, qy3, qy4, qn4, qc4, qy5, qn5, qc5, qy6, qn6, qc6, rfl⟩ := hd2.form (MSt.swap hD).objs.out.1.read
    have h1 := (hD.new 28 7 #[.int .i64 py0, .int .i64 py1, .int .i64 py2, .string py3, .slice py4 pn4 pc4, .slice py5 pn5 pc5, .slice py6 pn6 pc6] rfl).new 28 7 #[.int .i64 qy0, .int .i64 qy1, .int .i64 qy2, .string qy3, .slice qy4 qn4 qc4, .slice qy5 qn5 qc5, .slice qy6 qn6 qc6] rfl
    rw [World.size_alloc] at h1
    have HM1 := Lib.hid h1
    have HW := Lib.hid (show d1.wt + d2.wt ≤ 1048576 by omega)
    have HD := Lib.hid (And.intro hd1 hd2)
    have HN := Lib.hid hb
    clear h1 hd1 hw1 hd2 hw2 hD hb
    go_wp2_with fail
    generalize hW : (w1.alloc (.cells #[.int .i64 py0, .int .i64 py1, .int .i64 py2, .string py3, .slice py4 pn4 pc4, .slice py5 pn5 pc5, .slice py6 pn6 pc6] 28)).alloc (.cells #[.int .i64 qy0, .int .i64 qy1, .int .i64 qy2, .string qy3, .slice qy4 qn4 qc4, .slice qy5 qn5 qc5, .slice qy6 qn6 qc6] 28) = W0 at *
    clear hW
    generalize hx : w1.heap.size = bx at *
    clear hx
    refine (at0_any A n c w.heap.size W0 (HC.out.keep fun q hq => HM1.out.bel.cell hq) (by have := HN.out; omega)).mono ?_
    rintro e W1 ⟨v, hv0, hv1, rfl, rfl⟩
    obtain ⟨hcl, hcu⟩ : 1 ≤ 1 + v % 8 ∧ 1 + v % 8 ≤ 8 := by omega
    have hbx := (MSt.nth (L1 := [_]) HM1.out).box
    obtain ⟨fB10, fB11, fB12, fB13, fB14, fB15, fB16, fB1lt⟩ := box7 hbx
    clear hbx
    have hbx := HM1.out.box
    obtain ⟨fB20, fB21, fB22, fB23, fB24, fB25, fB26, fB2lt⟩ := box7 hbx
    clear hbx
    go_wp2_with fail
    generalize 1 + v % 8 = ec at *
    clear fB10 fB11 fB12 fB13 fB14 fB15 fB16 fB1lt fB20 fB21 fB22 fB23 fB24 fB25 fB26 fB2lt
    have HA1 : Hid (Ap y (Dt.agg [.int 6, .int ec, .int 0, .str ⟨#[]⟩, .lst [], .lst [], .lst []]) d2 (errD ec)) := Lib.hid (Ap.left ec (errD_err hcl hcu))
    obtain ⟨D2, hap2⟩ := ap_some y d1 (Dt.agg [.int 6, .int ec, .int 0, .str ⟨#[]⟩, .lst [], .lst [], .lst []])
    have HV2 := Lib.hid (hap2.val HD.out.1 (isVal_flat 6 ec 0 ⟨#[]⟩))
    have HA2 := Lib.hid hap2
    clear hap2
    have HE := Lib.hid (errD_err hcl hcu)
    clear hcl hcu
    have hfw := flat_wt 6 ec 0 ⟨#[]⟩ (K := 0) (by decide)
    have HF1 := Lib.hid (show (Dt.agg [.int 6, .int ec, .int 0, .str ⟨#[]⟩, .lst [], .lst [], .lst []]).wt + d2.wt ≤ 1048576 by have := HW.out; omega)
    have HF2 := Lib.hid (show d1.wt + (Dt.agg [.int 6, .int ec, .int 0, .str ⟨#[]⟩, .lst [], .lst [], .lst []]).wt ≤ 1048576 by have := HW.out; omega)
    clear hfw
    refine (implErrorValue_any ec _).mono ?_
    rintro e w2 ⟨rfl, hb⟩
    have HM2 := Lib.hid (HM1.out.later hb)
    clear HM1
    clear hb
    have hbx := HM2.out.box
    obtain ⟨fB20, fB21, fB22, fB23, fB24, fB25, fB26, fB2lt⟩ := box7 hbx
    clear hbx
    go_wp2_with fail
    have HM3 := Lib.hid (HM2.out.new 28 7 #[.int .i64 6, .int .i64 ec, .int .i64 0, .string ⟨#[]⟩, .slice none 0 0, .slice none 0 0, .slice none 0 0] rfl)
    clear HM2
    clear fB20 fB21 fB22 fB23 fB24 fB25 fB26 fB2lt
    refine (implAp_any (isVal_flat 6 ec 0 ⟨#[]⟩) HD.out.2 HF1.out _ _ _ (Rd.flat _ _ 6 ec 0 ⟨#[]⟩) (MSt.nth (L1 := [_, _, _, _]) HM3.out).read y _ HA1.out).mono ?_
    rintro e w4 ⟨csVv, fpVv, rfl, how, hnf, hb⟩
    obtain ⟨vy0, vy1, vy2, vy3, vy4, vn4, vc4, vy5, vn5, vc5, vy6, vn6, vc6, rfl⟩ := IsVal.form (isVal_flatD 6 ec ⟨#[]⟩) how.read
    have HM4 := Lib.hid (HM3.out.add hb (owA_at how hnf))
    clear HM3
    clear hb how hnf
    have hbx := (MSt.nth (L1 := [_, _, _]) HM4.out).box
    obtain ⟨fB10, fB11, fB12, fB13, fB14, fB15, fB16, fB1lt⟩ := box7 hbx
    clear hbx
    have hbx := (MSt.nth (L1 := [_]) HM4.out).box
    obtain ⟨fB60, fB61, fB62, fB63, fB64, fB65, fB66, fB6lt⟩ := box7 hbx
    clear hbx
    go_wp2_with fail
    have HM5 := Lib.hid (HM4.out.new 28 7 #[.int .i64 vy0, .int .i64 vy1, .int .i64 vy2, .string vy3, .slice vy4 vn4 vc4, .slice vy5 vn5 vc5, .slice vy6 vn6 vc6] rfl)
    clear HM4
    clear fB10 fB11 fB12 fB13 fB14 fB15 fB16 fB1lt fB60 fB61 fB62 fB63 fB64 fB65 fB66 fB6lt
    refine (implAp_any HD.out.1 (isVal_flat 6 ec 0 ⟨#[]⟩) HF2.out _ _ _ (MSt.nth (L1 := [_, _, _, _, _]) HM5.out).read (Rd.flat _ _ 6 ec 0 ⟨#[]⟩) y _ HA2.out).mono ?_
    rintro e w6 ⟨csVw, fpVw, rfl, how, hnf, hb⟩
    obtain ⟨uy0, uy1, uy2, uy3, uy4, un4, uc4, uy5, un5, uc5, uy6, un6, uc6, rfl⟩ := IsVal.form (HV2.out) how.read
    have HM6 := Lib.hid (HM5.out.add hb (owA_at how hnf))
    clear HM5
    clear hb how hnf
    have hbx := (MSt.nth (L1 := [_]) HM6.out).box
    obtain ⟨fB70, fB71, fB72, fB73, fB74, fB75, fB76, fB7lt⟩ := box7 hbx
    clear hbx
    have hbx := (MSt.nth (L1 := [_, _, _]) HM6.out).box
    obtain ⟨fB60, fB61, fB62, fB63, fB64, fB65, fB66, fB6lt⟩ := box7 hbx
    clear hbx
    go_wp2_with fail
    have HM7 := Lib.hid (HM6.out.new 28 7 #[.int .i64 uy0, .int .i64 uy1, .int .i64 uy2, .string uy3, .slice uy4 un4 uc4, .slice uy5 un5 uc5, .slice uy6 un6 uc6] rfl)
    clear HM6
    clear fB70 fB71 fB72 fB73 fB74 fB75 fB76 fB7lt fB60 fB61 fB62 fB63 fB64 fB65 fB66 fB6lt
    refine (specEqualValue_any (isVal_flatD 6 ec ⟨#[]⟩) (isVal_flat 6 ec 0 ⟨#[]⟩) _ _ _ (MSt.nth (L1 := [_, _, _]) HM7.out).read (Rd.flat _ _ 6 ec 0 ⟨#[]⟩)).mono ?_
    rintro e w8 ⟨b, rfl, hbi, hb⟩
    obtain rfl : b = true := hbi.2 (by rfl)
    clear hbi
    have HM8 := Lib.hid (HM7.out.later hb)
    clear HM7
    clear hb
    have hk1 : py0 = d1.kd := kd_read HD.out.1 (MSt.nth (L1 := [_, _, _, _, _, _, _]) HM8.out).read
    have HK1 := Lib.hid hk1
    clear hk1
    have hk2 : uy0 = D2.kd := kd_read HV2.out (MSt.nth (L1 := [_]) HM8.out).read
    have HK2 := Lib.hid hk2
    clear hk2
    have hbx := (MSt.nth (L1 := [_, _, _, _, _, _]) HM8.out).box
    obtain ⟨fB10, fB11, fB12, fB13, fB14, fB15, fB16, fB1lt⟩ := box7 hbx
    clear hbx
    have hbx := (MSt.nth (L1 := [_, _, _, _]) HM8.out).box
    obtain ⟨fB60, fB61, fB62, fB63, fB64, fB65, fB66, fB6lt⟩ := box7 hbx
    clear hbx
    have hbx := HM8.out.box
    obtain ⟨fB80, fB81, fB82, fB83, fB84, fB85, fB86, fB8lt⟩ := box7 hbx
    clear hbx
    go_wp2_with fail
    rcases errOf_or d1 with hf | ⟨c', hc'⟩
    · have hk3 : (py0 != 6) = true := by rw [HK1.out]; simpa using hf.2
      obtain rfl : D2 = errD ec := Ap.one HA2.out (Ap.right ec hf HE.out)
      have HFI := Lib.hid hf.1
      clear hf
      refine ((specValidV HD.out.1 (by have := HW.out; omega) _ _ (MSt.nth (L1 := [_, _, _, _, _, _, _]) HM8.out).read).mono (eqP_yes HFI.out)).mono ?_
      rintro e w9 ⟨rfl, hb⟩
      have HM9 := Lib.hid (HM8.out.later hb)
      clear HM8
      clear hb
      clear fB10 fB11 fB12 fB13 fB14 fB15 fB16 fB1lt fB60 fB61 fB62 fB63 fB64 fB65 fB66 fB6lt fB80 fB81 fB82 fB83 fB84 fB85 fB86 fB8lt
      have hbx := (MSt.nth (L1 := [_, _, _, _, _, _]) HM9.out).box
      obtain ⟨fB10, fB11, fB12, fB13, fB14, fB15, fB16, fB1lt⟩ := box7 hbx
      clear hbx
      have hbx := (MSt.nth (L1 := [_, _, _, _]) HM9.out).box
      obtain ⟨fB60, fB61, fB62, fB63, fB64, fB65, fB66, fB6lt⟩ := box7 hbx
      clear hbx
      have hbx := HM9.out.box
      obtain ⟨fB80, fB81, fB82, fB83, fB84, fB85, fB86, fB8lt⟩ := box7 hbx
      clear hbx
      go_wp2_with fail
      refine (specEqualValue_any (isVal_flatD 6 ec ⟨#[]⟩) (isVal_flat 6 ec 0 ⟨#[]⟩) _ _ _ (MSt.nth (L1 := [_]) HM9.out).read (Rd.flat _ _ 6 ec 0 ⟨#[]⟩)).mono ?_
      rintro e w10 ⟨b, rfl, hbi, hb⟩
      obtain rfl : b = true := hbi.2 (by rfl)
      clear hbi
      have HM10 := Lib.hid (HM9.out.later hb)
      clear HM9
      clear hb
      clear fB10 fB11 fB12 fB13 fB14 fB15 fB16 fB1lt fB60 fB61 fB62 fB63 fB64 fB65 fB66 fB6lt fB80 fB81 fB82 fB83 fB84 fB85 fB86 fB8lt
      go_wp2_with fail
      go_ret
      exact ⟨rfl, HM10.out.bel⟩
    · have hd2 : D2 = errD c' := Ap.one HA2.out (Ap.left c' hc')
      have hu : uy0 = 6 := by rw [HK2.out, hd2]; rfl
      subst hu
      clear HK2 hd2
      rcases hc' with ⟨hns, -⟩ | ⟨hs, hk6, -⟩
      · have HNS := Lib.hid hns
        clear hns
        refine ((specValidV HD.out.1 (by have := HW.out; omega) _ _ (MSt.nth (L1 := [_, _, _, _, _, _, _]) HM8.out).read).mono (eqP_no HNS.out)).mono ?_
        rintro e w9 ⟨rfl, hb⟩
        have HM9 := Lib.hid (HM8.out.later hb)
        clear HM8
        clear hb
        clear fB10 fB11 fB12 fB13 fB14 fB15 fB16 fB1lt fB60 fB61 fB62 fB63 fB64 fB65 fB66 fB6lt fB80 fB81 fB82 fB83 fB84 fB85 fB86 fB8lt
        have hbx := (MSt.nth (L1 := [_, _, _, _, _, _]) HM9.out).box
        obtain ⟨fB10, fB11, fB12, fB13, fB14, fB15, fB16, fB1lt⟩ := box7 hbx
        clear hbx
        have hbx := (MSt.nth (L1 := [_, _, _, _]) HM9.out).box
        obtain ⟨fB60, fB61, fB62, fB63, fB64, fB65, fB66, fB6lt⟩ := box7 hbx
        clear hbx
        have hbx := HM9.out.box
        obtain ⟨fB80, fB81, fB82, fB83, fB84, fB85, fB86, fB8lt⟩ := box7 hbx
        clear hbx
        go_wp2_with fail
        go_region_law (first
          | (
            go_simp
            go_at_call 15
            refine (specAp_any HD.out.1 (isVal_flat 6 ec 0 ⟨#[]⟩) HF2.out _ _ _ (MSt.nth (L1 := [_, _, _, _, _, _, _]) HM9.out.drew).read (Rd.flat _ _ 6 ec 0 ⟨#[]⟩) y _ HA2.out).mono ?_
            rintro e w10 ⟨csVz, fpVz, rfl, how, hnf, hb⟩
            obtain ⟨zy0, zy1, zy2, zy3, zy4, zn4, zc4, zy5, zn5, zc5, zy6, zn6, zc6, rfl⟩ := IsVal.form (HV2.out) how.read
            have HM10 := Lib.hid (HM9.out.drew.add hb (owA_at how hnf))
            clear hb how hnf
            have hbx := (MSt.nth (L1 := [_, _, _, _, _, _, _]) HM10.out).box
            obtain ⟨fB10, fB11, fB12, fB13, fB14, fB15, fB16, fB1lt⟩ := box7 hbx
            clear hbx
            have hbx := (MSt.nth (L1 := [_, _, _, _, _]) HM10.out).box
            obtain ⟨fB60, fB61, fB62, fB63, fB64, fB65, fB66, fB6lt⟩ := box7 hbx
            clear hbx
            have hbx := (MSt.nth (L1 := [_]) HM10.out).box
            obtain ⟨fB80, fB81, fB82, fB83, fB84, fB85, fB86, fB8lt⟩ := box7 hbx
            clear hbx)
          | (
            go_simp
            go_at_call 14
            refine (specEqualValue_any HV2.out HV2.out _ _ _ (MSt.nth (L1 := [_, _]) HM10.out).read HM10.out.read).mono ?_
            rintro e w11 ⟨b, rfl, hbi, hb⟩
            obtain rfl : b = true := hbi.2 rfl
            clear hbi
            have HM11 := Lib.hid (HM10.out.later hb)
            clear HM10
            clear hb)
          | fail)
        all_goals
          clear fB10 fB11 fB12 fB13 fB14 fB15 fB16 fB1lt fB60 fB61 fB62 fB63 fB64 fB65 fB66 fB6lt fB80 fB81 fB82 fB83 fB84 fB85 fB86 fB8lt
          go_wp2_with fail
          go_ret
          exact ⟨rfl, by first | exact HM11.out.bel | exact HM11.out.drew.bel⟩
      · have HNS := Lib.hid hs
        have hk3 : (py0 != 6) = false := by rw [HK1.out, hk6]; rfl
        clear hs hk6
        refine ((specValidV HD.out.1 (by have := HW.out; omega) _ _ (MSt.nth (L1 := [_, _, _, _, _, _, _]) HM8.out).read).mono (eqP_yes HNS.out)).mono ?_
        rintro e w9 ⟨rfl, hb⟩
        have HM9 := Lib.hid (HM8.out.later hb)
        clear HM8
        clear hb
        clear fB10 fB11 fB12 fB13 fB14 fB15 fB16 fB1lt fB60 fB61 fB62 fB63 fB64 fB65 fB66 fB6lt fB80 fB81 fB82 fB83 fB84 fB85 fB86 fB8lt
        have hbx := (MSt.nth (L1 := [_, _, _, _, _, _]) HM9.out).box
        obtain ⟨fB10, fB11, fB12, fB13, fB14, fB15, fB16, fB1lt⟩ := box7 hbx
        clear hbx
        have hbx := (MSt.nth (L1 := [_, _, _, _]) HM9.out).box
        obtain ⟨fB60, fB61, fB62, fB63, fB64, fB65, fB66, fB6lt⟩ := box7 hbx
        clear hbx
        have hbx := HM9.out.box
        obtain ⟨fB80, fB81, fB82, fB83, fB84, fB85, fB86, fB8lt⟩ := box7 hbx
        clear hbx
        go_wp2_with fail
        go_region_law (first
          | (
            go_simp
            go_at_call 15
            refine (specAp_any HD.out.1 (isVal_flat 6 ec 0 ⟨#[]⟩) HF2.out _ _ _ (MSt.nth (L1 := [_, _, _, _, _, _, _]) HM9.out.drew).read (Rd.flat _ _ 6 ec 0 ⟨#[]⟩) y _ HA2.out).mono ?_
            rintro e w10 ⟨csVz, fpVz, rfl, how, hnf, hb⟩
            obtain ⟨zy0, zy1, zy2, zy3, zy4, zn4, zc4, zy5, zn5, zc5, zy6, zn6, zc6, rfl⟩ := IsVal.form (HV2.out) how.read
            have HM10 := Lib.hid (HM9.out.drew.add hb (owA_at how hnf))
            clear hb how hnf
            have hbx := (MSt.nth (L1 := [_, _, _, _, _, _, _]) HM10.out).box
            obtain ⟨fB10, fB11, fB12, fB13, fB14, fB15, fB16, fB1lt⟩ := box7 hbx
            clear hbx
            have hbx := (MSt.nth (L1 := [_, _, _, _, _]) HM10.out).box
            obtain ⟨fB60, fB61, fB62, fB63, fB64, fB65, fB66, fB6lt⟩ := box7 hbx
            clear hbx
            have hbx := (MSt.nth (L1 := [_]) HM10.out).box
            obtain ⟨fB80, fB81, fB82, fB83, fB84, fB85, fB86, fB8lt⟩ := box7 hbx
            clear hbx)
          | (
            go_simp
            go_at_call 14
            refine (specEqualValue_any HV2.out HV2.out _ _ _ (MSt.nth (L1 := [_, _]) HM10.out).read HM10.out.read).mono ?_
            rintro e w11 ⟨b, rfl, hbi, hb⟩
            obtain rfl : b = true := hbi.2 rfl
            clear hbi
            have HM11 := Lib.hid (HM10.out.later hb)
            clear HM10
            clear hb)
          | fail)
        all_goals
          clear fB10 fB11 fB12 fB13 fB14 fB15 fB16 fB1lt fB60 fB61 fB62 fB63 fB64 fB65 fB66 fB6lt fB80 fB81 fB82 fB83 fB84 fB85 fB86 fB8lt
          go_wp2_with fail
          go_ret
          exact ⟨rfl, by first | exact HM11.out.bel | exact HM11.out.drew.bel⟩
end Go.Proofs.YtabcmnlmmpbmnaaGreat
