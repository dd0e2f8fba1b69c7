/-
  Texts that the proof rests on, put together: OpsLaw.
-/
import Derived.Test.YtehipnbielgbeaaGreatMgOperandErrorsCard8
import Derived.Test.YtehipnbielgbeaaGreatMgExactApplyOperatorCard25
import Derived.Test.YtehipnbielgbeaaGreatMgExactApplyOperatorCard18
import Derived.Test.YtehipnbielgbeaaGreatMgOperandErrorsCard1
import Derived.Test.YtehipnbielgbeaaGreatMgOperatorsCard1
import Derived.Deep.RegionLaw
import Derived.Deep.RegionHeld3
/-
  The law FnOperators. (Written by genoplaws.py.)
-/

namespace Go.Proofs.YtehipnbielgbeaaGreat
open Go.RowKit
set_option linter.unusedVariables false

theorem kd_read {w : World} {B : Nat} {d : Dt} {k : Int} {cs : List Value} (hd : IsVal d) (h : Rd w B d (.int .i64 k :: cs)) : k = d.kd := by
  obtain ⟨k', n, s, t, l, c, r, hl, hr⟩ := hd
  obtain ⟨A4, q4, A5, q5, A6, q6, e, -, -, -⟩ := Rd.ofValue h
  injection e with e1 _
  injection e1
theorem nm_read {w : World} {B : Nat} {d : Dt} {k n : Int} {cs : List Value} (hd : IsVal d) (h : Rd w B d (.int .i64 k :: .int .i64 n :: cs)) : n = d.nm := by
  obtain ⟨k', n', s, t, l, c, r, hl, hr⟩ := hd
  obtain ⟨A4, q4, A5, q5, A6, q6, e, -, -, -⟩ := Rd.ofValue h
  injection e with e1 e2
  injection e2 with e2 e3
  injection e2
set_option maxHeartbeats 3200000 in
set_option maxRecDepth 100000 in
theorem fnOperators_walk (A : Option Addr) (n c : Nat) (zs : List Int) (w : World) (h : IsBytes .u8 w A n c zs) :
    Calls Tryz.prog 3 #[.slice A n c] w fun e w' => e = .returned (.bool true) ∧ Below w.heap.size w w' := by
  by_cases hb : 1048576 < n
  · have hbig := big_yes A n c w hb h.code.1
    clear h
    go_enter Tryz.func3, Tryz.ntmps3
    go_wp2_with fail
    refine hbig.mono ?_
    rintro e w1 ⟨rfl, rfl⟩
    go_wp2_with fail
    go_ret
    exact ⟨rfl, Below.refl _ _⟩
  · have hbig := big_no A n c w (by omega)
    have HC := Lib.hid h.code
    clear h
    go_enter Tryz.func3, Tryz.ntmps3
    go_wp2_with fail
    refine hbig.mono ?_
    rintro e w ⟨rfl, rfl⟩
    clear hbig
    go_wp2_with fail
    refine (drawAp_any A n c w HC.out (by omega)).mono ?_
    rintro e w1 ⟨y, d1, c1, f1, d2, c2, f2, hy0, hy1, hd1, hw1, hd2, hw2, rfl, hD⟩
    obtain ⟨py0, py1, py2, py3, py4, pn4, pc4, py5, pn5, pc5, py6, pn6, pc6, rfl⟩ := hd1.form hD.objs.out.1.read
    obtain ⟨qy0, qy1, qy2, qy3, qy4, qn4, qc4, qy5, qn5, qc5, qy6, qn6, qc6, rfl⟩ := hd2.form (MSt.swap hD).objs.out.1.read
    have h1 := (hD.new 28 7 #[.int .i64 py0, .int .i64 py1, .int .i64 py2, .string py3, .slice py4 pn4 pc4, .slice py5 pn5 pc5, .slice py6 pn6 pc6] rfl).new 28 7 #[.int .i64 qy0, .int .i64 qy1, .int .i64 qy2, .string qy3, .slice qy4 qn4 qc4, .slice qy5 qn5 qc5, .slice qy6 qn6 qc6] rfl
    rw [World.size_alloc] at h1
    have HM1 := Lib.hid h1
    have HW := Lib.hid (show d1.wt + d2.wt ≤ 1048576 by omega)
    have HD := Lib.hid (And.intro hd1 hd2)
    have HN := Lib.hid hb
    clear h1 hd1 hw1 hd2 hw2 hD hb
    go_wp2_with fail
    generalize hW : (w1.alloc (.cells #[.int .i64 py0, .int .i64 py1, .int .i64 py2, .string py3, .slice py4 pn4 pc4, .slice py5 pn5 pc5, .slice py6 pn6 pc6] 28)).alloc (.cells #[.int .i64 qy0, .int .i64 qy1, .int .i64 qy2, .string qy3, .slice qy4 qn4 qc4, .slice qy5 qn5 qc5, .slice qy6 qn6 qc6] 28) = W0 at *
    clear hW
    generalize hx : w1.heap.size = bx at *
    clear hx
    obtain ⟨D, hap⟩ := ap_some y d1 d2
    obtain ⟨D2, hap2⟩ := ap_some y d2 d1
    have HV := Lib.hid (hap.val HD.out.1 HD.out.2)
    have HV2 := Lib.hid (hap2.val HD.out.2 HD.out.1)
    have HS := Lib.hid (hap.sv HD.out.1 HD.out.2)
    have HA := Lib.hid hap
    have HA2 := Lib.hid hap2
    clear hap hap2
    have HWD := Lib.hid (show D.wt ≤ 1048576 from Nat.le_trans (HA.out.wt HD.out.1 HD.out.2) HW.out)
    have HWS := Lib.hid (show d2.wt + d1.wt ≤ 1048576 by have := HW.out; omega)
    have HW1 := Lib.hid (show d1.wt ≤ 1048576 by have := HW.out; omega)
    have HW2 := Lib.hid (show d2.wt ≤ 1048576 by have := HW.out; omega)
    refine (implAp_any HD.out.1 HD.out.2 HW.out _ _ _ (MSt.nth (L1 := [_, _]) HM1.out).read (MSt.nth (L1 := [_, _, _]) HM1.out).read y D HA.out).mono ?_
    rintro e w2 ⟨csVv, fpVv, rfl, how, hnf, hb⟩
    obtain ⟨vy0, vy1, vy2, vy3, vy4, vn4, vc4, vy5, vn5, vc5, vy6, vn6, vc6, rfl⟩ := IsVal.form (HV.out) how.read
    have HM2 := Lib.hid (HM1.out.add hb (owA_at how hnf))
    clear HM1
    clear hb how hnf
    have hbx := (MSt.nth (L1 := [_, _]) HM2.out).box
    have fB10 := hbx.cellAt 0 (by simp)
    have fB11 := hbx.cellAt 1 (by simp)
    have fB12 := hbx.cellAt 2 (by simp)
    have fB13 := hbx.cellAt 3 (by simp)
    have fB14 := hbx.cellAt 4 (by simp)
    have fB15 := hbx.cellAt 5 (by simp)
    have fB16 := hbx.cellAt 6 (by simp)
    have fB1lt := (hbx.lt _ rfl).2
    simp at fB10 fB11 fB12 fB13 fB14 fB15 fB16
    clear hbx
    have hbx := (MSt.nth (L1 := [_]) HM2.out).box
    have fB20 := hbx.cellAt 0 (by simp)
    have fB21 := hbx.cellAt 1 (by simp)
    have fB22 := hbx.cellAt 2 (by simp)
    have fB23 := hbx.cellAt 3 (by simp)
    have fB24 := hbx.cellAt 4 (by simp)
    have fB25 := hbx.cellAt 5 (by simp)
    have fB26 := hbx.cellAt 6 (by simp)
    have fB2lt := (hbx.lt _ rfl).2
    simp at fB20 fB21 fB22 fB23 fB24 fB25 fB26
    clear hbx
    go_upto_region 5 with fail
    have HM3 := Lib.hid (HM2.out.new 28 7 #[.int .i64 vy0, .int .i64 vy1, .int .i64 vy2, .string vy3, .slice vy4 vn4 vc4, .slice vy5 vn5 vc5, .slice vy6 vn6 vc6] rfl)
    clear HM2
    clear fB10 fB11 fB12 fB13 fB14 fB15 fB16 fB1lt fB20 fB21 fB22 fB23 fB24 fB25 fB26 fB2lt
    have hbx := (MSt.nth (L1 := [_, _, _]) HM3.out).box
    have fB10 := hbx.cellAt 0 (by simp)
    have fB11 := hbx.cellAt 1 (by simp)
    have fB12 := hbx.cellAt 2 (by simp)
    have fB13 := hbx.cellAt 3 (by simp)
    have fB14 := hbx.cellAt 4 (by simp)
    have fB15 := hbx.cellAt 5 (by simp)
    have fB16 := hbx.cellAt 6 (by simp)
    have fB1lt := (hbx.lt _ rfl).2
    simp at fB10 fB11 fB12 fB13 fB14 fB15 fB16
    clear hbx
    have hbx := (MSt.nth (L1 := [_, _]) HM3.out).box
    have fB20 := hbx.cellAt 0 (by simp)
    have fB21 := hbx.cellAt 1 (by simp)
    have fB22 := hbx.cellAt 2 (by simp)
    have fB23 := hbx.cellAt 3 (by simp)
    have fB24 := hbx.cellAt 4 (by simp)
    have fB25 := hbx.cellAt 5 (by simp)
    have fB26 := hbx.cellAt 6 (by simp)
    have fB2lt := (hbx.lt _ rfl).2
    simp at fB20 fB21 fB22 fB23 fB24 fB25 fB26
    clear hbx
    have hbx := HM3.out.box
    have fB60 := hbx.cellAt 0 (by simp)
    have fB61 := hbx.cellAt 1 (by simp)
    have fB62 := hbx.cellAt 2 (by simp)
    have fB63 := hbx.cellAt 3 (by simp)
    have fB64 := hbx.cellAt 4 (by simp)
    have fB65 := hbx.cellAt 5 (by simp)
    have fB66 := hbx.cellAt 6 (by simp)
    have fB6lt := (hbx.lt _ rfl).2
    simp at fB60 fB61 fB62 fB63 fB64 fB65 fB66
    clear hbx
    go_cut [32] from 21 to 31 (fun p wx => p = .bool false ∧ MSt w [boxA 28 7 (w2.heap.size) [.int .i64 vy0, .int .i64 vy1, .int .i64 vy2, .string vy3, .slice vy4 vn4 vc4, .slice vy5 vn5 vc5, .slice vy6 vn6 vc6], owA (D) [.int .i64 vy0, .int .i64 vy1, .int .i64 vy2, .string vy3, .slice vy4 vn4 vc4, .slice vy5 vn5 vc5, .slice vy6 vn6 vc6] fpVv, boxA 28 7 (bx + 1) [.int .i64 qy0, .int .i64 qy1, .int .i64 qy2, .string qy3, .slice qy4 qn4 qc4, .slice qy5 qn5 qc5, .slice qy6 qn6 qc6], boxA 28 7 (bx) [.int .i64 py0, .int .i64 py1, .int .i64 py2, .string py3, .slice py4 pn4 pc4, .slice py5 pn5 pc5, .slice py6 pn6 pc6], owA (d1) [.int .i64 py0, .int .i64 py1, .int .i64 py2, .string py3, .slice py4 pn4 pc4, .slice py5 pn5 pc5, .slice py6 pn6 pc6] f1, owA (d2) [.int .i64 qy0, .int .i64 qy1, .int .i64 qy2, .string qy3, .slice qy4 qn4 qc4, .slice qy5 qn5 qc5, .slice qy6 qn6 qc6] f2] wx)
    case first =>
      have hud : undef = Value.tuple #[] := rfl
      go_region_law (first
        | (
          go_simp
          go_at_call 10
          refine (specAp_any HD.out.1 HD.out.2 HW.out _ _ _ (MSt.nth (L1 := [_, _, _, _]) HM3.out.drew).read (MSt.nth (L1 := [_, _, _, _, _]) HM3.out.drew).read y D HA.out).mono ?_
          rintro e w4 ⟨csVs, fpVs, rfl, how, hnf, hb⟩
          obtain ⟨sy0, sy1, sy2, sy3, sy4, sn4, sc4, sy5, sn5, sc5, sy6, sn6, sc6, rfl⟩ := IsVal.form (HV.out) how.read
          have HM4 := Lib.hid (HM3.out.drew.add hb (owA_at how hnf))
          clear hb how hnf
          have hbx := (MSt.nth (L1 := [_, _, _, _]) HM4.out).box
          have fB10 := hbx.cellAt 0 (by simp)
          have fB11 := hbx.cellAt 1 (by simp)
          have fB12 := hbx.cellAt 2 (by simp)
          have fB13 := hbx.cellAt 3 (by simp)
          have fB14 := hbx.cellAt 4 (by simp)
          have fB15 := hbx.cellAt 5 (by simp)
          have fB16 := hbx.cellAt 6 (by simp)
          have fB1lt := (hbx.lt _ rfl).2
          simp at fB10 fB11 fB12 fB13 fB14 fB15 fB16
          clear hbx
          have hbx := (MSt.nth (L1 := [_, _, _]) HM4.out).box
          have fB20 := hbx.cellAt 0 (by simp)
          have fB21 := hbx.cellAt 1 (by simp)
          have fB22 := hbx.cellAt 2 (by simp)
          have fB23 := hbx.cellAt 3 (by simp)
          have fB24 := hbx.cellAt 4 (by simp)
          have fB25 := hbx.cellAt 5 (by simp)
          have fB26 := hbx.cellAt 6 (by simp)
          have fB2lt := (hbx.lt _ rfl).2
          simp at fB20 fB21 fB22 fB23 fB24 fB25 fB26
          clear hbx
          have hbx := (MSt.nth (L1 := [_]) HM4.out).box
          have fB60 := hbx.cellAt 0 (by simp)
          have fB61 := hbx.cellAt 1 (by simp)
          have fB62 := hbx.cellAt 2 (by simp)
          have fB63 := hbx.cellAt 3 (by simp)
          have fB64 := hbx.cellAt 4 (by simp)
          have fB65 := hbx.cellAt 5 (by simp)
          have fB66 := hbx.cellAt 6 (by simp)
          have fB6lt := (hbx.lt _ rfl).2
          simp at fB60 fB61 fB62 fB63 fB64 fB65 fB66
          clear hbx)
        | (
          go_simp
          go_at_call 9
          refine (specEqualValue_any HV.out HV.out _ _ _ (MSt.nth (L1 := [_, _]) HM4.out).read HM4.out.read).mono ?_
          rintro e w5 ⟨b, rfl, hbi, hb⟩
          obtain rfl : b = true := hbi.2 rfl
          clear hbi
          have HM5 := Lib.hid (HM4.out.later hb)
          clear HM4
          clear hb
          have hbx := (MSt.nth (L1 := [_, _, _, _]) HM5.out).box
          have fB10 := hbx.cellAt 0 (by simp)
          have fB11 := hbx.cellAt 1 (by simp)
          have fB12 := hbx.cellAt 2 (by simp)
          have fB13 := hbx.cellAt 3 (by simp)
          have fB14 := hbx.cellAt 4 (by simp)
          have fB15 := hbx.cellAt 5 (by simp)
          have fB16 := hbx.cellAt 6 (by simp)
          have fB1lt := (hbx.lt _ rfl).2
          simp at fB10 fB11 fB12 fB13 fB14 fB15 fB16
          clear hbx
          have hbx := (MSt.nth (L1 := [_, _, _]) HM5.out).box
          have fB20 := hbx.cellAt 0 (by simp)
          have fB21 := hbx.cellAt 1 (by simp)
          have fB22 := hbx.cellAt 2 (by simp)
          have fB23 := hbx.cellAt 3 (by simp)
          have fB24 := hbx.cellAt 4 (by simp)
          have fB25 := hbx.cellAt 5 (by simp)
          have fB26 := hbx.cellAt 6 (by simp)
          have fB2lt := (hbx.lt _ rfl).2
          simp at fB20 fB21 fB22 fB23 fB24 fB25 fB26
          clear hbx
          have hbx := (MSt.nth (L1 := [_]) HM5.out).box
          have fB60 := hbx.cellAt 0 (by simp)
          have fB61 := hbx.cellAt 1 (by simp)
          have fB62 := hbx.cellAt 2 (by simp)
          have fB63 := hbx.cellAt 3 (by simp)
          have fB64 := hbx.cellAt 4 (by simp)
          have fB65 := hbx.cellAt 5 (by simp)
          have fB66 := hbx.cellAt 6 (by simp)
          have fB6lt := (hbx.lt _ rfl).2
          simp at fB60 fB61 fB62 fB63 fB64 fB65 fB66
          clear hbx)
        | (
          go_simp
          go_at_call 11
          refine ((specValidV HV.out HWD.out _ _ (MSt.nth (L1 := [_, _]) HM5.out).read).mono (eqP_yes HS.out)).mono ?_
          rintro e w6 ⟨rfl, hb⟩
          have HM6 := Lib.hid (HM5.out.later hb)
          clear HM5
          clear hb)
        | fail)
      all_goals
        go_wp2_with fail
        go_meet
        exact ⟨rfl, MSt.drop (by first | exact HM6.out | exact HM6.out.drew)⟩
    case rest =>
      obtain ⟨rfl, hM⟩ := hcut
      have HM7 := Lib.hid hM
      clear hM HM3 fB10 fB11 fB12 fB13 fB14 fB15 fB16 fB1lt fB20 fB21 fB22 fB23 fB24 fB25 fB26 fB2lt fB60 fB61 fB62 fB63 fB64 fB65 fB66 fB6lt
      have hbx := (MSt.nth (L1 := [_, _, _]) HM7.out).box
      have fB10 := hbx.cellAt 0 (by simp)
      have fB11 := hbx.cellAt 1 (by simp)
      have fB12 := hbx.cellAt 2 (by simp)
      have fB13 := hbx.cellAt 3 (by simp)
      have fB14 := hbx.cellAt 4 (by simp)
      have fB15 := hbx.cellAt 5 (by simp)
      have fB16 := hbx.cellAt 6 (by simp)
      have fB1lt := (hbx.lt _ rfl).2
      simp at fB10 fB11 fB12 fB13 fB14 fB15 fB16
      clear hbx
      have hbx := (MSt.nth (L1 := [_, _]) HM7.out).box
      have fB20 := hbx.cellAt 0 (by simp)
      have fB21 := hbx.cellAt 1 (by simp)
      have fB22 := hbx.cellAt 2 (by simp)
      have fB23 := hbx.cellAt 3 (by simp)
      have fB24 := hbx.cellAt 4 (by simp)
      have fB25 := hbx.cellAt 5 (by simp)
      have fB26 := hbx.cellAt 6 (by simp)
      have fB2lt := (hbx.lt _ rfl).2
      simp at fB20 fB21 fB22 fB23 fB24 fB25 fB26
      clear hbx
      go_wp2_with fail
      clear fB10 fB11 fB12 fB13 fB14 fB15 fB16 fB1lt fB20 fB21 fB22 fB23 fB24 fB25 fB26 fB2lt
      refine (implAp_any HD.out.2 HD.out.1 HWS.out _ _ _ (MSt.nth (L1 := [_, _, _, _, _]) HM7.out).read (MSt.nth (L1 := [_, _, _, _]) HM7.out).read y D2 HA2.out).mono ?_
      rintro e w8 ⟨csVw, fpVw, rfl, how, hnf, hb⟩
      obtain ⟨uy0, uy1, uy2, uy3, uy4, un4, uc4, uy5, un5, uc5, uy6, un6, uc6, rfl⟩ := IsVal.form (HV2.out) how.read
      have HM8 := Lib.hid (HM7.out.add hb (owA_at how hnf))
      clear HM7
      clear hb how hnf
      have HK1 := Lib.hid (show py0 = d1.kd from kd_read HD.out.1 (MSt.nth (L1 := [_, _, _, _, _]) HM8.out).read)
      have HK2 := Lib.hid (show qy0 = d2.kd from kd_read HD.out.2 (MSt.nth (L1 := [_, _, _, _, _, _]) HM8.out).read)
      have HU := Lib.hid (And.intro (kd_read HV.out (MSt.nth (L1 := [_, _]) HM8.out).read) (nm_read HV.out (MSt.nth (L1 := [_, _]) HM8.out).read))
      have HU2 := Lib.hid (And.intro (kd_read HV2.out HM8.out.read) (nm_read HV2.out HM8.out.read))
      have hbx := (MSt.nth (L1 := [_, _, _, _]) HM8.out).box
      have fB10 := hbx.cellAt 0 (by simp)
      have fB11 := hbx.cellAt 1 (by simp)
      have fB12 := hbx.cellAt 2 (by simp)
      have fB13 := hbx.cellAt 3 (by simp)
      have fB14 := hbx.cellAt 4 (by simp)
      have fB15 := hbx.cellAt 5 (by simp)
      have fB16 := hbx.cellAt 6 (by simp)
      have fB1lt := (hbx.lt _ rfl).2
      simp at fB10 fB11 fB12 fB13 fB14 fB15 fB16
      clear hbx
      have hbx := (MSt.nth (L1 := [_, _, _]) HM8.out).box
      have fB20 := hbx.cellAt 0 (by simp)
      have fB21 := hbx.cellAt 1 (by simp)
      have fB22 := hbx.cellAt 2 (by simp)
      have fB23 := hbx.cellAt 3 (by simp)
      have fB24 := hbx.cellAt 4 (by simp)
      have fB25 := hbx.cellAt 5 (by simp)
      have fB26 := hbx.cellAt 6 (by simp)
      have fB2lt := (hbx.lt _ rfl).2
      simp at fB20 fB21 fB22 fB23 fB24 fB25 fB26
      clear hbx
      have hbx := (MSt.nth (L1 := [_]) HM8.out).box
      have fB60 := hbx.cellAt 0 (by simp)
      have fB61 := hbx.cellAt 1 (by simp)
      have fB62 := hbx.cellAt 2 (by simp)
      have fB63 := hbx.cellAt 3 (by simp)
      have fB64 := hbx.cellAt 4 (by simp)
      have fB65 := hbx.cellAt 5 (by simp)
      have fB66 := hbx.cellAt 6 (by simp)
      have fB6lt := (hbx.lt _ rfl).2
      simp at fB60 fB61 fB62 fB63 fB64 fB65 fB66
      clear hbx
      by_cases h1 : py0 = 1
      · have e1 : (py0 == 1) = true := by simpa using h1
        by_cases h2 : qy0 = 1
        · have e2 : (qy0 == 1) = true := by simpa using h2
          have HN1 := Lib.hid (show d1.kd = 1 by rw [← HK1.out]; exact h1)
          have HN2 := Lib.hid (show d2.kd = 1 by rw [← HK2.out]; exact h2)
          clear h1 h2
          go_wp2_with fail
          have HM9 := Lib.hid (HM8.out.new 28 7 #[.int .i64 uy0, .int .i64 uy1, .int .i64 uy2, .string uy3, .slice uy4 un4 uc4, .slice uy5 un5 uc5, .slice uy6 un6 uc6] rfl)
          clear HM8
          by_cases v1 : d1.SV
          · have HT1 := Lib.hid v1
            clear v1
            refine ((specValidV HD.out.1 HW1.out _ _ (MSt.nth (L1 := [_, _, _, _, _, _]) HM9.out).read).mono (eqP_yes HT1.out)).mono ?_
            rintro e w10 ⟨rfl, hb⟩
            have HM10 := Lib.hid (HM9.out.later hb)
            clear HM9
            clear hb
            clear fB10 fB11 fB12 fB13 fB14 fB15 fB16 fB1lt fB20 fB21 fB22 fB23 fB24 fB25 fB26 fB2lt fB60 fB61 fB62 fB63 fB64 fB65 fB66 fB6lt
            have hbx := (MSt.nth (L1 := [_, _, _, _, _]) HM10.out).box
            have fB10 := hbx.cellAt 0 (by simp)
            have fB11 := hbx.cellAt 1 (by simp)
            have fB12 := hbx.cellAt 2 (by simp)
            have fB13 := hbx.cellAt 3 (by simp)
            have fB14 := hbx.cellAt 4 (by simp)
            have fB15 := hbx.cellAt 5 (by simp)
            have fB16 := hbx.cellAt 6 (by simp)
            have fB1lt := (hbx.lt _ rfl).2
            simp at fB10 fB11 fB12 fB13 fB14 fB15 fB16
            clear hbx
            have hbx := (MSt.nth (L1 := [_, _, _, _]) HM10.out).box
            have fB20 := hbx.cellAt 0 (by simp)
            have fB21 := hbx.cellAt 1 (by simp)
            have fB22 := hbx.cellAt 2 (by simp)
            have fB23 := hbx.cellAt 3 (by simp)
            have fB24 := hbx.cellAt 4 (by simp)
            have fB25 := hbx.cellAt 5 (by simp)
            have fB26 := hbx.cellAt 6 (by simp)
            have fB2lt := (hbx.lt _ rfl).2
            simp at fB20 fB21 fB22 fB23 fB24 fB25 fB26
            clear hbx
            have hbx := (MSt.nth (L1 := [_, _]) HM10.out).box
            have fB60 := hbx.cellAt 0 (by simp)
            have fB61 := hbx.cellAt 1 (by simp)
            have fB62 := hbx.cellAt 2 (by simp)
            have fB63 := hbx.cellAt 3 (by simp)
            have fB64 := hbx.cellAt 4 (by simp)
            have fB65 := hbx.cellAt 5 (by simp)
            have fB66 := hbx.cellAt 6 (by simp)
            have fB6lt := (hbx.lt _ rfl).2
            simp at fB60 fB61 fB62 fB63 fB64 fB65 fB66
            clear hbx
            have hbx := HM10.out.box
            have fB70 := hbx.cellAt 0 (by simp)
            have fB71 := hbx.cellAt 1 (by simp)
            have fB72 := hbx.cellAt 2 (by simp)
            have fB73 := hbx.cellAt 3 (by simp)
            have fB74 := hbx.cellAt 4 (by simp)
            have fB75 := hbx.cellAt 5 (by simp)
            have fB76 := hbx.cellAt 6 (by simp)
            have fB7lt := (hbx.lt _ rfl).2
            simp at fB70 fB71 fB72 fB73 fB74 fB75 fB76
            clear hbx
            go_wp2_with fail
            by_cases v2 : d2.SV
            · have HT2 := Lib.hid v2
              clear v2
              refine ((specValidV HD.out.2 HW2.out _ _ (MSt.nth (L1 := [_, _, _, _, _, _, _]) HM10.out).read).mono (eqP_yes HT2.out)).mono ?_
              rintro e w11 ⟨rfl, hb⟩
              have HM11 := Lib.hid (HM10.out.later hb)
              clear HM10
              clear hb
              clear fB10 fB11 fB12 fB13 fB14 fB15 fB16 fB1lt fB20 fB21 fB22 fB23 fB24 fB25 fB26 fB2lt fB60 fB61 fB62 fB63 fB64 fB65 fB66 fB6lt fB70 fB71 fB72 fB73 fB74 fB75 fB76 fB7lt
              have hbx := (MSt.nth (L1 := [_, _, _, _, _]) HM11.out).box
              have fB10 := hbx.cellAt 0 (by simp)
              have fB11 := hbx.cellAt 1 (by simp)
              have fB12 := hbx.cellAt 2 (by simp)
              have fB13 := hbx.cellAt 3 (by simp)
              have fB14 := hbx.cellAt 4 (by simp)
              have fB15 := hbx.cellAt 5 (by simp)
              have fB16 := hbx.cellAt 6 (by simp)
              have fB1lt := (hbx.lt _ rfl).2
              simp at fB10 fB11 fB12 fB13 fB14 fB15 fB16
              clear hbx
              have hbx := (MSt.nth (L1 := [_, _, _, _]) HM11.out).box
              have fB20 := hbx.cellAt 0 (by simp)
              have fB21 := hbx.cellAt 1 (by simp)
              have fB22 := hbx.cellAt 2 (by simp)
              have fB23 := hbx.cellAt 3 (by simp)
              have fB24 := hbx.cellAt 4 (by simp)
              have fB25 := hbx.cellAt 5 (by simp)
              have fB26 := hbx.cellAt 6 (by simp)
              have fB2lt := (hbx.lt _ rfl).2
              simp at fB20 fB21 fB22 fB23 fB24 fB25 fB26
              clear hbx
              have hbx := (MSt.nth (L1 := [_, _]) HM11.out).box
              have fB60 := hbx.cellAt 0 (by simp)
              have fB61 := hbx.cellAt 1 (by simp)
              have fB62 := hbx.cellAt 2 (by simp)
              have fB63 := hbx.cellAt 3 (by simp)
              have fB64 := hbx.cellAt 4 (by simp)
              have fB65 := hbx.cellAt 5 (by simp)
              have fB66 := hbx.cellAt 6 (by simp)
              have fB6lt := (hbx.lt _ rfl).2
              simp at fB60 fB61 fB62 fB63 fB64 fB65 fB66
              clear hbx
              have hbx := HM11.out.box
              have fB70 := hbx.cellAt 0 (by simp)
              have fB71 := hbx.cellAt 1 (by simp)
              have fB72 := hbx.cellAt 2 (by simp)
              have fB73 := hbx.cellAt 3 (by simp)
              have fB74 := hbx.cellAt 4 (by simp)
              have fB75 := hbx.cellAt 5 (by simp)
              have fB76 := hbx.cellAt 6 (by simp)
              have fB7lt := (hbx.lt _ rfl).2
              simp at fB70 fB71 fB72 fB73 fB74 fB75 fB76
              clear hbx
              have hy : y = 0 ∨ y = 1 ∨ y = 2 ∨ y = 3 ∨ y = 4 ∨ y = 5 ∨ y = 6 := by omega
              rcases hy with rfl | rfl | rfl | rfl | rfl | rfl | rfl
              · skip
                go_wp2_with fail
                go_ret
                exact ⟨rfl, HM11.out.bel⟩
              · skip
                go_wp2_with fail
                clear fB10 fB11 fB12 fB13 fB14 fB15 fB16 fB1lt fB20 fB21 fB22 fB23 fB24 fB25 fB26 fB2lt fB60 fB61 fB62 fB63 fB64 fB65 fB66 fB6lt fB70 fB71 fB72 fB73 fB74 fB75 fB76 fB7lt
                refine (specEqualValue_any HV.out HV2.out _ _ _ (MSt.nth (L1 := [_, _, _]) HM11.out).read (MSt.nth (L1 := [_]) HM11.out).read).mono ?_
                rintro e w12 ⟨b, rfl, hbi, hb⟩
                obtain rfl : b = true := hbi.2 (by rw [num_sym HT1.out HT2.out HN1.out HN2.out (by omega) HA.out HA2.out])
                clear hbi
                have HM12 := Lib.hid (HM11.out.later hb)
                clear HM11
                clear hb
                go_wp2_with fail
                go_ret
                exact ⟨rfl, HM12.out.bel⟩
              · skip
                go_wp2_with fail
                go_ret
                exact ⟨rfl, HM11.out.bel⟩
              · skip
                go_wp2_with fail
                clear fB10 fB11 fB12 fB13 fB14 fB15 fB16 fB1lt fB20 fB21 fB22 fB23 fB24 fB25 fB26 fB2lt fB60 fB61 fB62 fB63 fB64 fB65 fB66 fB6lt fB70 fB71 fB72 fB73 fB74 fB75 fB76 fB7lt
                refine (specEqualValue_any HV.out HV2.out _ _ _ (MSt.nth (L1 := [_, _, _]) HM11.out).read (MSt.nth (L1 := [_]) HM11.out).read).mono ?_
                rintro e w12 ⟨b, rfl, hbi, hb⟩
                obtain rfl : b = true := hbi.2 (by rw [num_sym HT1.out HT2.out HN1.out HN2.out (by omega) HA.out HA2.out])
                clear hbi
                have HM12 := Lib.hid (HM11.out.later hb)
                clear HM11
                clear hb
                go_wp2_with fail
                go_ret
                exact ⟨rfl, HM12.out.bel⟩
              · skip
                have hv0 : vy0 = 1 := by rw [HU.out.1, less_num HT1.out HT2.out HN1.out HN2.out HA.out]; rfl
                have hu0 : uy0 = 1 := by rw [HU2.out.1, less_num HT2.out HT1.out HN2.out HN1.out HA2.out]; rfl
                have hv1 : vy1 = truN (decide (d1.nm < d2.nm)) := by rw [HU.out.2, less_num HT1.out HT2.out HN1.out HN2.out HA.out]; rfl
                have hu1 : uy1 = truN (decide (d2.nm < d1.nm)) := by rw [HU2.out.2, less_num HT2.out HT1.out HN2.out HN1.out HA2.out]; rfl
                have HI := Lib.hid (And.intro hv0 (And.intro hu0 (And.intro hv1 hu1)))
                clear hv0 hu0 hv1 hu1
                by_cases hlt : d1.nm < d2.nm
                · have t1 : istB vy0 vy1 = true := by rw [HI.out.1, HI.out.2.2.1, decide_eq_true hlt]; rfl
                  have t2 : istB uy0 uy1 = false := by rw [HI.out.2.1, HI.out.2.2.2, decide_eq_false (by omega)]; rfl
                  have T1 := Lib.hid t1
                  have T2 := Lib.hid t2
                  clear t1 t2 hlt
                  go_wp2_with fail
                  refine ((implIsTrue_any _ _ _ _ _ _ _ _).mono (fun e w' h => (show e = .returned (.bool true) ∧ _ from ⟨by rw [h.1, T1.out], h.2⟩))).mono ?_
                  rintro e w12 ⟨rfl, hb⟩
                  have HM12 := Lib.hid (HM11.out.later hb)
                  clear HM11
                  clear hb
                  clear fB10 fB11 fB12 fB13 fB14 fB15 fB16 fB1lt fB20 fB21 fB22 fB23 fB24 fB25 fB26 fB2lt fB60 fB61 fB62 fB63 fB64 fB65 fB66 fB6lt fB70 fB71 fB72 fB73 fB74 fB75 fB76 fB7lt
                  have hbx := HM12.out.box
                  have fB70 := hbx.cellAt 0 (by simp)
                  have fB71 := hbx.cellAt 1 (by simp)
                  have fB72 := hbx.cellAt 2 (by simp)
                  have fB73 := hbx.cellAt 3 (by simp)
                  have fB74 := hbx.cellAt 4 (by simp)
                  have fB75 := hbx.cellAt 5 (by simp)
                  have fB76 := hbx.cellAt 6 (by simp)
                  have fB7lt := (hbx.lt _ rfl).2
                  simp at fB70 fB71 fB72 fB73 fB74 fB75 fB76
                  clear hbx
                  go_wp2_with fail
                  clear fB70 fB71 fB72 fB73 fB74 fB75 fB76 fB7lt
                  refine ((implIsTrue_any _ _ _ _ _ _ _ _).mono (fun e w' h => (show e = .returned (.bool false) ∧ _ from ⟨by rw [h.1, T2.out], h.2⟩))).mono ?_
                  rintro e w13 ⟨rfl, hb⟩
                  have HM13 := Lib.hid (HM12.out.later hb)
                  clear HM12
                  clear hb
                  go_wp2_with fail
                  go_ret
                  exact ⟨rfl, HM13.out.bel⟩
                · have t1 : istB vy0 vy1 = false := by rw [HI.out.1, HI.out.2.2.1, decide_eq_false hlt]; rfl
                  have T1 := Lib.hid t1
                  clear t1 hlt
                  go_wp2_with fail
                  refine ((implIsTrue_any _ _ _ _ _ _ _ _).mono (fun e w' h => (show e = .returned (.bool false) ∧ _ from ⟨by rw [h.1, T1.out], h.2⟩))).mono ?_
                  rintro e w12 ⟨rfl, hb⟩
                  have HM12 := Lib.hid (HM11.out.later hb)
                  clear HM11
                  clear hb
                  clear fB10 fB11 fB12 fB13 fB14 fB15 fB16 fB1lt fB20 fB21 fB22 fB23 fB24 fB25 fB26 fB2lt fB60 fB61 fB62 fB63 fB64 fB65 fB66 fB6lt fB70 fB71 fB72 fB73 fB74 fB75 fB76 fB7lt
                  go_wp2_with fail
                  go_ret
                  exact ⟨rfl, HM12.out.bel⟩
              · skip
                go_wp2_with fail
                clear fB10 fB11 fB12 fB13 fB14 fB15 fB16 fB1lt fB20 fB21 fB22 fB23 fB24 fB25 fB26 fB2lt fB60 fB61 fB62 fB63 fB64 fB65 fB66 fB6lt fB70 fB71 fB72 fB73 fB74 fB75 fB76 fB7lt
                refine (specEqualValue_any HV.out HV2.out _ _ _ (MSt.nth (L1 := [_, _, _]) HM11.out).read (MSt.nth (L1 := [_]) HM11.out).read).mono ?_
                rintro e w12 ⟨b, rfl, hbi, hb⟩
                obtain rfl : b = true := hbi.2 (by rw [num_sym HT1.out HT2.out HN1.out HN2.out (by omega) HA.out HA2.out])
                clear hbi
                have HM12 := Lib.hid (HM11.out.later hb)
                clear HM11
                clear hb
                go_wp2_with fail
                go_ret
                exact ⟨rfl, HM12.out.bel⟩
              · skip
                go_wp2_with fail
                go_ret
                exact ⟨rfl, HM11.out.bel⟩
            · have HT2 := Lib.hid v2
              clear v2
              refine ((specValidV HD.out.2 HW2.out _ _ (MSt.nth (L1 := [_, _, _, _, _, _, _]) HM10.out).read).mono (eqP_no HT2.out)).mono ?_
              rintro e w11 ⟨rfl, hb⟩
              have HM11 := Lib.hid (HM10.out.later hb)
              clear HM10
              clear hb
              clear fB10 fB11 fB12 fB13 fB14 fB15 fB16 fB1lt fB20 fB21 fB22 fB23 fB24 fB25 fB26 fB2lt fB60 fB61 fB62 fB63 fB64 fB65 fB66 fB6lt fB70 fB71 fB72 fB73 fB74 fB75 fB76 fB7lt
              go_wp2_with fail
              go_ret
              exact ⟨rfl, HM11.out.bel⟩
          · have HT1 := Lib.hid v1
            clear v1
            refine ((specValidV HD.out.1 HW1.out _ _ (MSt.nth (L1 := [_, _, _, _, _, _]) HM9.out).read).mono (eqP_no HT1.out)).mono ?_
            rintro e w10 ⟨rfl, hb⟩
            have HM10 := Lib.hid (HM9.out.later hb)
            clear HM9
            clear hb
            clear fB10 fB11 fB12 fB13 fB14 fB15 fB16 fB1lt fB20 fB21 fB22 fB23 fB24 fB25 fB26 fB2lt fB60 fB61 fB62 fB63 fB64 fB65 fB66 fB6lt
            go_wp2_with fail
            go_ret
            exact ⟨rfl, HM10.out.bel⟩
        · have e2 : (qy0 == 1) = false := by simpa using h2
          clear h1 h2
          go_wp2_with fail
          go_ret
          exact ⟨rfl, (HM8.out.alloc _).bel⟩
      · have e1 : (py0 == 1) = false := by simpa using h1
        clear h1
        go_wp2_with fail
        go_ret
        exact ⟨rfl, (HM8.out.alloc _).bel⟩
end Go.Proofs.YtehipnbielgbeaaGreat
