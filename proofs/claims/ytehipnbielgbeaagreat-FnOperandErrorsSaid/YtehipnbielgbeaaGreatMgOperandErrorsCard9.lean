/-
  Texts that the proof rests on, put together: OpErrLaw.
-/
import Derived.Test.YtehipnbielgbeaaGreatMgOperandErrorsCard8
import Derived.Test.YtehipnbielgbeaaGreatMgExactApplyOperatorCard25
import Derived.Test.YtehipnbielgbeaaGreatMgExactApplyOperatorCard18
import Derived.Test.YtehipnbielgbeaaGreatMgOperandErrorsCard1
import Derived.Deep.RegionLaw
import Derived.Deep.RegionHeld3
/-
  The law FnOperandErrors. (Written by genoplaws.py.)
-/

namespace Go.Proofs.YtehipnbielgbeaaGreat
open Go.RowKit
set_option linter.unusedVariables false

set_option maxHeartbeats 800000 in
set_option maxRecDepth 100000 in
theorem at0_any (A : Option Addr) (n c B : Nat) (w : World) (h : Code w B A n) (hn : n ≤ 1048576) :
    Calls Tryz.prog 14 #[.slice A n c, .int .i64 0] w fun e w' => ∃ v : Int, 0 ≤ v ∧ v ≤ 255 ∧ e = .returned (.int .i64 v) ∧ w = w' := by
  by_cases h0 : n = 0
  · have hlt : decide ((0 : Int) < (n : Int)) = false := by simp; omega
    have hn0 : ¬ 0 < n := by omega
    clear h h0
    go_enter Tryz.func14, Tryz.ntmps14
    go_wp2_with fail
    go_ret
    exact ⟨_, by omega, by omega, rfl, rfl⟩
  · obtain ⟨ad, z, rfl, hb, hc', hz0, hz1⟩ := h.2 0 (by omega)
    have hc : w.cell? ad = some (.int .u8 z) := hc'
    clear hc'
    have hlt : decide ((0 : Int) < (n : Int)) = true := by simp; omega
    have hn0 : 0 < n := by omega
    clear h h0 hb
    go_enter Tryz.func14, Tryz.ntmps14
    go_wp2_with fail
    go_ret
    exact ⟨z, by omega, by omega, rfl, rfl⟩

theorem errD_SV {c : Int} (h1 : 1 ≤ c) (h2 : c ≤ 8) : (errD c).SV := by
  rw [show errD c = .agg [.int 6, .int c, .int 0, .str ⟨#[]⟩, .lst [], .lst (([] : List ByteArray).map .str), .lst []] from rfl, SV_mk]
  exact .inr (.inr (.inr (.inr (.inr ⟨rfl, ⟨h1, h2⟩, rfl, rfl, rfl, rfl, rfl⟩))))
theorem errD_err {c : Int} (h1 : 1 ≤ c) (h2 : c ≤ 8) : ErrOf (errD c) c := .inr ⟨errD_SV h1 h2, rfl, rfl⟩
theorem kd_read {w : World} {B : Nat} {d : Dt} {k : Int} {cs : List Value} (hd : IsVal d) (h : Rd w B d (.int .i64 k :: cs)) : k = d.kd := by
  obtain ⟨k', n, s, t, l, c, r, hl, hr⟩ := hd
  obtain ⟨A4, q4, A5, q5, A6, q6, e, -, -, -⟩ := Rd.ofValue h
  injection e with e1 _
  injection e1
theorem nm_read {w : World} {B : Nat} {d : Dt} {k n : Int} {cs : List Value} (hd : IsVal d) (h : Rd w B d (.int .i64 k :: .int .i64 n :: cs)) : n = d.nm := by
  obtain ⟨k', n', s, t, l, c, r, hl, hr⟩ := hd
  obtain ⟨A4, q4, A5, q5, A6, q6, e, -, -, -⟩ := Rd.ofValue h
  injection e with e1 e2
  injection e2 with e2 e3
  injection e2

set_option maxHeartbeats 6400000 in
set_option maxRecDepth 100000 in
theorem fnOperandErrors_walk (A : Option Addr) (n c : Nat) (zs : List Int) (w : World) (h : IsBytes .u8 w A n c zs) :
    Calls Tryz.prog 4 #[.slice A n c] w fun e w' => e = .returned (.bool true) ∧ Below w.heap.size w w' := by
  by_cases hb : 1048576 < n
  · have hbig := big_yes A n c w hb h.code.1
    clear h
    go_enter Tryz.func4, Tryz.ntmps4
    go_wp2_with fail
    refine hbig.mono ?_
    rintro e w1 ⟨rfl, rfl⟩
    go_wp2_with fail
    go_ret
    exact ⟨rfl, Below.refl _ _⟩
  · have hbig := big_no A n c w (by omega)
    have HC := Lib.hid h.code
    clear h
    go_enter Tryz.func4, Tryz.ntmps4
    go_wp2_with fail
    refine hbig.mono ?_
    rintro e w ⟨rfl, rfl⟩
    clear hbig
    go_wp2_with fail
    refine (drawAp_any A n c w HC.out (by omega)).mono ?_
    rintro e w1 ⟨y, d1, c1, f1, d2, c2, f2, hy0, hy1, hd1, hw1, hd2, hw2, rfl, hD⟩
    obtain ⟨py0, py1, py2, py3, py4, pn4, pc4, py5, pn5, pc5, py6, pn6, pc6, rfl⟩ := hd1.form hD.objs.out.1.read
    obtain ⟨qy0, qy1, qy2, qy3, qy4, qn4, qc4, qy5, qn5, qc5, qy6, qn6, qc6, rfl⟩ := hd2.form (MSt.swap hD).objs.out.1.read
    have h1 := (hD.new 28 7 #[.int .i64 py0, .int .i64 py1, .int .i64 py2, .string py3, .slice py4 pn4 pc4, .slice py5 pn5 pc5, .slice py6 pn6 pc6] rfl).new 28 7 #[.int .i64 qy0, .int .i64 qy1, .int .i64 qy2, .string qy3, .slice qy4 qn4 qc4, .slice qy5 qn5 qc5, .slice qy6 qn6 qc6] rfl
    rw [World.size_alloc] at h1
    have HM1 := Lib.hid h1
    have HW := Lib.hid (show d1.wt + d2.wt ≤ 1048576 by omega)
    have HD := Lib.hid (And.intro hd1 hd2)
    have HN := Lib.hid hb
    clear h1 hd1 hw1 hd2 hw2 hD hb
    go_wp2_with fail
    generalize hW : (w1.alloc (.cells #[.int .i64 py0, .int .i64 py1, .int .i64 py2, .string py3, .slice py4 pn4 pc4, .slice py5 pn5 pc5, .slice py6 pn6 pc6] 28)).alloc (.cells #[.int .i64 qy0, .int .i64 qy1, .int .i64 qy2, .string qy3, .slice qy4 qn4 qc4, .slice qy5 qn5 qc5, .slice qy6 qn6 qc6] 28) = W0 at *
    clear hW
    generalize hx : w1.heap.size = bx at *
    clear hx
    refine (at0_any A n c w.heap.size W0 (HC.out.keep fun q hq => HM1.out.bel.cell hq) (by have := HN.out; omega)).mono ?_
    rintro e W1 ⟨v, hv0, hv1, rfl, rfl⟩
    obtain ⟨hcl, hcu⟩ : 1 ≤ 1 + v % 8 ∧ 1 + v % 8 ≤ 8 := by omega
    have hbx := (MSt.nth (L1 := [_]) HM1.out).box
    have fB10 := hbx.cellAt 0 (by simp)
    have fB11 := hbx.cellAt 1 (by simp)
    have fB12 := hbx.cellAt 2 (by simp)
    have fB13 := hbx.cellAt 3 (by simp)
    have fB14 := hbx.cellAt 4 (by simp)
    have fB15 := hbx.cellAt 5 (by simp)
    have fB16 := hbx.cellAt 6 (by simp)
    have fB1lt := (hbx.lt _ rfl).2
    simp at fB10 fB11 fB12 fB13 fB14 fB15 fB16
    clear hbx
    have hbx := HM1.out.box
    have fB20 := hbx.cellAt 0 (by simp)
    have fB21 := hbx.cellAt 1 (by simp)
    have fB22 := hbx.cellAt 2 (by simp)
    have fB23 := hbx.cellAt 3 (by simp)
    have fB24 := hbx.cellAt 4 (by simp)
    have fB25 := hbx.cellAt 5 (by simp)
    have fB26 := hbx.cellAt 6 (by simp)
    have fB2lt := (hbx.lt _ rfl).2
    simp at fB20 fB21 fB22 fB23 fB24 fB25 fB26
    clear hbx
    go_wp2_with fail
    generalize 1 + v % 8 = ec at *
    clear fB10 fB11 fB12 fB13 fB14 fB15 fB16 fB1lt fB20 fB21 fB22 fB23 fB24 fB25 fB26 fB2lt
    have HA1 : Hid (Ap y (Dt.agg [.int 6, .int ec, .int 0, .str ⟨#[]⟩, .lst [], .lst [], .lst []]) d2 (errD ec)) := Lib.hid (Ap.left ec (errD_err hcl hcu))
    obtain ⟨D2, hap2⟩ := ap_some y d1 (Dt.agg [.int 6, .int ec, .int 0, .str ⟨#[]⟩, .lst [], .lst [], .lst []])
    have HV2 := Lib.hid (hap2.val HD.out.1 (isVal_flat 6 ec 0 ⟨#[]⟩))
    have HA2 := Lib.hid hap2
    clear hap2
    have HE := Lib.hid (errD_err hcl hcu)
    clear hcl hcu
    have hfw := flat_wt 6 ec 0 ⟨#[]⟩ (K := 0) (by decide)
    have HF1 := Lib.hid (show (Dt.agg [.int 6, .int ec, .int 0, .str ⟨#[]⟩, .lst [], .lst [], .lst []]).wt + d2.wt ≤ 1048576 by have := HW.out; omega)
    have HF2 := Lib.hid (show d1.wt + (Dt.agg [.int 6, .int ec, .int 0, .str ⟨#[]⟩, .lst [], .lst [], .lst []]).wt ≤ 1048576 by have := HW.out; omega)
    clear hfw
    refine (implErrorValue_any ec _).mono ?_
    rintro e w2 ⟨rfl, hb⟩
    have HM2 := Lib.hid (HM1.out.later hb)
    clear HM1
    clear hb
    have hbx := HM2.out.box
    have fB20 := hbx.cellAt 0 (by simp)
    have fB21 := hbx.cellAt 1 (by simp)
    have fB22 := hbx.cellAt 2 (by simp)
    have fB23 := hbx.cellAt 3 (by simp)
    have fB24 := hbx.cellAt 4 (by simp)
    have fB25 := hbx.cellAt 5 (by simp)
    have fB26 := hbx.cellAt 6 (by simp)
    have fB2lt := (hbx.lt _ rfl).2
    simp at fB20 fB21 fB22 fB23 fB24 fB25 fB26
    clear hbx
    go_wp2_with fail
    have HM3 := Lib.hid (HM2.out.new 28 7 #[.int .i64 6, .int .i64 ec, .int .i64 0, .string ⟨#[]⟩, .slice none 0 0, .slice none 0 0, .slice none 0 0] rfl)
    clear HM2
    clear fB20 fB21 fB22 fB23 fB24 fB25 fB26 fB2lt
    refine (implAp_any (isVal_flat 6 ec 0 ⟨#[]⟩) HD.out.2 HF1.out _ _ _ (Rd.flat _ _ 6 ec 0 ⟨#[]⟩) (MSt.nth (L1 := [_, _, _, _]) HM3.out).read y _ HA1.out).mono ?_
    rintro e w4 ⟨csVv, fpVv, rfl, how, hnf, hb⟩
    obtain ⟨vy0, vy1, vy2, vy3, vy4, vn4, vc4, vy5, vn5, vc5, vy6, vn6, vc6, rfl⟩ := IsVal.form (isVal_flatD 6 ec ⟨#[]⟩) how.read
    have HM4 := Lib.hid (HM3.out.add hb (owA_at how hnf))
    clear HM3
    clear hb how hnf
    have hbx := (MSt.nth (L1 := [_, _, _]) HM4.out).box
    have fB10 := hbx.cellAt 0 (by simp)
    have fB11 := hbx.cellAt 1 (by simp)
    have fB12 := hbx.cellAt 2 (by simp)
    have fB13 := hbx.cellAt 3 (by simp)
    have fB14 := hbx.cellAt 4 (by simp)
    have fB15 := hbx.cellAt 5 (by simp)
    have fB16 := hbx.cellAt 6 (by simp)
    have fB1lt := (hbx.lt _ rfl).2
    simp at fB10 fB11 fB12 fB13 fB14 fB15 fB16
    clear hbx
    have hbx := (MSt.nth (L1 := [_]) HM4.out).box
    have fB60 := hbx.cellAt 0 (by simp)
    have fB61 := hbx.cellAt 1 (by simp)
    have fB62 := hbx.cellAt 2 (by simp)
    have fB63 := hbx.cellAt 3 (by simp)
    have fB64 := hbx.cellAt 4 (by simp)
    have fB65 := hbx.cellAt 5 (by simp)
    have fB66 := hbx.cellAt 6 (by simp)
    have fB6lt := (hbx.lt _ rfl).2
    simp at fB60 fB61 fB62 fB63 fB64 fB65 fB66
    clear hbx
    go_wp2_with fail
    have HM5 := Lib.hid (HM4.out.new 28 7 #[.int .i64 vy0, .int .i64 vy1, .int .i64 vy2, .string vy3, .slice vy4 vn4 vc4, .slice vy5 vn5 vc5, .slice vy6 vn6 vc6] rfl)
    clear HM4
    clear fB10 fB11 fB12 fB13 fB14 fB15 fB16 fB1lt fB60 fB61 fB62 fB63 fB64 fB65 fB66 fB6lt
    refine (implAp_any HD.out.1 (isVal_flat 6 ec 0 ⟨#[]⟩) HF2.out _ _ _ (MSt.nth (L1 := [_, _, _, _, _]) HM5.out).read (Rd.flat _ _ 6 ec 0 ⟨#[]⟩) y _ HA2.out).mono ?_
    rintro e w6 ⟨csVw, fpVw, rfl, how, hnf, hb⟩
    obtain ⟨uy0, uy1, uy2, uy3, uy4, un4, uc4, uy5, un5, uc5, uy6, un6, uc6, rfl⟩ := IsVal.form (HV2.out) how.read
    have HM6 := Lib.hid (HM5.out.add hb (owA_at how hnf))
    clear HM5
    clear hb how hnf
    have hbx := (MSt.nth (L1 := [_]) HM6.out).box
    have fB70 := hbx.cellAt 0 (by simp)
    have fB71 := hbx.cellAt 1 (by simp)
    have fB72 := hbx.cellAt 2 (by simp)
    have fB73 := hbx.cellAt 3 (by simp)
    have fB74 := hbx.cellAt 4 (by simp)
    have fB75 := hbx.cellAt 5 (by simp)
    have fB76 := hbx.cellAt 6 (by simp)
    have fB7lt := (hbx.lt _ rfl).2
    simp at fB70 fB71 fB72 fB73 fB74 fB75 fB76
    clear hbx
    have hbx := (MSt.nth (L1 := [_, _, _]) HM6.out).box
    have fB60 := hbx.cellAt 0 (by simp)
    have fB61 := hbx.cellAt 1 (by simp)
    have fB62 := hbx.cellAt 2 (by simp)
    have fB63 := hbx.cellAt 3 (by simp)
    have fB64 := hbx.cellAt 4 (by simp)
    have fB65 := hbx.cellAt 5 (by simp)
    have fB66 := hbx.cellAt 6 (by simp)
    have fB6lt := (hbx.lt _ rfl).2
    simp at fB60 fB61 fB62 fB63 fB64 fB65 fB66
    clear hbx
    go_wp2_with fail
    have HM7 := Lib.hid (HM6.out.new 28 7 #[.int .i64 uy0, .int .i64 uy1, .int .i64 uy2, .string uy3, .slice uy4 un4 uc4, .slice uy5 un5 uc5, .slice uy6 un6 uc6] rfl)
    clear HM6
    clear fB70 fB71 fB72 fB73 fB74 fB75 fB76 fB7lt fB60 fB61 fB62 fB63 fB64 fB65 fB66 fB6lt
    refine (specEqualValue_any (isVal_flatD 6 ec ⟨#[]⟩) (isVal_flat 6 ec 0 ⟨#[]⟩) _ _ _ (MSt.nth (L1 := [_, _, _]) HM7.out).read (Rd.flat _ _ 6 ec 0 ⟨#[]⟩)).mono ?_
    rintro e w8 ⟨b, rfl, hbi, hb⟩
    obtain rfl : b = true := hbi.2 (by rfl)
    clear hbi
    have HM8 := Lib.hid (HM7.out.later hb)
    clear HM7
    clear hb
    have hk1 : py0 = d1.kd := kd_read HD.out.1 (MSt.nth (L1 := [_, _, _, _, _, _, _]) HM8.out).read
    have HK1 := Lib.hid hk1
    clear hk1
    have hk2 : uy0 = D2.kd := kd_read HV2.out (MSt.nth (L1 := [_]) HM8.out).read
    have HK2 := Lib.hid hk2
    clear hk2
    have hbx := (MSt.nth (L1 := [_, _, _, _, _, _]) HM8.out).box
    have fB10 := hbx.cellAt 0 (by simp)
    have fB11 := hbx.cellAt 1 (by simp)
    have fB12 := hbx.cellAt 2 (by simp)
    have fB13 := hbx.cellAt 3 (by simp)
    have fB14 := hbx.cellAt 4 (by simp)
    have fB15 := hbx.cellAt 5 (by simp)
    have fB16 := hbx.cellAt 6 (by simp)
    have fB1lt := (hbx.lt _ rfl).2
    simp at fB10 fB11 fB12 fB13 fB14 fB15 fB16
    clear hbx
    have hbx := (MSt.nth (L1 := [_, _, _, _]) HM8.out).box
    have fB60 := hbx.cellAt 0 (by simp)
    have fB61 := hbx.cellAt 1 (by simp)
    have fB62 := hbx.cellAt 2 (by simp)
    have fB63 := hbx.cellAt 3 (by simp)
    have fB64 := hbx.cellAt 4 (by simp)
    have fB65 := hbx.cellAt 5 (by simp)
    have fB66 := hbx.cellAt 6 (by simp)
    have fB6lt := (hbx.lt _ rfl).2
    simp at fB60 fB61 fB62 fB63 fB64 fB65 fB66
    clear hbx
    have hbx := HM8.out.box
    have fB80 := hbx.cellAt 0 (by simp)
    have fB81 := hbx.cellAt 1 (by simp)
    have fB82 := hbx.cellAt 2 (by simp)
    have fB83 := hbx.cellAt 3 (by simp)
    have fB84 := hbx.cellAt 4 (by simp)
    have fB85 := hbx.cellAt 5 (by simp)
    have fB86 := hbx.cellAt 6 (by simp)
    have fB8lt := (hbx.lt _ rfl).2
    simp at fB80 fB81 fB82 fB83 fB84 fB85 fB86
    clear hbx
    go_wp2_with fail
    rcases errOf_or d1 with hf | ⟨c', hc'⟩
    · have hk3 : (py0 != 6) = true := by rw [HK1.out]; simpa using hf.2
      obtain rfl : D2 = errD ec := Ap.one HA2.out (Ap.right ec hf HE.out)
      have HFI := Lib.hid hf.1
      clear hf
      refine ((specValidV HD.out.1 (by have := HW.out; omega) _ _ (MSt.nth (L1 := [_, _, _, _, _, _, _]) HM8.out).read).mono (eqP_yes HFI.out)).mono ?_
      rintro e w9 ⟨rfl, hb⟩
      have HM9 := Lib.hid (HM8.out.later hb)
      clear HM8
      clear hb
      clear fB10 fB11 fB12 fB13 fB14 fB15 fB16 fB1lt fB60 fB61 fB62 fB63 fB64 fB65 fB66 fB6lt fB80 fB81 fB82 fB83 fB84 fB85 fB86 fB8lt
      have hbx := (MSt.nth (L1 := [_, _, _, _, _, _]) HM9.out).box
      have fB10 := hbx.cellAt 0 (by simp)
      have fB11 := hbx.cellAt 1 (by simp)
      have fB12 := hbx.cellAt 2 (by simp)
      have fB13 := hbx.cellAt 3 (by simp)
      have fB14 := hbx.cellAt 4 (by simp)
      have fB15 := hbx.cellAt 5 (by simp)
      have fB16 := hbx.cellAt 6 (by simp)
      have fB1lt := (hbx.lt _ rfl).2
      simp at fB10 fB11 fB12 fB13 fB14 fB15 fB16
      clear hbx
      have hbx := (MSt.nth (L1 := [_, _, _, _]) HM9.out).box
      have fB60 := hbx.cellAt 0 (by simp)
      have fB61 := hbx.cellAt 1 (by simp)
      have fB62 := hbx.cellAt 2 (by simp)
      have fB63 := hbx.cellAt 3 (by simp)
      have fB64 := hbx.cellAt 4 (by simp)
      have fB65 := hbx.cellAt 5 (by simp)
      have fB66 := hbx.cellAt 6 (by simp)
      have fB6lt := (hbx.lt _ rfl).2
      simp at fB60 fB61 fB62 fB63 fB64 fB65 fB66
      clear hbx
      have hbx := HM9.out.box
      have fB80 := hbx.cellAt 0 (by simp)
      have fB81 := hbx.cellAt 1 (by simp)
      have fB82 := hbx.cellAt 2 (by simp)
      have fB83 := hbx.cellAt 3 (by simp)
      have fB84 := hbx.cellAt 4 (by simp)
      have fB85 := hbx.cellAt 5 (by simp)
      have fB86 := hbx.cellAt 6 (by simp)
      have fB8lt := (hbx.lt _ rfl).2
      simp at fB80 fB81 fB82 fB83 fB84 fB85 fB86
      clear hbx
      go_wp2_with fail
      refine (specEqualValue_any (isVal_flatD 6 ec ⟨#[]⟩) (isVal_flat 6 ec 0 ⟨#[]⟩) _ _ _ (MSt.nth (L1 := [_]) HM9.out).read (Rd.flat _ _ 6 ec 0 ⟨#[]⟩)).mono ?_
      rintro e w10 ⟨b, rfl, hbi, hb⟩
      obtain rfl : b = true := hbi.2 (by rfl)
      clear hbi
      have HM10 := Lib.hid (HM9.out.later hb)
      clear HM9
      clear hb
      clear fB10 fB11 fB12 fB13 fB14 fB15 fB16 fB1lt fB60 fB61 fB62 fB63 fB64 fB65 fB66 fB6lt fB80 fB81 fB82 fB83 fB84 fB85 fB86 fB8lt
      go_wp2_with fail
      go_ret
      exact ⟨rfl, HM10.out.bel⟩
    · have hd2 : D2 = errD c' := Ap.one HA2.out (Ap.left c' hc')
      have hu : uy0 = 6 := by rw [HK2.out, hd2]; rfl
      subst hu
      clear HK2 hd2
      rcases hc' with ⟨hns, -⟩ | ⟨hs, hk6, -⟩
      · have HNS := Lib.hid hns
        clear hns
        refine ((specValidV HD.out.1 (by have := HW.out; omega) _ _ (MSt.nth (L1 := [_, _, _, _, _, _, _]) HM8.out).read).mono (eqP_no HNS.out)).mono ?_
        rintro e w9 ⟨rfl, hb⟩
        have HM9 := Lib.hid (HM8.out.later hb)
        clear HM8
        clear hb
        clear fB10 fB11 fB12 fB13 fB14 fB15 fB16 fB1lt fB60 fB61 fB62 fB63 fB64 fB65 fB66 fB6lt fB80 fB81 fB82 fB83 fB84 fB85 fB86 fB8lt
        have hbx := (MSt.nth (L1 := [_, _, _, _, _, _]) HM9.out).box
        have fB10 := hbx.cellAt 0 (by simp)
        have fB11 := hbx.cellAt 1 (by simp)
        have fB12 := hbx.cellAt 2 (by simp)
        have fB13 := hbx.cellAt 3 (by simp)
        have fB14 := hbx.cellAt 4 (by simp)
        have fB15 := hbx.cellAt 5 (by simp)
        have fB16 := hbx.cellAt 6 (by simp)
        have fB1lt := (hbx.lt _ rfl).2
        simp at fB10 fB11 fB12 fB13 fB14 fB15 fB16
        clear hbx
        have hbx := (MSt.nth (L1 := [_, _, _, _]) HM9.out).box
        have fB60 := hbx.cellAt 0 (by simp)
        have fB61 := hbx.cellAt 1 (by simp)
        have fB62 := hbx.cellAt 2 (by simp)
        have fB63 := hbx.cellAt 3 (by simp)
        have fB64 := hbx.cellAt 4 (by simp)
        have fB65 := hbx.cellAt 5 (by simp)
        have fB66 := hbx.cellAt 6 (by simp)
        have fB6lt := (hbx.lt _ rfl).2
        simp at fB60 fB61 fB62 fB63 fB64 fB65 fB66
        clear hbx
        have hbx := HM9.out.box
        have fB80 := hbx.cellAt 0 (by simp)
        have fB81 := hbx.cellAt 1 (by simp)
        have fB82 := hbx.cellAt 2 (by simp)
        have fB83 := hbx.cellAt 3 (by simp)
        have fB84 := hbx.cellAt 4 (by simp)
        have fB85 := hbx.cellAt 5 (by simp)
        have fB86 := hbx.cellAt 6 (by simp)
        have fB8lt := (hbx.lt _ rfl).2
        simp at fB80 fB81 fB82 fB83 fB84 fB85 fB86
        clear hbx
        go_wp2_with fail
        go_region_law (first
          | (
            go_simp
            go_at_call 10
            refine (specAp_any HD.out.1 (isVal_flat 6 ec 0 ⟨#[]⟩) HF2.out _ _ _ (MSt.nth (L1 := [_, _, _, _, _, _, _]) HM9.out.drew).read (Rd.flat _ _ 6 ec 0 ⟨#[]⟩) y _ HA2.out).mono ?_
            rintro e w10 ⟨csVz, fpVz, rfl, how, hnf, hb⟩
            obtain ⟨zy0, zy1, zy2, zy3, zy4, zn4, zc4, zy5, zn5, zc5, zy6, zn6, zc6, rfl⟩ := IsVal.form (HV2.out) how.read
            have HM10 := Lib.hid (HM9.out.drew.add hb (owA_at how hnf))
            clear hb how hnf
            have hbx := (MSt.nth (L1 := [_, _, _, _, _, _, _]) HM10.out).box
            have fB10 := hbx.cellAt 0 (by simp)
            have fB11 := hbx.cellAt 1 (by simp)
            have fB12 := hbx.cellAt 2 (by simp)
            have fB13 := hbx.cellAt 3 (by simp)
            have fB14 := hbx.cellAt 4 (by simp)
            have fB15 := hbx.cellAt 5 (by simp)
            have fB16 := hbx.cellAt 6 (by simp)
            have fB1lt := (hbx.lt _ rfl).2
            simp at fB10 fB11 fB12 fB13 fB14 fB15 fB16
            clear hbx
            have hbx := (MSt.nth (L1 := [_, _, _, _, _]) HM10.out).box
            have fB60 := hbx.cellAt 0 (by simp)
            have fB61 := hbx.cellAt 1 (by simp)
            have fB62 := hbx.cellAt 2 (by simp)
            have fB63 := hbx.cellAt 3 (by simp)
            have fB64 := hbx.cellAt 4 (by simp)
            have fB65 := hbx.cellAt 5 (by simp)
            have fB66 := hbx.cellAt 6 (by simp)
            have fB6lt := (hbx.lt _ rfl).2
            simp at fB60 fB61 fB62 fB63 fB64 fB65 fB66
            clear hbx
            have hbx := (MSt.nth (L1 := [_]) HM10.out).box
            have fB80 := hbx.cellAt 0 (by simp)
            have fB81 := hbx.cellAt 1 (by simp)
            have fB82 := hbx.cellAt 2 (by simp)
            have fB83 := hbx.cellAt 3 (by simp)
            have fB84 := hbx.cellAt 4 (by simp)
            have fB85 := hbx.cellAt 5 (by simp)
            have fB86 := hbx.cellAt 6 (by simp)
            have fB8lt := (hbx.lt _ rfl).2
            simp at fB80 fB81 fB82 fB83 fB84 fB85 fB86
            clear hbx)
          | (
            go_simp
            go_at_call 9
            refine (specEqualValue_any HV2.out HV2.out _ _ _ (MSt.nth (L1 := [_, _]) HM10.out).read HM10.out.read).mono ?_
            rintro e w11 ⟨b, rfl, hbi, hb⟩
            obtain rfl : b = true := hbi.2 rfl
            clear hbi
            have HM11 := Lib.hid (HM10.out.later hb)
            clear HM10
            clear hb)
          | fail)
        all_goals
          clear fB10 fB11 fB12 fB13 fB14 fB15 fB16 fB1lt fB60 fB61 fB62 fB63 fB64 fB65 fB66 fB6lt fB80 fB81 fB82 fB83 fB84 fB85 fB86 fB8lt
          go_wp2_with fail
          go_ret
          exact ⟨rfl, by first | exact HM11.out.bel | exact HM11.out.drew.bel⟩
      · have HNS := Lib.hid hs
        have hk3 : (py0 != 6) = false := by rw [HK1.out, hk6]; rfl
        clear hs hk6
        refine ((specValidV HD.out.1 (by have := HW.out; omega) _ _ (MSt.nth (L1 := [_, _, _, _, _, _, _]) HM8.out).read).mono (eqP_yes HNS.out)).mono ?_
        rintro e w9 ⟨rfl, hb⟩
        have HM9 := Lib.hid (HM8.out.later hb)
        clear HM8
        clear hb
        clear fB10 fB11 fB12 fB13 fB14 fB15 fB16 fB1lt fB60 fB61 fB62 fB63 fB64 fB65 fB66 fB6lt fB80 fB81 fB82 fB83 fB84 fB85 fB86 fB8lt
        have hbx := (MSt.nth (L1 := [_, _, _, _, _, _]) HM9.out).box
        have fB10 := hbx.cellAt 0 (by simp)
        have fB11 := hbx.cellAt 1 (by simp)
        have fB12 := hbx.cellAt 2 (by simp)
        have fB13 := hbx.cellAt 3 (by simp)
        have fB14 := hbx.cellAt 4 (by simp)
        have fB15 := hbx.cellAt 5 (by simp)
        have fB16 := hbx.cellAt 6 (by simp)
        have fB1lt := (hbx.lt _ rfl).2
        simp at fB10 fB11 fB12 fB13 fB14 fB15 fB16
        clear hbx
        have hbx := (MSt.nth (L1 := [_, _, _, _]) HM9.out).box
        have fB60 := hbx.cellAt 0 (by simp)
        have fB61 := hbx.cellAt 1 (by simp)
        have fB62 := hbx.cellAt 2 (by simp)
        have fB63 := hbx.cellAt 3 (by simp)
        have fB64 := hbx.cellAt 4 (by simp)
        have fB65 := hbx.cellAt 5 (by simp)
        have fB66 := hbx.cellAt 6 (by simp)
        have fB6lt := (hbx.lt _ rfl).2
        simp at fB60 fB61 fB62 fB63 fB64 fB65 fB66
        clear hbx
        have hbx := HM9.out.box
        have fB80 := hbx.cellAt 0 (by simp)
        have fB81 := hbx.cellAt 1 (by simp)
        have fB82 := hbx.cellAt 2 (by simp)
        have fB83 := hbx.cellAt 3 (by simp)
        have fB84 := hbx.cellAt 4 (by simp)
        have fB85 := hbx.cellAt 5 (by simp)
        have fB86 := hbx.cellAt 6 (by simp)
        have fB8lt := (hbx.lt _ rfl).2
        simp at fB80 fB81 fB82 fB83 fB84 fB85 fB86
        clear hbx
        go_wp2_with fail
        go_region_law (first
          | (
            go_simp
            go_at_call 10
            refine (specAp_any HD.out.1 (isVal_flat 6 ec 0 ⟨#[]⟩) HF2.out _ _ _ (MSt.nth (L1 := [_, _, _, _, _, _, _]) HM9.out.drew).read (Rd.flat _ _ 6 ec 0 ⟨#[]⟩) y _ HA2.out).mono ?_
            rintro e w10 ⟨csVz, fpVz, rfl, how, hnf, hb⟩
            obtain ⟨zy0, zy1, zy2, zy3, zy4, zn4, zc4, zy5, zn5, zc5, zy6, zn6, zc6, rfl⟩ := IsVal.form (HV2.out) how.read
            have HM10 := Lib.hid (HM9.out.drew.add hb (owA_at how hnf))
            clear hb how hnf
            have hbx := (MSt.nth (L1 := [_, _, _, _, _, _, _]) HM10.out).box
            have fB10 := hbx.cellAt 0 (by simp)
            have fB11 := hbx.cellAt 1 (by simp)
            have fB12 := hbx.cellAt 2 (by simp)
            have fB13 := hbx.cellAt 3 (by simp)
            have fB14 := hbx.cellAt 4 (by simp)
            have fB15 := hbx.cellAt 5 (by simp)
            have fB16 := hbx.cellAt 6 (by simp)
            have fB1lt := (hbx.lt _ rfl).2
            simp at fB10 fB11 fB12 fB13 fB14 fB15 fB16
            clear hbx
            have hbx := (MSt.nth (L1 := [_, _, _, _, _]) HM10.out).box
            have fB60 := hbx.cellAt 0 (by simp)
            have fB61 := hbx.cellAt 1 (by simp)
            have fB62 := hbx.cellAt 2 (by simp)
            have fB63 := hbx.cellAt 3 (by simp)
            have fB64 := hbx.cellAt 4 (by simp)
            have fB65 := hbx.cellAt 5 (by simp)
            have fB66 := hbx.cellAt 6 (by simp)
            have fB6lt := (hbx.lt _ rfl).2
            simp at fB60 fB61 fB62 fB63 fB64 fB65 fB66
            clear hbx
            have hbx := (MSt.nth (L1 := [_]) HM10.out).box
            have fB80 := hbx.cellAt 0 (by simp)
            have fB81 := hbx.cellAt 1 (by simp)
            have fB82 := hbx.cellAt 2 (by simp)
            have fB83 := hbx.cellAt 3 (by simp)
            have fB84 := hbx.cellAt 4 (by simp)
            have fB85 := hbx.cellAt 5 (by simp)
            have fB86 := hbx.cellAt 6 (by simp)
            have fB8lt := (hbx.lt _ rfl).2
            simp at fB80 fB81 fB82 fB83 fB84 fB85 fB86
            clear hbx)
          | (
            go_simp
            go_at_call 9
            refine (specEqualValue_any HV2.out HV2.out _ _ _ (MSt.nth (L1 := [_, _]) HM10.out).read HM10.out.read).mono ?_
            rintro e w11 ⟨b, rfl, hbi, hb⟩
            obtain rfl : b = true := hbi.2 rfl
            clear hbi
            have HM11 := Lib.hid (HM10.out.later hb)
            clear HM10
            clear hb)
          | fail)
        all_goals
          clear fB10 fB11 fB12 fB13 fB14 fB15 fB16 fB1lt fB60 fB61 fB62 fB63 fB64 fB65 fB66 fB6lt fB80 fB81 fB82 fB83 fB84 fB85 fB86 fB8lt
          go_wp2_with fail
          go_ret
          exact ⟨rfl, by first | exact HM11.out.bel | exact HM11.out.drew.bel⟩
end Go.Proofs.YtehipnbielgbeaaGreat
