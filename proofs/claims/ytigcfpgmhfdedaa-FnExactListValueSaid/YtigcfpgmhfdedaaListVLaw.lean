/-
  The law FnExactListValue. (Written by genmlaw.py.)
-/
import Derived.Test.YtigcfpgmhfdedaaMarkBd
import Derived.Test.YtigcfpgmhfdedaaListImpl
import Derived.Test.YtigcfpgmhfdedaaCpList
import Derived.Test.YtigcfpgmhfdedaaEq
namespace Go.Proofs.Ytigcfpgmhfdedaa
open Go.RowKit
set_option linter.unusedVariables false

set_option maxHeartbeats 3200000 in
set_option maxRecDepth 100000 in
theorem fnExactListValue_walk (w : World) (xs : List Dt) (A : Option Addr) (c : Nat) (hx : ∀ x ∈ xs, IsVal x) (hok : Dt.Ok (.lst xs)) (hr : Rd w w.heap.size (.lst xs) [.slice A xs.length c]) :
    Calls Try.prog 3 #[.slice A xs.length c] w fun e w' => e = .returned (.bool true) ∧ Below w.heap.size w w' := by
  have H := Lib.hid (And.intro hr (And.intro hx hok))
  have hd : IsVal (Dt.agg [.int 3, .int 0, .int 0, .str ⟨#[]⟩, .lst xs, .lst [], .lst []]) := IsVal.mk 3 0 0 ⟨#[]⟩ xs [] [] hx (by simp)
  have HD := Lib.hid hd
  clear hr hx hok hd
  go_enter Try.func3, Try.ntmps3
  have HO0 := Lib.hid (Objs.nil w.heap.size w)
  have HB0 := Lib.hid (Below.refl w.heap.size w)
  go_wp2_with fail
  refine (szVals_any A c xs 1048576 _ ((H.out.1.below HB0.out).more HB0.out.size) H.out.2.1 H.out.2.2 (by omega) (by omega)).mono ?_
  rintro e w1 ⟨r, rfl, hsz, hb⟩
  have HO1 := Lib.hid (HO0.out.below hb)
  have HB1 := Lib.hid (HB0.out.trans (hb.mono HB0.out.size))
  clear hb HO0 HB0
  have HZ := Lib.hid hsz
  clear hsz
  by_cases hng : r < 0
  · go_wp2_with fail
    go_ret
    exact ⟨rfl, HB1.out⟩
  · obtain ⟨l0, rfl⟩ : ∃ l : Nat, r = l := ⟨r.toNat, by omega⟩
    have hwt : Dt.wt (.lst xs) ≤ 1048576 := by have h1 := HZ.out.1 (by omega); have h2 := HZ.out.2; omega
    have hln : xs.length ≤ 1048576 := by simp [Dt.wt] at hwt; omega
    have hcn : cnts xs ≤ 4194304 := by have := cnts_le_vals H.out.2.1; simp [Dt.wt] at hwt; omega
    clear hng
    go_wp2_with fail
    refine (toValueS_any A c xs _ ((H.out.1.below HB1.out).more HB1.out.size) H.out.2.1 hwt).mono ?_
    rintro e w2 ⟨Aa, ca, fa, rfl, how, hnf, hb⟩
    have HO2 := Lib.hid (HO1.out.add hb HB1.out.size (owA_at how hnf))
    have HB2 := Lib.hid (HB1.out.trans (hb.mono HB1.out.size))
    clear hb HO1 HB1 how hnf
    go_wp2_with fail
    refine (specList_any xs H.out.2.1 hwt Aa ca _ HO2.out.out.1.read).mono ?_
    rintro e w3 ⟨csp, fpp, rfl, how, hnf, hb⟩
    obtain ⟨py0, py1, py2, py3, py4, pn4, pc4, py5, pn5, pc5, py6, pn6, pc6, rfl⟩ := HD.out.form how.read
    have HO3 := Lib.hid (HO2.out.add hb HB2.out.size (owA_at how hnf))
    have HB3 := Lib.hid (HB2.out.trans (hb.mono HB2.out.size))
    clear hb HO2 HB2 how hnf
    go_wp2_with fail
    have HO4 := Lib.hid (HO3.out.new HB3.out.size 28 7 #[.int .i64 py0, .int .i64 py1, .int .i64 py2, .string py3, .slice py4 pn4 pc4, .slice py5 pn5 pc5, .slice py6 pn6 pc6] rfl)
    have HB4 := Lib.hid (HB3.out.alloc HB3.out.size (.cells #[.int .i64 py0, .int .i64 py1, .int .i64 py2, .string py3, .slice py4 pn4 pc4, .slice py5 pn5 pc5, .slice py6 pn6 pc6] 28))
    clear HO3 HB3
    refine (toValueS_any A c xs _ ((H.out.1.below HB4.out).more HB4.out.size) H.out.2.1 hwt).mono ?_
    rintro e w5 ⟨Ax, cx, fx, rfl, how, hnf, hb⟩
    have HO5 := Lib.hid (HO4.out.add hb HB4.out.size (owA_at how hnf))
    have HB5 := Lib.hid (HB4.out.trans (hb.mono HB4.out.size))
    clear hb HO4 HB4 how hnf
    go_wp2_with fail
    refine (implList_any xs H.out.2.1 hwt Ax cx _ HO5.out.out.1.read).mono ?_
    rintro e w6 ⟨csq, fpq, rfl, how, hnf, hb⟩
    obtain ⟨qy0, qy1, qy2, qy3, qy4, qn4, qc4, qy5, qn5, qc5, qy6, qn6, qc6, rfl⟩ := HD.out.form how.read
    have HO6 := Lib.hid (HO5.out.add hb HB5.out.size (owA_at how hnf))
    have HB6 := Lib.hid (HB5.out.trans (hb.mono HB5.out.size))
    clear hb HO5 HB5 how hnf
    have hbx := (Objs.nth (L1 := [_, _]) HO6.out).rowAt
    have fBp0 := hbx.cellAt 0 (by simp)
    have fBp1 := hbx.cellAt 1 (by simp)
    have fBp2 := hbx.cellAt 2 (by simp)
    have fBp3 := hbx.cellAt 3 (by simp)
    have fBp4 := hbx.cellAt 4 (by simp)
    have fBp5 := hbx.cellAt 5 (by simp)
    have fBp6 := hbx.cellAt 6 (by simp)
    have fBplt := (hbx.lt _ rfl).2
    simp at fBp0 fBp1 fBp2 fBp3 fBp4 fBp5 fBp6
    clear hbx
    go_wp2_with fail
    have HO7 := Lib.hid (HO6.out.new HB6.out.size 28 7 #[.int .i64 qy0, .int .i64 qy1, .int .i64 qy2, .string qy3, .slice qy4 qn4 qc4, .slice qy5 qn5 qc5, .slice qy6 qn6 qc6] rfl)
    have HB7 := Lib.hid (HB6.out.alloc HB6.out.size (.cells #[.int .i64 qy0, .int .i64 qy1, .int .i64 qy2, .string qy3, .slice qy4 qn4 qc4, .slice qy5 qn5 qc5, .slice qy6 qn6 qc6] 28))
    clear HO6 HB6
    clear fBp0 fBp1 fBp2 fBp3 fBp4 fBp5 fBp6 fBplt
    refine (eqValue_any HD.out HD.out _ _ _ (Objs.nth (L1 := [_]) HO7.out).out.1.read (Objs.nth (L1 := [_, _, _, _]) HO7.out).out.1.read).mono ?_
    rintro e w8 ⟨b, rfl, hbi, hb⟩
    obtain rfl : b = true := hbi.2 rfl
    clear hbi
    have HO8 := Lib.hid (HO7.out.below hb)
    have HB8 := Lib.hid (HB7.out.trans (hb.mono HB7.out.size))
    clear hb HO7 HB7
    go_wp2_with fail
    refine (toValueS_any A c xs _ ((H.out.1.below HB8.out).more HB8.out.size) H.out.2.1 hwt).mono ?_
    rintro e w9 ⟨Ab, cb, fb, rfl, how, hnf, hb⟩
    have HO9 := Lib.hid (HO8.out.add hb HB8.out.size (owA_at how hnf))
    have HB9 := Lib.hid (HB8.out.trans (hb.mono HB8.out.size))
    clear hb HO8 HB8 how hnf
    go_wp2_with fail
    refine (eqValueS_any Ax Ab cx cb xs xs _ (Objs.nth (L1 := [_, _, _]) HO9.out).out.1.read HO9.out.out.1.read H.out.2.1 H.out.2.1 (by omega) (by omega)).mono ?_
    rintro e w10 ⟨b, rfl, hbi, hb⟩
    obtain rfl : b = true := hbi.2 rfl
    clear hbi
    have HO10 := Lib.hid (HO9.out.below hb)
    have HB10 := Lib.hid (HB9.out.trans (hb.mono HB9.out.size))
    clear hb HO9 HB9
    obtain ⟨K, hK⟩ : ∃ K, K = 1 + cnts xs := ⟨_, rfl⟩
    have hKb : K ≤ 4194305 := by omega
    have HK := Lib.hid hK
    clear hK
    go_wp2_with fail
    refine (markValsC xs H.out.2.1 Ax xs.length cx 1 K fx _ (Objs.nth (L1 := [_, _, _]) HO10.out).out.1 (Objs.nth (L1 := [_, _, _]) HO10.out).out.2.1 rfl HK.out (by omega) hwt).mono ?_
    rintro e w11 ⟨rfl, how, hF⟩
    have HO11 := Lib.hid ((Objs.nth (L1 := [_, _, _]) HO10.out).mark hF how HB10.out.size)
    have HB11 := Lib.hid (HB10.out.trans (hF.below (Objs.nth (L1 := [_, _, _]) HO10.out).out.2.2 HB10.out.size))
    clear hF how HO10 HB10
    have hbx := (Objs.nth (L1 := [_, _]) HO11.out).rowAt
    have fBq0 := hbx.cellAt 0 (by simp)
    have fBq1 := hbx.cellAt 1 (by simp)
    have fBq2 := hbx.cellAt 2 (by simp)
    have fBq3 := hbx.cellAt 3 (by simp)
    have fBq4 := hbx.cellAt 4 (by simp)
    have fBq5 := hbx.cellAt 5 (by simp)
    have fBq6 := hbx.cellAt 6 (by simp)
    have fBqlt := (hbx.lt _ rfl).2
    simp at fBq0 fBq1 fBq2 fBq3 fBq4 fBq5 fBq6
    clear hbx
    have hbx := (Objs.nth (L1 := [_, _, _, _]) HO11.out).rowAt
    have fBp0 := hbx.cellAt 0 (by simp)
    have fBp1 := hbx.cellAt 1 (by simp)
    have fBp2 := hbx.cellAt 2 (by simp)
    have fBp3 := hbx.cellAt 3 (by simp)
    have fBp4 := hbx.cellAt 4 (by simp)
    have fBp5 := hbx.cellAt 5 (by simp)
    have fBp6 := hbx.cellAt 6 (by simp)
    have fBplt := (hbx.lt _ rfl).2
    simp at fBp0 fBp1 fBp2 fBp3 fBp4 fBp5 fBp6
    clear hbx
    have hKn : ¬ (K : Int) < 0 := by omega
    go_wp2_with fail
    clear fBq0 fBq1 fBq2 fBq3 fBq4 fBq5 fBq6 fBqlt fBp0 fBp1 fBp2 fBp3 fBp4 fBp5 fBp6 fBplt
    refine (eqValue_any HD.out HD.out _ _ _ (Objs.nth (L1 := [_, _, _]) HO11.out).out.1.read (Objs.nth (L1 := [_, _, _, _, _]) HO11.out).out.1.read).mono ?_
    rintro e w12 ⟨b, rfl, hbi, hb⟩
    obtain rfl : b = true := hbi.2 rfl
    clear hbi
    have HO12 := Lib.hid (HO11.out.below hb)
    have HB12 := Lib.hid (HB11.out.trans (hb.mono HB11.out.size))
    clear hb HO11 HB11
    have HKK : Hid (K = 1 + cnts xs + cnts (([] : List ByteArray).map Dt.str) + cnts []) := Lib.hid (by rw [HK.out]; simp [cnts])
    have hbx := (Objs.nth (L1 := [_, _]) HO12.out).rowAt
    have fBq0 := hbx.cellAt 0 (by simp)
    have fBq1 := hbx.cellAt 1 (by simp)
    have fBq2 := hbx.cellAt 2 (by simp)
    have fBq3 := hbx.cellAt 3 (by simp)
    have fBq4 := hbx.cellAt 4 (by simp)
    have fBq5 := hbx.cellAt 5 (by simp)
    have fBq6 := hbx.cellAt 6 (by simp)
    have fBqlt := (hbx.lt _ rfl).2
    simp at fBq0 fBq1 fBq2 fBq3 fBq4 fBq5 fBq6
    clear hbx
    go_wp2_with fail
    clear fBq0 fBq1 fBq2 fBq3 fBq4 fBq5 fBq6 fBqlt
    refine (markVal_any 3 0 0 ⟨#[]⟩ xs [] [] H.out.2.1 (by simp) _ 1 K fpq _ (Objs.nth (L1 := [_, _, _]) HO12.out).out.1 (Objs.nth (L1 := [_, _, _]) HO12.out).out.2.1 HKK.out (by omega) hwt (by simp [Dt.wt, wts]) (by simp [Dt.wt, wts])).mono ?_
    rintro e w13 ⟨rfl, how, hF⟩
    have HO13 := Lib.hid ((Objs.nth (L1 := [_, _, _]) HO12.out).mark hF how HB12.out.size)
    have HB13 := Lib.hid (HB12.out.trans (hF.below (Objs.nth (L1 := [_, _, _]) HO12.out).out.2.2 HB12.out.size))
    clear hF how HO12 HB12
    have hbx := (Objs.nth (L1 := [_, _, _]) HO13.out).rowAt
    have fBq0 := hbx.cellAt 0 (by simp)
    have fBq1 := hbx.cellAt 1 (by simp)
    have fBq2 := hbx.cellAt 2 (by simp)
    have fBq3 := hbx.cellAt 3 (by simp)
    have fBq4 := hbx.cellAt 4 (by simp)
    have fBq5 := hbx.cellAt 5 (by simp)
    have fBq6 := hbx.cellAt 6 (by simp)
    have fBqlt := (hbx.lt _ rfl).2
    simp at fBq0 fBq1 fBq2 fBq3 fBq4 fBq5 fBq6
    clear hbx
    go_wp2_with fail
    clear fBq0 fBq1 fBq2 fBq3 fBq4 fBq5 fBq6 fBqlt
    refine (heldVal_any 3 0 0 ⟨#[]⟩ xs [] [] H.out.2.1 (by simp) _ 1 K _ _ HO13.out.out.1.read (Nat.le_refl _) HKK.out (by omega) hwt (by simp [Dt.wt, wts]) (by simp [Dt.wt, wts])).mono ?_
    rintro e w14 ⟨rfl, hb⟩
    have HO14 := Lib.hid (HO13.out.below hb)
    have HB14 := Lib.hid (HB13.out.trans (hb.mono HB13.out.size))
    clear hb HO13 HB13
    have hKK : ((K : Int) != (K : Int)) = false := by simp
    go_wp2_with fail
    refine (toValueS_any A c xs _ ((H.out.1.below HB14.out).more HB14.out.size) H.out.2.1 hwt).mono ?_
    rintro e w15 ⟨Ah, ch, fh, rfl, how, hnf, hb⟩
    have HO15 := Lib.hid (HO14.out.add hb HB14.out.size (owA_at how hnf))
    have HB15 := Lib.hid (HB14.out.trans (hb.mono HB14.out.size))
    clear hb HO14 HB14 how hnf
    go_wp2_with fail
    refine (implList_any xs H.out.2.1 hwt Ah ch _ HO15.out.out.1.read).mono ?_
    rintro e w16 ⟨csz, fpz, rfl, how, hnf, hb⟩
    obtain ⟨zy0, zy1, zy2, zy3, zy4, zn4, zc4, zy5, zn5, zc5, zy6, zn6, zc6, rfl⟩ := HD.out.form how.read
    have HO16 := Lib.hid (HO15.out.add hb HB15.out.size (owA_at how hnf))
    have HB16 := Lib.hid (HB15.out.trans (hb.mono HB15.out.size))
    clear hb HO15 HB15 how hnf
    have hbx := (Objs.nth (L1 := [_, _, _, _, _, _]) HO16.out).rowAt
    have fBp0 := hbx.cellAt 0 (by simp)
    have fBp1 := hbx.cellAt 1 (by simp)
    have fBp2 := hbx.cellAt 2 (by simp)
    have fBp3 := hbx.cellAt 3 (by simp)
    have fBp4 := hbx.cellAt 4 (by simp)
    have fBp5 := hbx.cellAt 5 (by simp)
    have fBp6 := hbx.cellAt 6 (by simp)
    have fBplt := (hbx.lt _ rfl).2
    simp at fBp0 fBp1 fBp2 fBp3 fBp4 fBp5 fBp6
    clear hbx
    go_wp2_with fail
    have HO17 := Lib.hid (HO16.out.new HB16.out.size 28 7 #[.int .i64 zy0, .int .i64 zy1, .int .i64 zy2, .string zy3, .slice zy4 zn4 zc4, .slice zy5 zn5 zc5, .slice zy6 zn6 zc6] rfl)
    have HB17 := Lib.hid (HB16.out.alloc HB16.out.size (.cells #[.int .i64 zy0, .int .i64 zy1, .int .i64 zy2, .string zy3, .slice zy4 zn4 zc4, .slice zy5 zn5 zc5, .slice zy6 zn6 zc6] 28))
    clear HO16 HB16
    clear fBp0 fBp1 fBp2 fBp3 fBp4 fBp5 fBp6 fBplt
    refine (eqValue_any HD.out HD.out _ _ _ (Objs.nth (L1 := [_]) HO17.out).out.1.read (Objs.nth (L1 := [_, _, _, _, _, _, _, _]) HO17.out).out.1.read).mono ?_
    rintro e w18 ⟨b, rfl, hbi, hb⟩
    obtain rfl : b = true := hbi.2 rfl
    clear hbi
    have HO18 := Lib.hid (HO17.out.below hb)
    have HB18 := Lib.hid (HB17.out.trans (hb.mono HB17.out.size))
    clear hb HO17 HB17
    have hbx := (Objs.nth (L1 := [_, _, _, _, _, _]) HO18.out).rowAt
    have fBq0 := hbx.cellAt 0 (by simp)
    have fBq1 := hbx.cellAt 1 (by simp)
    have fBq2 := hbx.cellAt 2 (by simp)
    have fBq3 := hbx.cellAt 3 (by simp)
    have fBq4 := hbx.cellAt 4 (by simp)
    have fBq5 := hbx.cellAt 5 (by simp)
    have fBq6 := hbx.cellAt 6 (by simp)
    have fBqlt := (hbx.lt _ rfl).2
    simp at fBq0 fBq1 fBq2 fBq3 fBq4 fBq5 fBq6
    clear hbx
    go_wp2_with fail
    clear fBq0 fBq1 fBq2 fBq3 fBq4 fBq5 fBq6 fBqlt
    refine (heldVal_any 3 0 0 ⟨#[]⟩ xs [] [] H.out.2.1 (by simp) _ 1 K _ _ (Objs.nth (L1 := [_, _, _]) HO18.out).out.1.read (Nat.le_refl _) HKK.out (by omega) hwt (by simp [Dt.wt, wts]) (by simp [Dt.wt, wts])).mono ?_
    rintro e w19 ⟨rfl, hb⟩
    have HO19 := Lib.hid (HO18.out.below hb)
    have HB19 := Lib.hid (HB18.out.trans (hb.mono HB18.out.size))
    clear hb HO18 HB18
    go_wp2_with fail
    go_ret
    exact ⟨rfl, HB19.out⟩
end Go.Proofs.Ytigcfpgmhfdedaa
