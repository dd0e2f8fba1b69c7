/-
  Texts that the proof rests on, put together: SrcLaw, ResLaw.
-/
import Derived.Test.YtabcmnlmmpbmnaaGreatMgS29
import Derived.Test.YtabcmnlmmpbmnaaGreatMgS45
import Derived.Test.YtabcmnlmmpbmnaaGreatMgS21
import Derived.Test.YtabcmnlmmpbmnaaGreatMgS20
import Derived.Test.YtabcmnlmmpbmnaaGreatMgS7
import Derived.Deep.RegionLaw
import Derived.Deep.RegionHeld3
import Derived.Test.YtabcmnlmmpbmnaaGreatMgS44
/-
  The law FnExactSourceTable. (Written by gen8.py.)
-/

namespace Go.Proofs.YtabcmnlmmpbmnaaGreat
open Go.RowKit Go.Lib Go.Sort
set_option linter.unusedVariables false
set_option linter.unusedSimpArgs false

theorem wts_names : ∀ (cc : List ByteArray), (∀ s ∈ cc, s.size ≤ 8) → wts (cc.map .str) ≤ cc.length * 8
  | [], _ => by simp [wts]
  | s :: cc, h => by
    have h1 := h s (by simp)
    have h2 := wts_names cc (fun x hx => h x (by simp [hx]))
    simp only [List.map_cons, wts, Dt.wt, List.length_cons]
    omega
theorem wts_srcF2 (c : Int) (m : Nat) : ∀ (i : Nat) (l : List Dt), (∀ x ∈ l, RowOk m x) → wts (srcF c i l) ≤ l.length * (m + 1)
  | _, [], _ => by simp [srcF, wts]
  | i, r :: rs, h => by
    have h2 := wts_srcF2 c m (i + 1) rs (fun x hx => h x (by simp [hx]))
    obtain ⟨ns, os, rfl, hn, -, -⟩ := h r (by simp)
    have h3 : wts (orgsD [(c, (i : Int))]) = 0 := wts_orgs _ (orgsD_org _)
    have h4 := wts_ints ns
    have e : (rs.length + 1) * (m + 1) = rs.length * (m + 1) + (m + 1) := by rw [Nat.add_mul, Nat.one_mul]
    simp only [srcF, srcRow_mk, wts, Dt.wt, orgsD_len, h3, h4, List.length_map, List.length_cons, List.length_nil, e]
    omega
theorem small_srcD {t : Dt} (ht : IsVal t) (c : Int) : (srcD c t).wt ≤ 1048576 := by
  unfold srcD
  split
  · rename_i h
    obtain ⟨hc, hr, hrows⟩ := tbl_of ht ⟨h.1.2, by rw [h.1.1]; decide⟩ h.1.1
    have h1 := wts_names t.co (fun s hs => (hc.2.2 s hs).1.2)
    have h2 := wts_srcF2 c t.co.length 0 t.rw hrows
    have h3 := srcF_len c 0 t.rw
    have h4 : t.rw.length * (t.co.length + 1) ≤ 12 * 5 := Nat.mul_le_mul hr (by have := hc.1.2; omega)
    have h5 := hc.1.2
    rw [wt_tblD]
    simp only [Dt.wt, List.length_map]
    omega
  · rw [show (errD 4).wt = 0 from rfl]
    omega
set_option maxHeartbeats 12800000 in
set_option maxRecDepth 100000 in
theorem fnExactSourceTable_walk (w : World) (x0 : Int) {d0 : Dt} (hd0 : IsVal d0) (hok0 : d0.Ok) (cs0 : List Value) (hr0 : Rd w w.heap.size d0 cs0) :
    Calls Tryz.prog 9 #[.int .i64 x0, .agg cs0.toArray] w fun e w' => e = .returned (.bool true) ∧ Below w.heap.size w w' := by
  have HD0 := Lib.hid (And.intro hd0 (And.intro hok0 hr0))
  obtain ⟨a0y0, a0y1, a0y2, a0y3, a0y4, a0n4, a0c4, a0y5, a0n5, a0c5, a0y6, a0n6, a0c6, rfl⟩ := hd0.form hr0
  clear hd0 hok0 hr0
  have h0 := (MSt.start w).new 44 7 #[.int .i64 a0y0, .int .i64 a0y1, .int .i64 a0y2, .string a0y3, .slice a0y4 a0n4 a0c4, .slice a0y5 a0n5 a0c5, .slice a0y6 a0n6 a0c6] rfl
  have HM0 := Lib.hid h0
  clear h0
  go_enter Tryz.func9, Tryz.ntmps9
  go_wp2_with fail
  refine (szVal_any HD0.out.1 _ 1048576 _ ((HD0.out.2.2.below (MSt.bel (HM0.out))).more (MSt.size (HM0.out))) HD0.out.2.1 (by omega) (by omega)).mono ?_
  rintro e w1 ⟨r0, rfl, hr0, hb⟩
  have HM1 := Lib.hid (HM0.out.later hb)
  clear HM0
  clear hb
  have HR0 := Lib.hid hr0
  clear hr0
  have hbx := HM1.out.box
  obtain ⟨fA00, fA01, fA02, fA03, fA04, fA05, fA06, fA0lt⟩ := box7 hbx
  clear hbx
  by_cases hng : r0 < 0
  · go_wp2_with fail
    go_ret
    exact ⟨rfl, HM1.out.bel⟩
  have hwt : d0.wt ≤ 1048576 := by have h0 := HR0.out.1 (by omega); have h1 := HR0.out.2; omega
  have HW0 := Lib.hid hwt
  obtain ⟨D, hD⟩ : ∃ D, D = srcD x0 d0 := ⟨_, rfl⟩
  have HA := Lib.hid (And.intro hD (show IsVal D ∧ D.wt ≤ 1048576 by rw [hD]; exact ⟨isVal_srcD x0, small_srcD HD0.out.1 x0⟩))
  clear hD hwt
  go_wp2_with fail
  clear fA00 fA01 fA02 fA03 fA04 fA05 fA06 fA0lt
  refine (toValue_any HD0.out.1 _ _ ((HD0.out.2.2.below (MSt.bel (HM1.out))).more (MSt.size (HM1.out))) HW0.out).mono ?_
  rintro e w2 ⟨csTa, fpTa, rfl, how, hnf, hb⟩
  obtain ⟨tay0, tay1, tay2, tay3, tay4, tan4, tac4, tay5, tan5, tac5, tay6, tan6, tac6, rfl⟩ := IsVal.form (HD0.out.1) how.read
  have HM2 := Lib.hid (HM1.out.add hb (owA_at how hnf))
  clear HM1
  clear hb how hnf
  go_wp2_with fail
  refine (specSource_any HD0.out.1 HW0.out x0 _ _ HM2.out.read D HA.out.1).mono ?_
  rintro e w3 ⟨csVp, fpVp, rfl, how, hnf, hb⟩
  obtain ⟨vpy0, vpy1, vpy2, vpy3, vpy4, vpn4, vpc4, vpy5, vpn5, vpc5, vpy6, vpn6, vpc6, rfl⟩ := IsVal.form (HA.out.2.1) how.read
  have HM3 := Lib.hid (HM2.out.add hb (owA_at how hnf))
  clear HM2
  clear hb how hnf
  have hbx := (MSt.nth (L1 := [_, _]) HM3.out).box
  obtain ⟨fA00, fA01, fA02, fA03, fA04, fA05, fA06, fA0lt⟩ := box7 hbx
  clear hbx
  go_wp2_with fail
  have HM4 := Lib.hid (HM3.out.new 28 7 #[.int .i64 vpy0, .int .i64 vpy1, .int .i64 vpy2, .string vpy3, .slice vpy4 vpn4 vpc4, .slice vpy5 vpn5 vpc5, .slice vpy6 vpn6 vpc6] rfl)
  clear HM3
  clear fA00 fA01 fA02 fA03 fA04 fA05 fA06 fA0lt
  refine (toValue_any HD0.out.1 _ _ ((HD0.out.2.2.below (MSt.bel (HM4.out))).more (MSt.size (HM4.out))) HW0.out).mono ?_
  rintro e w5 ⟨csX0, fpX0, rfl, how, hnf, hb⟩
  obtain ⟨x0y0, x0y1, x0y2, x0y3, x0y4, x0n4, x0c4, x0y5, x0n5, x0c5, x0y6, x0n6, x0c6, rfl⟩ := IsVal.form (HD0.out.1) how.read
  have HM5 := Lib.hid (HM4.out.add hb (owA_at how hnf))
  clear HM4
  clear hb how hnf
  go_wp2_with fail
  have HM6 := Lib.hid (HM5.out.new 28 7 #[.int .i64 x0y0, .int .i64 x0y1, .int .i64 x0y2, .string x0y3, .slice x0y4 x0n4 x0c4, .slice x0y5 x0n5 x0c5, .slice x0y6 x0n6 x0c6] rfl)
  clear HM5
  refine (implSource_any HD0.out.1 HW0.out x0 _ _ (MSt.nth (L1 := [_]) HM6.out).read D HA.out.1).mono ?_
  rintro e w7 ⟨csVq, fpVq, rfl, how, hnf, hb⟩
  obtain ⟨vqy0, vqy1, vqy2, vqy3, vqy4, vqn4, vqc4, vqy5, vqn5, vqc5, vqy6, vqn6, vqc6, rfl⟩ := IsVal.form (HA.out.2.1) how.read
  have HM7 := Lib.hid (HM6.out.add hb (owA_at how hnf))
  clear HM6
  clear hb how hnf
  have hbx := (MSt.nth (L1 := [_, _, _]) HM7.out).box
  obtain ⟨fBp0, fBp1, fBp2, fBp3, fBp4, fBp5, fBp6, fBplt⟩ := box7 hbx
  clear hbx
  go_wp2_with fail
  have HM8 := Lib.hid (HM7.out.new 28 7 #[.int .i64 vqy0, .int .i64 vqy1, .int .i64 vqy2, .string vqy3, .slice vqy4 vqn4 vqc4, .slice vqy5 vqn5 vqc5, .slice vqy6 vqn6 vqc6] rfl)
  clear HM7
  clear fBp0 fBp1 fBp2 fBp3 fBp4 fBp5 fBp6 fBplt
  refine (eqValue_any HA.out.2.1 HA.out.2.1 _ _ _ (MSt.nth (L1 := [_]) HM8.out).read (MSt.nth (L1 := [_, _, _, _, _]) HM8.out).read).mono ?_
  rintro e w9 ⟨b, rfl, hbi, hb⟩
  obtain rfl : b = true := hbi.2 rfl
  clear hbi
  have HM9 := Lib.hid (HM8.out.later hb)
  clear HM8
  clear hb
  have hbx := (MSt.nth (L1 := [_, _]) HM9.out).box
  obtain ⟨fC00, fC01, fC02, fC03, fC04, fC05, fC06, fC0lt⟩ := box7 hbx
  clear hbx
  have hbx := (MSt.nth (L1 := [_, _, _, _, _, _, _]) HM9.out).box
  obtain ⟨fA00, fA01, fA02, fA03, fA04, fA05, fA06, fA0lt⟩ := box7 hbx
  clear hbx
  go_wp2_with fail
  go_region_held3 (fun w' => w'.cell? ⟨w5.heap.size, 0, none⟩ = some (.int .i64 x0y0) ∧ w'.cell? ⟨w5.heap.size, 1, none⟩ = some (.int .i64 x0y1) ∧ w'.cell? ⟨w5.heap.size, 2, none⟩ = some (.int .i64 x0y2) ∧ w'.cell? ⟨w5.heap.size, 3, none⟩ = some (.string x0y3) ∧ w'.cell? ⟨w5.heap.size, 4, none⟩ = some (.slice x0y4 x0n4 x0c4) ∧ w'.cell? ⟨w5.heap.size, 5, none⟩ = some (.slice x0y5 x0n5 x0c5) ∧ w'.cell? ⟨w5.heap.size, 6, none⟩ = some (.slice x0y6 x0n6 x0c6) ∧ w'.cell? ⟨w.heap.size, 0, none⟩ = some (.int .i64 a0y0) ∧ w'.cell? ⟨w.heap.size, 1, none⟩ = some (.int .i64 a0y1) ∧ w'.cell? ⟨w.heap.size, 2, none⟩ = some (.int .i64 a0y2) ∧ w'.cell? ⟨w.heap.size, 3, none⟩ = some (.string a0y3) ∧ w'.cell? ⟨w.heap.size, 4, none⟩ = some (.slice a0y4 a0n4 a0c4) ∧ w'.cell? ⟨w.heap.size, 5, none⟩ = some (.slice a0y5 a0n5 a0c5) ∧ w'.cell? ⟨w.heap.size, 6, none⟩ = some (.slice a0y6 a0n6 a0c6)) (exact ⟨fC00, fC01, fC02, fC03, fC04, fC05, fC06, fA00, fA01, fA02, fA03, fA04, fA05, fA06⟩)
    (first
      | (
        go_at_call_of 33 (Value.agg #[.int .i64 a0y0, .int .i64 a0y1, .int .i64 a0y2, .string a0y3, .slice a0y4 a0n4 a0c4, .slice a0y5 a0n5 a0c5, .slice a0y6 a0n6 a0c6])
        refine (toValue_any HD0.out.1 _ _ ((HD0.out.2.2.below (MSt.bel (HM9.out.drew))).more (MSt.size (HM9.out.drew))) HW0.out).mono ?_
        rintro e w10 ⟨csN0, fpN0, rfl, how, hnf, hb⟩
        obtain ⟨n0y0, n0y1, n0y2, n0y3, n0y4, n0n4, n0c4, n0y5, n0n5, n0c5, n0y6, n0n6, n0c6, rfl⟩ := IsVal.form (HD0.out.1) how.read
        have HM10 := Lib.hid (HM9.out.drew.add hb (owA_at how hnf))
        clear hb how hnf HM9
        have hbx := (MSt.nth (L1 := [_, _, _]) HM10.out).box
        obtain ⟨fC00, fC01, fC02, fC03, fC04, fC05, fC06, fC0lt⟩ := box7 hbx
        clear hbx
        have hbx := (MSt.nth (L1 := [_, _, _, _, _, _, _, _]) HM10.out).box
        obtain ⟨fA00, fA01, fA02, fA03, fA04, fA05, fA06, fA0lt⟩ := box7 hbx
        clear hbx)
      | (
        go_at_call 34
        refine (eqValue_any HD0.out.1 HD0.out.1 _ _ _ (MSt.nth (L1 := [_, _, _, _]) HM10.out).read HM10.out.read).mono ?_
        rintro e w11 ⟨b, rfl, hbi, hb⟩
        obtain rfl : b = true := hbi.2 rfl
        clear hbi
        have HM11 := Lib.hid (HM10.out.later hb)
        clear HM10
        clear hb
        have hbx := (MSt.nth (L1 := [_, _, _]) HM11.out).box
        obtain ⟨fC00, fC01, fC02, fC03, fC04, fC05, fC06, fC0lt⟩ := box7 hbx
        clear hbx
        have hbx := (MSt.nth (L1 := [_, _, _, _, _, _, _, _]) HM11.out).box
        obtain ⟨fA00, fA01, fA02, fA03, fA04, fA05, fA06, fA0lt⟩ := box7 hbx
        clear hbx)
      | fail)
  have HM12 := Lib.hid (MSt.drop HM11.out)
  clear HM11 fC00 fC01 fC02 fC03 fC04 fC05 fC06 fC0lt fA00 fA01 fA02 fA03 fA04 fA05 fA06 fA0lt
  clear fC00 fC01 fC02 fC03 fC04 fC05 fC06 fC0lt fA00 fA01 fA02 fA03 fA04 fA05 fA06 fA0lt
  obtain ⟨K0, hK0⟩ : ∃ K, K = 1 + d0.mks := ⟨_, rfl⟩
  have hKb0 : K0 ≤ 16777217 := by have := mks_bd HD0.out.1 (Nat.le_trans HW0.out (by decide)); omega
  have HK0 := Lib.hid hK0
  clear hK0
  have hbx := (MSt.nth (L1 := [_, _]) HM12.out).box
  obtain ⟨fC00, fC01, fC02, fC03, fC04, fC05, fC06, fC0lt⟩ := box7 hbx
  clear hbx
  go_wp2_with fail
  clear fC00 fC01 fC02 fC03 fC04 fC05 fC06 fC0lt
  refine (markD_any HD0.out.1 HW0.out 1 K0 HK0.out (by omega) _ _ _ (MSt.nth (L1 := [_, _, _]) HM12.out).objs.out.1 (MSt.nth (L1 := [_, _, _]) HM12.out).objs.out.2.1).mono ?_
  rintro e w13 ⟨rfl, how, hF⟩
  have HM13 := Lib.hid ((MSt.nth (L1 := [_, _, _]) HM12.out).mark hF how)
  clear HM12
  clear how hF
  have hKn : ¬ (K0 : Int) < 0 := by omega
  have hbx := (MSt.nth (L1 := [_]) HM13.out).box
  obtain ⟨fBq0, fBq1, fBq2, fBq3, fBq4, fBq5, fBq6, fBqlt⟩ := box7 hbx
  clear hbx
  have hbx := (MSt.nth (L1 := [_, _, _, _]) HM13.out).box
  obtain ⟨fBp0, fBp1, fBp2, fBp3, fBp4, fBp5, fBp6, fBplt⟩ := box7 hbx
  clear hbx
  go_wp2_with fail
  clear fBq0 fBq1 fBq2 fBq3 fBq4 fBq5 fBq6 fBqlt fBp0 fBp1 fBp2 fBp3 fBp4 fBp5 fBp6 fBplt
  refine (eqValue_any HA.out.2.1 HA.out.2.1 _ _ _ (MSt.nth (L1 := [_, _]) HM13.out).read (MSt.nth (L1 := [_, _, _, _, _]) HM13.out).read).mono ?_
  rintro e w14 ⟨b, rfl, hbi, hb⟩
  obtain rfl : b = true := hbi.2 rfl
  clear hbi
  have HM14 := Lib.hid (HM13.out.later hb)
  clear HM13
  clear hb
  obtain ⟨K, hK⟩ : ∃ K, K = 1 + D.mks := ⟨_, rfl⟩
  have hKb : K ≤ 16777217 := by have := mks_bd HA.out.2.1 (Nat.le_trans HA.out.2.2 (by decide)); omega
  have HK := Lib.hid hK
  clear hK
  have hKn2 : ¬ (K : Int) < 0 := by omega
  have hKK : ((K : Int) != (K : Int)) = false := by simp
  have hbx := (MSt.nth (L1 := [_]) HM14.out).box
  obtain ⟨fBq0, fBq1, fBq2, fBq3, fBq4, fBq5, fBq6, fBqlt⟩ := box7 hbx
  clear hbx
  go_wp2_with fail
  clear fBq0 fBq1 fBq2 fBq3 fBq4 fBq5 fBq6 fBqlt
  refine (markD_any HA.out.2.1 HA.out.2.2 1 K HK.out (by omega) _ _ _ (MSt.nth (L1 := [_, _]) HM14.out).objs.out.1 (MSt.nth (L1 := [_, _]) HM14.out).objs.out.2.1).mono ?_
  rintro e w15 ⟨rfl, how, hF⟩
  have HM15 := Lib.hid ((MSt.nth (L1 := [_, _]) HM14.out).mark hF how)
  clear HM14
  clear how hF
  have hbx := (MSt.nth (L1 := [_, _]) HM15.out).box
  obtain ⟨fBq0, fBq1, fBq2, fBq3, fBq4, fBq5, fBq6, fBqlt⟩ := box7 hbx
  clear hbx
  go_wp2_with fail
  clear fBq0 fBq1 fBq2 fBq3 fBq4 fBq5 fBq6 fBqlt
  refine (heldD_any HA.out.2.1 HA.out.2.2 1 K HK.out (by omega) _ _ HM15.out.read).mono ?_
  rintro e w16 ⟨rfl, hb⟩
  have HM16 := Lib.hid (HM15.out.later hb)
  clear HM15
  clear hb
  have hbx := (MSt.nth (L1 := [_, _, _, _, _, _, _]) HM16.out).box
  obtain ⟨fA00, fA01, fA02, fA03, fA04, fA05, fA06, fA0lt⟩ := box7 hbx
  clear hbx
  go_wp2_with fail
  clear fA00 fA01 fA02 fA03 fA04 fA05 fA06 fA0lt
  refine (toValue_any HD0.out.1 _ _ ((HD0.out.2.2.below (MSt.bel (HM16.out))).more (MSt.size (HM16.out))) HW0.out).mono ?_
  rintro e w17 ⟨csTz, fpTz, rfl, how, hnf, hb⟩
  obtain ⟨tzy0, tzy1, tzy2, tzy3, tzy4, tzn4, tzc4, tzy5, tzn5, tzc5, tzy6, tzn6, tzc6, rfl⟩ := IsVal.form (HD0.out.1) how.read
  have HM17 := Lib.hid (HM16.out.add hb (owA_at how hnf))
  clear HM16
  clear hb how hnf
  go_wp2_with fail
  refine (implSource_any HD0.out.1 HW0.out x0 _ _ HM17.out.read D HA.out.1).mono ?_
  rintro e w18 ⟨csVz, fpVz, rfl, how, hnf, hb⟩
  obtain ⟨vzy0, vzy1, vzy2, vzy3, vzy4, vzn4, vzc4, vzy5, vzn5, vzc5, vzy6, vzn6, vzc6, rfl⟩ := IsVal.form (HA.out.2.1) how.read
  have HM18 := Lib.hid (HM17.out.add hb (owA_at how hnf))
  clear HM17
  clear hb how hnf
  have hbx := (MSt.nth (L1 := [_, _, _, _, _, _]) HM18.out).box
  obtain ⟨fBp0, fBp1, fBp2, fBp3, fBp4, fBp5, fBp6, fBplt⟩ := box7 hbx
  clear hbx
  go_wp2_with fail
  have HM19 := Lib.hid (HM18.out.new 28 7 #[.int .i64 vzy0, .int .i64 vzy1, .int .i64 vzy2, .string vzy3, .slice vzy4 vzn4 vzc4, .slice vzy5 vzn5 vzc5, .slice vzy6 vzn6 vzc6] rfl)
  clear HM18
  clear fBp0 fBp1 fBp2 fBp3 fBp4 fBp5 fBp6 fBplt
  refine (eqValue_any HA.out.2.1 HA.out.2.1 _ _ _ (MSt.nth (L1 := [_]) HM19.out).read (MSt.nth (L1 := [_, _, _, _, _, _, _, _]) HM19.out).read).mono ?_
  rintro e w20 ⟨b, rfl, hbi, hb⟩
  obtain rfl : b = true := hbi.2 rfl
  clear hbi
  have HM20 := Lib.hid (HM19.out.later hb)
  clear HM19
  clear hb
  have hbx := (MSt.nth (L1 := [_, _, _, _, _]) HM20.out).box
  obtain ⟨fBq0, fBq1, fBq2, fBq3, fBq4, fBq5, fBq6, fBqlt⟩ := box7 hbx
  clear hbx
  go_wp2_with fail
  clear fBq0 fBq1 fBq2 fBq3 fBq4 fBq5 fBq6 fBqlt
  refine (heldD_any HA.out.2.1 HA.out.2.2 1 K HK.out (by omega) _ _ (MSt.nth (L1 := [_, _, _]) HM20.out).read).mono ?_
  rintro e w21 ⟨rfl, hb⟩
  have HM21 := Lib.hid (HM20.out.later hb)
  clear HM20
  clear hb
  go_wp2_with fail
  go_ret
  exact ⟨rfl, HM21.out.bel⟩
end Go.Proofs.YtabcmnlmmpbmnaaGreat

/-
  The law FnExactRestrictTable. (Written by gen8.py.)
-/

namespace Go.Proofs.YtabcmnlmmpbmnaaGreat
open Go.RowKit Go.Lib Go.Sort
set_option linter.unusedVariables false
set_option linter.unusedSimpArgs false

set_option maxHeartbeats 12800000 in
set_option maxRecDepth 100000 in
theorem fnExactRestrictTable_walk (w : World) {d0 : Dt} (hd0 : IsVal d0) (hok0 : d0.Ok) (cs0 : List Value) (hr0 : Rd w w.heap.size d0 cs0) (l1 : List (Int × Int)) (A1 : Option Addr) (c1 : Nat) (hl1 : l1.length ≤ 9223372036854775807) (hr1 : Rd w w.heap.size (.lst (orgsD l1)) [.slice A1 l1.length c1]) :
    Calls Tryz.prog 10 #[.agg cs0.toArray, .slice A1 l1.length c1] w fun e w' => e = .returned (.bool true) ∧ Below w.heap.size w w' := by
  have HD0 := Lib.hid (And.intro hd0 (And.intro hok0 hr0))
  have HRO := Lib.hid hr1
  obtain ⟨a0y0, a0y1, a0y2, a0y3, a0y4, a0n4, a0c4, a0y5, a0n5, a0c5, a0y6, a0n6, a0c6, rfl⟩ := hd0.form hr0
  clear hd0 hok0 hr0 hr1
  have h0 := (MSt.start w).new 44 7 #[.int .i64 a0y0, .int .i64 a0y1, .int .i64 a0y2, .string a0y3, .slice a0y4 a0n4 a0c4, .slice a0y5 a0n5 a0c5, .slice a0y6 a0n6 a0c6] rfl
  have HM0 := Lib.hid h0
  clear h0
  go_enter Tryz.func10, Tryz.ntmps10
  go_wp2_with fail
  refine (szVal_any HD0.out.1 _ 1048576 _ ((HD0.out.2.2.below (MSt.bel (HM0.out))).more (MSt.size (HM0.out))) HD0.out.2.1 (by omega) (by omega)).mono ?_
  rintro e w1 ⟨r0, rfl, hr0, hb⟩
  have HM1 := Lib.hid (HM0.out.later hb)
  clear HM0
  clear hb
  have HR0 := Lib.hid hr0
  clear hr0
  by_cases hng : r0 < 0
  · go_wp2_with fail
    go_ret
    exact ⟨rfl, HM1.out.bel⟩
  obtain ⟨m0, rfl⟩ : ∃ m : Nat, r0 = m := ⟨r0.toNat, by omega⟩
  have hle0 : m0 ≤ 1048576 := by have := HR0.out.2; omega
  clear hng
  go_wp2_with fail
  refine (szOriginS_any A1 l1.length c1 m0 _ (by omega) (by omega) hl1).mono ?_
  rintro e w2 ⟨r1, rfl, hr1, hb⟩
  have HM2 := Lib.hid (HM1.out.later hb)
  clear HM1
  clear hb
  have HR1 := Lib.hid hr1
  clear hr1
  by_cases hng : r1 < 0
  · go_wp2_with fail
    go_ret
    exact ⟨rfl, MSt.bel HM2.out⟩
  have hs : d0.wt + l1.length ≤ 1048576 := by have h0 := HR0.out.1 (by omega); have h1 := HR1.out.1 (by omega); omega
  have HW0 := Lib.hid (show d0.wt ≤ 1048576 by omega)
  have HL1 := Lib.hid (show l1.length ≤ 1048576 by omega)
  obtain ⟨D, hD⟩ : ∃ D, D = resD d0 l1 := ⟨_, rfl⟩
  have HA := Lib.hid (And.intro hD (show IsVal D ∧ D.wt ≤ 1048576 by rw [hD]; exact ⟨isVal_resD HD0.out.1 l1, Nat.le_trans (wt_resD HD0.out.1 l1) HW0.out⟩))
  clear hD hs
  have hbx := HM2.out.box
  obtain ⟨fA00, fA01, fA02, fA03, fA04, fA05, fA06, fA0lt⟩ := box7 hbx
  clear hbx
  go_wp2_with fail
  clear fA00 fA01 fA02 fA03 fA04 fA05 fA06 fA0lt
  refine (toValue_any HD0.out.1 _ _ ((HD0.out.2.2.below (MSt.bel (HM2.out))).more (MSt.size (HM2.out))) HW0.out).mono ?_
  rintro e w3 ⟨csTa, fpTa, rfl, how, hnf, hb⟩
  obtain ⟨tay0, tay1, tay2, tay3, tay4, tan4, tac4, tay5, tan5, tac5, tay6, tan6, tac6, rfl⟩ := IsVal.form (HD0.out.1) how.read
  have HM3 := Lib.hid (HM2.out.add hb (owA_at how hnf))
  clear HM2
  clear hb how hnf
  go_wp2_with fail
  refine (toO_any l1 HL1.out A1 _ c1 rfl _ ((HRO.out.below (MSt.bel (HM3.out))).more (MSt.size (HM3.out)))).mono ?_
  rintro e w4 ⟨AOa, cOa, fpOa, rfl, how, hnf, hb⟩
  have HM4 := Lib.hid (HM3.out.add hb (owA_at how hnf))
  clear HM3
  clear hb how hnf
  go_wp2_with fail
  refine (specRestrict_any HD0.out.1 HW0.out l1 HL1.out _ _ _ _ _ (MSt.nth (L1 := [_]) HM4.out).read HM4.out.objs.out.1.read D HA.out.1).mono ?_
  rintro e w5 ⟨csVp, fpVp, rfl, how, hnf, hb⟩
  obtain ⟨vpy0, vpy1, vpy2, vpy3, vpy4, vpn4, vpc4, vpy5, vpn5, vpc5, vpy6, vpn6, vpc6, rfl⟩ := IsVal.form (HA.out.2.1) how.read
  have HM5 := Lib.hid (HM4.out.add hb (owA_at how hnf))
  clear HM4
  clear hb how hnf
  have hbx := (MSt.nth (L1 := [_, _, _]) HM5.out).box
  obtain ⟨fA00, fA01, fA02, fA03, fA04, fA05, fA06, fA0lt⟩ := box7 hbx
  clear hbx
  go_wp2_with fail
  have HM6 := Lib.hid (HM5.out.new 28 7 #[.int .i64 vpy0, .int .i64 vpy1, .int .i64 vpy2, .string vpy3, .slice vpy4 vpn4 vpc4, .slice vpy5 vpn5 vpc5, .slice vpy6 vpn6 vpc6] rfl)
  clear HM5
  clear fA00 fA01 fA02 fA03 fA04 fA05 fA06 fA0lt
  refine (toValue_any HD0.out.1 _ _ ((HD0.out.2.2.below (MSt.bel (HM6.out))).more (MSt.size (HM6.out))) HW0.out).mono ?_
  rintro e w7 ⟨csX0, fpX0, rfl, how, hnf, hb⟩
  obtain ⟨x0y0, x0y1, x0y2, x0y3, x0y4, x0n4, x0c4, x0y5, x0n5, x0c5, x0y6, x0n6, x0c6, rfl⟩ := IsVal.form (HD0.out.1) how.read
  have HM7 := Lib.hid (HM6.out.add hb (owA_at how hnf))
  clear HM6
  clear hb how hnf
  go_wp2_with fail
  have HM8 := Lib.hid (HM7.out.new 28 7 #[.int .i64 x0y0, .int .i64 x0y1, .int .i64 x0y2, .string x0y3, .slice x0y4 x0n4 x0c4, .slice x0y5 x0n5 x0c5, .slice x0y6 x0n6 x0c6] rfl)
  clear HM7
  refine (toO_any l1 HL1.out A1 _ c1 rfl _ ((HRO.out.below (MSt.bel (HM8.out))).more (MSt.size (HM8.out)))).mono ?_
  rintro e w9 ⟨AX1, cX1, fpX1, rfl, how, hnf, hb⟩
  have HM9 := Lib.hid (HM8.out.add hb (owA_at how hnf))
  clear HM8
  clear hb how hnf
  have hbx := (MSt.nth (L1 := [_]) HM9.out).box
  obtain ⟨fC00, fC01, fC02, fC03, fC04, fC05, fC06, fC0lt⟩ := box7 hbx
  clear hbx
  go_wp2_with fail
  clear fC00 fC01 fC02 fC03 fC04 fC05 fC06 fC0lt
  refine (implRestrict_any HD0.out.1 HW0.out l1 HL1.out _ _ _ _ _ (MSt.nth (L1 := [_, _]) HM9.out).read HM9.out.objs.out.1.read D HA.out.1).mono ?_
  rintro e w10 ⟨csVq, fpVq, rfl, how, hnf, hb⟩
  obtain ⟨vqy0, vqy1, vqy2, vqy3, vqy4, vqn4, vqc4, vqy5, vqn5, vqc5, vqy6, vqn6, vqc6, rfl⟩ := IsVal.form (HA.out.2.1) how.read
  have HM10 := Lib.hid (HM9.out.add hb (owA_at how hnf))
  clear HM9
  clear hb how hnf
  have hbx := (MSt.nth (L1 := [_, _, _, _]) HM10.out).box
  obtain ⟨fBp0, fBp1, fBp2, fBp3, fBp4, fBp5, fBp6, fBplt⟩ := box7 hbx
  clear hbx
  go_wp2_with fail
  have HM11 := Lib.hid (HM10.out.new 28 7 #[.int .i64 vqy0, .int .i64 vqy1, .int .i64 vqy2, .string vqy3, .slice vqy4 vqn4 vqc4, .slice vqy5 vqn5 vqc5, .slice vqy6 vqn6 vqc6] rfl)
  clear HM10
  clear fBp0 fBp1 fBp2 fBp3 fBp4 fBp5 fBp6 fBplt
  refine (eqValue_any HA.out.2.1 HA.out.2.1 _ _ _ (MSt.nth (L1 := [_]) HM11.out).read (MSt.nth (L1 := [_, _, _, _, _, _]) HM11.out).read).mono ?_
  rintro e w12 ⟨b, rfl, hbi, hb⟩
  obtain rfl : b = true := hbi.2 rfl
  clear hbi
  have HM12 := Lib.hid (HM11.out.later hb)
  clear HM11
  clear hb
  have hbx := (MSt.nth (L1 := [_, _, _]) HM12.out).box
  obtain ⟨fC00, fC01, fC02, fC03, fC04, fC05, fC06, fC0lt⟩ := box7 hbx
  clear hbx
  have hbx := (MSt.nth (L1 := [_, _, _, _, _, _, _, _, _]) HM12.out).box
  obtain ⟨fA00, fA01, fA02, fA03, fA04, fA05, fA06, fA0lt⟩ := box7 hbx
  clear hbx
  go_wp2_with fail
  go_region_held3 (fun w' => w'.cell? ⟨w7.heap.size, 0, none⟩ = some (.int .i64 x0y0) ∧ w'.cell? ⟨w7.heap.size, 1, none⟩ = some (.int .i64 x0y1) ∧ w'.cell? ⟨w7.heap.size, 2, none⟩ = some (.int .i64 x0y2) ∧ w'.cell? ⟨w7.heap.size, 3, none⟩ = some (.string x0y3) ∧ w'.cell? ⟨w7.heap.size, 4, none⟩ = some (.slice x0y4 x0n4 x0c4) ∧ w'.cell? ⟨w7.heap.size, 5, none⟩ = some (.slice x0y5 x0n5 x0c5) ∧ w'.cell? ⟨w7.heap.size, 6, none⟩ = some (.slice x0y6 x0n6 x0c6) ∧ w'.cell? ⟨w.heap.size, 0, none⟩ = some (.int .i64 a0y0) ∧ w'.cell? ⟨w.heap.size, 1, none⟩ = some (.int .i64 a0y1) ∧ w'.cell? ⟨w.heap.size, 2, none⟩ = some (.int .i64 a0y2) ∧ w'.cell? ⟨w.heap.size, 3, none⟩ = some (.string a0y3) ∧ w'.cell? ⟨w.heap.size, 4, none⟩ = some (.slice a0y4 a0n4 a0c4) ∧ w'.cell? ⟨w.heap.size, 5, none⟩ = some (.slice a0y5 a0n5 a0c5) ∧ w'.cell? ⟨w.heap.size, 6, none⟩ = some (.slice a0y6 a0n6 a0c6)) (exact ⟨fC00, fC01, fC02, fC03, fC04, fC05, fC06, fA00, fA01, fA02, fA03, fA04, fA05, fA06⟩)
    (first
      | (
        go_at_call_of 33 (Value.agg #[.int .i64 a0y0, .int .i64 a0y1, .int .i64 a0y2, .string a0y3, .slice a0y4 a0n4 a0c4, .slice a0y5 a0n5 a0c5, .slice a0y6 a0n6 a0c6])
        refine (toValue_any HD0.out.1 _ _ ((HD0.out.2.2.below (MSt.bel (HM12.out.drew))).more (MSt.size (HM12.out.drew))) HW0.out).mono ?_
        rintro e w13 ⟨csN0, fpN0, rfl, how, hnf, hb⟩
        obtain ⟨n0y0, n0y1, n0y2, n0y3, n0y4, n0n4, n0c4, n0y5, n0n5, n0c5, n0y6, n0n6, n0c6, rfl⟩ := IsVal.form (HD0.out.1) how.read
        have HM13 := Lib.hid (HM12.out.drew.add hb (owA_at how hnf))
        clear hb how hnf HM12
        have hbx := (MSt.nth (L1 := [_, _, _, _]) HM13.out).box
        obtain ⟨fC00, fC01, fC02, fC03, fC04, fC05, fC06, fC0lt⟩ := box7 hbx
        clear hbx
        have hbx := (MSt.nth (L1 := [_, _, _, _, _, _, _, _, _, _]) HM13.out).box
        obtain ⟨fA00, fA01, fA02, fA03, fA04, fA05, fA06, fA0lt⟩ := box7 hbx
        clear hbx)
      | (
        go_at_call 34
        refine (eqValue_any HD0.out.1 HD0.out.1 _ _ _ (MSt.nth (L1 := [_, _, _, _, _]) HM13.out).read HM13.out.read).mono ?_
        rintro e w14 ⟨b, rfl, hbi, hb⟩
        obtain rfl : b = true := hbi.2 rfl
        clear hbi
        have HM14 := Lib.hid (HM13.out.later hb)
        clear HM13
        clear hb
        have hbx := (MSt.nth (L1 := [_, _, _, _]) HM14.out).box
        obtain ⟨fC00, fC01, fC02, fC03, fC04, fC05, fC06, fC0lt⟩ := box7 hbx
        clear hbx
        have hbx := (MSt.nth (L1 := [_, _, _, _, _, _, _, _, _, _]) HM14.out).box
        obtain ⟨fA00, fA01, fA02, fA03, fA04, fA05, fA06, fA0lt⟩ := box7 hbx
        clear hbx)
      | fail)
  have HM15 := Lib.hid (MSt.drop HM14.out)
  clear HM14 fC00 fC01 fC02 fC03 fC04 fC05 fC06 fC0lt fA00 fA01 fA02 fA03 fA04 fA05 fA06 fA0lt
  clear fC00 fC01 fC02 fC03 fC04 fC05 fC06 fC0lt fA00 fA01 fA02 fA03 fA04 fA05 fA06 fA0lt
  go_wp2_with fail
  refine (toO_any l1 HL1.out A1 _ c1 rfl _ ((HRO.out.below (MSt.bel (HM15.out))).more (MSt.size (HM15.out)))).mono ?_
  rintro e w16 ⟨AP1, cP1, fpP1, rfl, how, hnf, hb⟩
  have HM16 := Lib.hid (HM15.out.add hb (owA_at how hnf))
  clear HM15
  clear hb how hnf
  go_wp2_with fail
  refine (eqO_any l1 _ _ _ _ _ _ _ (MSt.nth (L1 := [_, _, _]) HM16.out).objs.out.1.read HM16.out.objs.out.1.read (by have := HL1.out; omega)).mono ?_
  rintro e w17 ⟨rfl, hb⟩
  have HM17 := Lib.hid (HM16.out.later hb)
  clear HM16
  clear hb
  obtain ⟨K0, hK0⟩ : ∃ K, K = 1 + d0.mks := ⟨_, rfl⟩
  have hKb0 : K0 ≤ 16777217 := by have := mks_bd HD0.out.1 (Nat.le_trans HW0.out (by decide)); omega
  have HK0 := Lib.hid hK0
  clear hK0
  have hbx := (MSt.nth (L1 := [_, _, _, _]) HM17.out).box
  obtain ⟨fC00, fC01, fC02, fC03, fC04, fC05, fC06, fC0lt⟩ := box7 hbx
  clear hbx
  go_wp2_with fail
  clear fC00 fC01 fC02 fC03 fC04 fC05 fC06 fC0lt
  refine (markD_any HD0.out.1 HW0.out 1 K0 HK0.out (by omega) _ _ _ (MSt.nth (L1 := [_, _, _, _, _]) HM17.out).objs.out.1 (MSt.nth (L1 := [_, _, _, _, _]) HM17.out).objs.out.2.1).mono ?_
  rintro e w18 ⟨rfl, how, hF⟩
  have HM18 := Lib.hid ((MSt.nth (L1 := [_, _, _, _, _]) HM17.out).mark hF how)
  clear HM17
  clear how hF
  obtain ⟨K1, hK1⟩ : ∃ K, K = K0 + cnts (orgsD l1) := ⟨_, rfl⟩
  have hKb1 : K1 ≤ 20971520 := by have := HL1.out; rw [hK1, cnts_orgs _ (orgsD_org l1), orgsD_len]; omega
  have HK1 := Lib.hid hK1
  clear hK1
  have HWT := Lib.hid (show Dt.wt (.lst (orgsD l1)) ≤ 1048576 by rw [wt_orgsD]; exact HL1.out)
  go_wp2_with fail
  refine (markOrgC (orgsD l1) (orgsD_org _) _ _ _ K0 K1 _ _ (MSt.nth (L1 := [_, _, _, _]) HM18.out).objs.out.1 (MSt.nth (L1 := [_, _, _, _]) HM18.out).objs.out.2.1 (orgsD_len _).symm HK1.out (by omega) HWT.out).mono ?_
  rintro e w19 ⟨rfl, how, hF⟩
  have HM19 := Lib.hid ((MSt.nth (L1 := [_, _, _, _]) HM18.out).mark hF how)
  clear HM18
  clear how hF
  have hKn : ¬ (K1 : Int) < 0 := by omega
  have hbx := (MSt.nth (L1 := [_, _, _]) HM19.out).box
  obtain ⟨fBq0, fBq1, fBq2, fBq3, fBq4, fBq5, fBq6, fBqlt⟩ := box7 hbx
  clear hbx
  have hbx := (MSt.nth (L1 := [_, _, _, _, _, _]) HM19.out).box
  obtain ⟨fBp0, fBp1, fBp2, fBp3, fBp4, fBp5, fBp6, fBplt⟩ := box7 hbx
  clear hbx
  go_wp2_with fail
  clear fBq0 fBq1 fBq2 fBq3 fBq4 fBq5 fBq6 fBqlt fBp0 fBp1 fBp2 fBp3 fBp4 fBp5 fBp6 fBplt
  refine (eqValue_any HA.out.2.1 HA.out.2.1 _ _ _ (MSt.nth (L1 := [_, _, _, _]) HM19.out).read (MSt.nth (L1 := [_, _, _, _, _, _, _]) HM19.out).read).mono ?_
  rintro e w20 ⟨b, rfl, hbi, hb⟩
  obtain rfl : b = true := hbi.2 rfl
  clear hbi
  have HM20 := Lib.hid (HM19.out.later hb)
  clear HM19
  clear hb
  obtain ⟨K, hK⟩ : ∃ K, K = 1 + D.mks := ⟨_, rfl⟩
  have hKb : K ≤ 16777217 := by have := mks_bd HA.out.2.1 (Nat.le_trans HA.out.2.2 (by decide)); omega
  have HK := Lib.hid hK
  clear hK
  have hKn2 : ¬ (K : Int) < 0 := by omega
  have hKK : ((K : Int) != (K : Int)) = false := by simp
  have hbx := (MSt.nth (L1 := [_, _, _]) HM20.out).box
  obtain ⟨fBq0, fBq1, fBq2, fBq3, fBq4, fBq5, fBq6, fBqlt⟩ := box7 hbx
  clear hbx
  go_wp2_with fail
  clear fBq0 fBq1 fBq2 fBq3 fBq4 fBq5 fBq6 fBqlt
  refine (markD_any HA.out.2.1 HA.out.2.2 1 K HK.out (by omega) _ _ _ (MSt.nth (L1 := [_, _, _, _]) HM20.out).objs.out.1 (MSt.nth (L1 := [_, _, _, _]) HM20.out).objs.out.2.1).mono ?_
  rintro e w21 ⟨rfl, how, hF⟩
  have HM21 := Lib.hid ((MSt.nth (L1 := [_, _, _, _]) HM20.out).mark hF how)
  clear HM20
  clear how hF
  have hbx := (MSt.nth (L1 := [_, _, _, _]) HM21.out).box
  obtain ⟨fBq0, fBq1, fBq2, fBq3, fBq4, fBq5, fBq6, fBqlt⟩ := box7 hbx
  clear hbx
  go_wp2_with fail
  clear fBq0 fBq1 fBq2 fBq3 fBq4 fBq5 fBq6 fBqlt
  refine (heldD_any HA.out.2.1 HA.out.2.2 1 K HK.out (by omega) _ _ HM21.out.read).mono ?_
  rintro e w22 ⟨rfl, hb⟩
  have HM22 := Lib.hid (HM21.out.later hb)
  clear HM21
  clear hb
  have hbx := (MSt.nth (L1 := [_, _, _, _, _, _, _, _, _, _]) HM22.out).box
  obtain ⟨fA00, fA01, fA02, fA03, fA04, fA05, fA06, fA0lt⟩ := box7 hbx
  clear hbx
  go_wp2_with fail
  clear fA00 fA01 fA02 fA03 fA04 fA05 fA06 fA0lt
  refine (toValue_any HD0.out.1 _ _ ((HD0.out.2.2.below (MSt.bel (HM22.out))).more (MSt.size (HM22.out))) HW0.out).mono ?_
  rintro e w23 ⟨csTz, fpTz, rfl, how, hnf, hb⟩
  obtain ⟨tzy0, tzy1, tzy2, tzy3, tzy4, tzn4, tzc4, tzy5, tzn5, tzc5, tzy6, tzn6, tzc6, rfl⟩ := IsVal.form (HD0.out.1) how.read
  have HM23 := Lib.hid (HM22.out.add hb (owA_at how hnf))
  clear HM22
  clear hb how hnf
  go_wp2_with fail
  refine (toO_any l1 HL1.out A1 _ c1 rfl _ ((HRO.out.below (MSt.bel (HM23.out))).more (MSt.size (HM23.out)))).mono ?_
  rintro e w24 ⟨AOz, cOz, fpOz, rfl, how, hnf, hb⟩
  have HM24 := Lib.hid (HM23.out.add hb (owA_at how hnf))
  clear HM23
  clear hb how hnf
  go_wp2_with fail
  refine (implRestrict_any HD0.out.1 HW0.out l1 HL1.out _ _ _ _ _ (MSt.nth (L1 := [_]) HM24.out).read HM24.out.objs.out.1.read D HA.out.1).mono ?_
  rintro e w25 ⟨csVz, fpVz, rfl, how, hnf, hb⟩
  obtain ⟨vzy0, vzy1, vzy2, vzy3, vzy4, vzn4, vzc4, vzy5, vzn5, vzc5, vzy6, vzn6, vzc6, rfl⟩ := IsVal.form (HA.out.2.1) how.read
  have HM25 := Lib.hid (HM24.out.add hb (owA_at how hnf))
  clear HM24
  clear hb how hnf
  have hbx := (MSt.nth (L1 := [_, _, _, _, _, _, _, _, _]) HM25.out).box
  obtain ⟨fBp0, fBp1, fBp2, fBp3, fBp4, fBp5, fBp6, fBplt⟩ := box7 hbx
  clear hbx
  go_wp2_with fail
  have HM26 := Lib.hid (HM25.out.new 28 7 #[.int .i64 vzy0, .int .i64 vzy1, .int .i64 vzy2, .string vzy3, .slice vzy4 vzn4 vzc4, .slice vzy5 vzn5 vzc5, .slice vzy6 vzn6 vzc6] rfl)
  clear HM25
  clear fBp0 fBp1 fBp2 fBp3 fBp4 fBp5 fBp6 fBplt
  refine (eqValue_any HA.out.2.1 HA.out.2.1 _ _ _ (MSt.nth (L1 := [_]) HM26.out).read (MSt.nth (L1 := [_, _, _, _, _, _, _, _, _, _, _]) HM26.out).read).mono ?_
  rintro e w27 ⟨b, rfl, hbi, hb⟩
  obtain rfl : b = true := hbi.2 rfl
  clear hbi
  have HM27 := Lib.hid (HM26.out.later hb)
  clear HM26
  clear hb
  have hbx := (MSt.nth (L1 := [_, _, _, _, _, _, _, _]) HM27.out).box
  obtain ⟨fBq0, fBq1, fBq2, fBq3, fBq4, fBq5, fBq6, fBqlt⟩ := box7 hbx
  clear hbx
  go_wp2_with fail
  clear fBq0 fBq1 fBq2 fBq3 fBq4 fBq5 fBq6 fBqlt
  refine (heldD_any HA.out.2.1 HA.out.2.2 1 K HK.out (by omega) _ _ (MSt.nth (L1 := [_, _, _, _]) HM27.out).read).mono ?_
  rintro e w28 ⟨rfl, hb⟩
  have HM28 := Lib.hid (HM27.out.later hb)
  clear HM27
  clear hb
  go_wp2_with fail
  go_ret
  exact ⟨rfl, HM28.out.bel⟩
end Go.Proofs.YtabcmnlmmpbmnaaGreat
