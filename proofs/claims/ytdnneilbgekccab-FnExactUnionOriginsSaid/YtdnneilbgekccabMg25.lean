/-
  Texts that the proof rests on, put together: UniLaw.
-/
import Derived.Test.YtdnneilbgekccabMg19
import Derived.Test.YtdnneilbgekccabMg24
import Derived.Test.YtdnneilbgekccabMg16
import Derived.Test.YtdnneilbgekccabMg15
/-
  The law FnExactUnionOrigins. (Written by gen8.py.)
-/

namespace Go.Proofs.Ytdnneilbgekccab
open Go.RowKit Go.Lib Go.Sort
set_option linter.unusedVariables false
set_option linter.unusedSimpArgs false

theorem specUniN_any (a b U : List (Int × Int)) (hU : U = setO (a ++ b)) (hl : a.length + b.length ≤ 2097152) (A A' : Option Addr) (n n' c c' : Nat) (hn : n = a.length) (hn' : n' = b.length) (w : World) (h : Rd w w.heap.size (.lst (orgsD a)) [.slice A n c]) (h' : Rd w w.heap.size (.lst (orgsD b)) [.slice A' n' c']) :
    Calls Try.prog 7 #[.slice A n c, .slice A' n' c'] w fun e w' => ∃ v, e = .returned v ∧ MSt w [orgA v U] w' := by
  rw [hU]
  exact specUnion_any a b hl A A' n n' c c' hn hn' w (rd_orgs h).2.2.2 (rd_orgs h').2.2.2
theorem implUniN_any (a b U : List (Int × Int)) (hU : U = setO (a ++ b)) (hl : a.length + b.length ≤ 1048576) (A A' : Option Addr) (n n' c c' : Nat) (hn : n = a.length) (hn' : n' = b.length) (w : World) (h : Rd w w.heap.size (.lst (orgsD a)) [.slice A n c]) (h' : Rd w w.heap.size (.lst (orgsD b)) [.slice A' n' c']) :
    Calls Try.prog 9 #[.slice A n c, .slice A' n' c'] w fun e w' => ∃ v, e = .returned v ∧ MSt w [orgA v U] w' := by
  rw [hU]
  exact implUnion_any a b hl A A' n n' c c' hn hn' w h h'
set_option maxHeartbeats 6400000 in
set_option maxRecDepth 100000 in
theorem fnExactUnionOrigins_walk (w : World) (l0 l1 : List (Int × Int)) (A0 A1 : Option Addr) (c0 c1 : Nat) (hl0 : l0.length ≤ 9223372036854775807) (hl1 : l1.length ≤ 9223372036854775807) (hr0 : Rd w w.heap.size (.lst (orgsD l0)) [.slice A0 l0.length c0]) (hr1 : Rd w w.heap.size (.lst (orgsD l1)) [.slice A1 l1.length c1]) :
    Calls Try.prog 3 #[.slice A0 l0.length c0, .slice A1 l1.length c1] w fun e w' => e = .returned (.bool true) ∧ Below w.heap.size w w' := by
  have HR0 := Lib.hid hr0
  have HR1 := Lib.hid hr1
  clear hr0 hr1
  have H0 := Lib.hid (MSt.start w)
  go_enter Try.func3, Try.ntmps3
  go_wp2_with fail
  refine (szOriginS_any A0 l0.length c0 1048576 _ (by omega) (by omega) hl0).mono ?_
  rintro e w1 ⟨r0, rfl, hr0, hb⟩
  have HZ0 := Lib.hid hr0
  clear hr0
  have H1 := Lib.hid (H0.out.later hb)
  clear H0
  clear hb
  by_cases hng : r0 < 0
  · go_wp2_with fail
    go_ret
    exact ⟨rfl, MSt.bel H1.out⟩
  obtain ⟨m0, rfl⟩ : ∃ m : Nat, r0 = m := ⟨r0.toNat, by omega⟩
  have hle0 : m0 ≤ 1048576 := by have := HZ0.out.2; omega
  clear hng
  go_wp2_with fail
  refine (szOriginS_any A1 l1.length c1 m0 _ (by omega) (by omega) hl1).mono ?_
  rintro e w2 ⟨r1, rfl, hr1, hb⟩
  have HZ1 := Lib.hid hr1
  clear hr1
  have H2 := Lib.hid (H1.out.later hb)
  clear H1
  clear hb
  by_cases hng : r1 < 0
  · go_wp2_with fail
    go_ret
    exact ⟨rfl, MSt.bel H2.out⟩
  obtain ⟨m1, rfl⟩ : ∃ m : Nat, r1 = m := ⟨r1.toNat, by omega⟩
  have hle1 : m1 ≤ 1048576 := by have := HZ1.out.2; omega
  clear hng
  have hs : l0.length + l1.length ≤ 1048576 := by have h0 := HZ0.out.1 (by omega); have h1 := HZ1.out.1 (by omega); omega
  have HW0 := Lib.hid (show l0.length ≤ 1048576 by omega)
  have HW1 := Lib.hid (show l1.length ≤ 1048576 by omega)
  have HS := Lib.hid hs
  have HSL := Lib.hid (show (setO (l0 ++ l1)).length ≤ 1048576 by have := setO_len (l0 ++ l1); simp at this; omega)
  clear hs
  obtain ⟨U, hU⟩ : ∃ U, U = setO (l0 ++ l1) := ⟨_, rfl⟩
  rw [← hU] at HSL
  have HU := Lib.hid hU
  clear hU
  have hb0 := HW0.out
  have hb1 := HW1.out
  have hb2 := HSL.out
  go_wp2_with fail
  refine (toO_any l0 HW0.out A0 _ c0 rfl _ ((HR0.out.below (MSt.bel H2.out)).more (MSt.size H2.out))).mono ?_
  rintro e w3 ⟨Aa, ca, fpa, rfl, how, hnf, hb⟩
  have H3 := Lib.hid (H2.out.add hb (owA_at how hnf))
  clear H2
  clear how hnf hb
  go_wp2_with fail
  refine (toO_any l1 HW1.out A1 _ c1 rfl _ ((HR1.out.below (MSt.bel H3.out)).more (MSt.size H3.out))).mono ?_
  rintro e w4 ⟨Ab, cb, fpb, rfl, how, hnf, hb⟩
  have H4 := Lib.hid (H3.out.add hb (owA_at how hnf))
  clear H3
  clear how hnf hb
  go_wp2_with fail
  refine (specUniN_any l0 l1 U HU.out (by have := HS.out; omega) _ _ _ _ _ _ rfl rfl _ ((MSt.nth (L1 := [_]) H4.out).objs.out.1.read) (H4.out.objs.out.1.read)).mono ?_
  rintro e w5 ⟨v, rfl, h2⟩
  obtain ⟨Aw0, cw0, rfl, -, -⟩ := MSt.orgV h2
  have H5 := Lib.hid (MSt.trans H4.out (MSt.orgOw h2))
  clear H4
  clear h2
  go_wp2_with fail
  refine (toO_any l0 HW0.out A0 _ c0 rfl _ ((HR0.out.below (MSt.bel H5.out)).more (MSt.size H5.out))).mono ?_
  rintro e w6 ⟨Ax, cx, fpx, rfl, how, hnf, hb⟩
  have H6 := Lib.hid (H5.out.add hb (owA_at how hnf))
  clear H5
  clear how hnf hb
  go_wp2_with fail
  refine (toO_any l1 HW1.out A1 _ c1 rfl _ ((HR1.out.below (MSt.bel H6.out)).more (MSt.size H6.out))).mono ?_
  rintro e w7 ⟨Ay, cy, fpy, rfl, how, hnf, hb⟩
  have H7 := Lib.hid (H6.out.add hb (owA_at how hnf))
  clear H6
  clear how hnf hb
  go_wp2_with fail
  refine (implUniN_any l0 l1 U HU.out HS.out _ _ _ _ _ _ rfl rfl _ ((MSt.nth (L1 := [_]) H7.out).objs.out.1.read) (H7.out.objs.out.1.read)).mono ?_
  rintro e w8 ⟨v, rfl, h2⟩
  obtain ⟨Ag0, cg0, rfl, -, -⟩ := MSt.orgV h2
  have H8 := Lib.hid (MSt.trans H7.out (MSt.orgOw h2))
  clear H7
  clear h2
  go_wp2_with fail
  refine (eqO_any U _ _ _ _ _ _ _ H8.out.objs.out.1.read (MSt.nth (L1 := [_, _, _]) H8.out).objs.out.1.read (by first | omega | (have := HSL.out; omega))).mono ?_
  rintro e w9 ⟨rfl, hb⟩
  have H9 := Lib.hid (H8.out.later hb)
  clear H8
  clear hb
  go_wp2_with fail
  refine (toO_any l0 HW0.out A0 _ c0 rfl _ ((HR0.out.below (MSt.bel H9.out)).more (MSt.size H9.out))).mono ?_
  rintro e w10 ⟨Ap, cp, fpp, rfl, how, hnf, hb⟩
  have H10 := Lib.hid (H9.out.add hb (owA_at how hnf))
  clear H9
  clear how hnf hb
  go_wp2_with fail
  refine (eqO_any l0 _ _ _ _ _ _ _ (MSt.nth (L1 := [_, _, _]) H10.out).objs.out.1.read H10.out.objs.out.1.read (by first | omega | (have := HSL.out; omega))).mono ?_
  rintro e w11 ⟨rfl, hb⟩
  have H11 := Lib.hid (H10.out.later hb)
  clear H10
  clear hb
  go_wp2_with fail
  refine (toO_any l1 HW1.out A1 _ c1 rfl _ ((HR1.out.below (MSt.bel H11.out)).more (MSt.size H11.out))).mono ?_
  rintro e w12 ⟨Aq, cq, fpq, rfl, how, hnf, hb⟩
  have H12 := Lib.hid (H11.out.add hb (owA_at how hnf))
  clear H11
  clear how hnf hb
  go_wp2_with fail
  refine (eqO_any l1 _ _ _ _ _ _ _ (MSt.nth (L1 := [_, _, _]) H12.out).objs.out.1.read H12.out.objs.out.1.read (by first | omega | (have := HSL.out; omega))).mono ?_
  rintro e w13 ⟨rfl, hb⟩
  have H13 := Lib.hid (H12.out.later hb)
  clear H12
  clear hb
  have HWTx := Lib.hid (show Dt.wt (.lst (orgsD l0)) ≤ 1048576 by rw [wt_orgsD]; exact hb0)
  have HWTy := Lib.hid (show Dt.wt (.lst (orgsD l1)) ≤ 1048576 by rw [wt_orgsD]; exact hb1)
  have HWTg0 := Lib.hid (show Dt.wt (.lst (orgsD U)) ≤ 1048576 by rw [wt_orgsD]; exact hb2)
  obtain ⟨K1, hK1⟩ : ∃ K, K = 1 + cnts (orgsD l0) := ⟨_, rfl⟩
  have HKK1 := Lib.hid hK1
  have hK1b : K1 ≤ 2097153 := by rw [hK1, cnts_orgs _ (orgsD_org l0), orgsD_len]; omega
  clear hK1
  obtain ⟨K2, hK2⟩ : ∃ K, K = K1 + cnts (orgsD l1) := ⟨_, rfl⟩
  have HKK2 := Lib.hid hK2
  have hK2b : K2 ≤ 4194305 := by rw [hK2, cnts_orgs _ (orgsD_org l1), orgsD_len]; omega
  clear hK2
  obtain ⟨K3, hK3⟩ : ∃ K, K = 1 + cnts (orgsD U) := ⟨_, rfl⟩
  have HKK3 := Lib.hid hK3
  have hK3b : K3 ≤ 2097153 := by rw [hK3, cnts_orgs _ (orgsD_org U), orgsD_len]; omega
  clear hK3
  go_wp2_with fail
  refine (markOrgC (orgsD l0) (orgsD_org _) _ _ _ 1 K1 _ _ (MSt.nth (L1 := [_, _, _, _]) H13.out).objs.out.1 (MSt.nth (L1 := [_, _, _, _]) H13.out).objs.out.2.1 (orgsD_len _).symm HKK1.out (by omega) HWTx.out).mono ?_
  rintro e w14 ⟨rfl, how, hF⟩
  have H14 := Lib.hid ((MSt.nth (L1 := [_, _, _, _]) H13.out).mark hF how)
  clear H13
  clear how hF
  go_wp2_with fail
  refine (markOrgC (orgsD l1) (orgsD_org _) _ _ _ K1 K2 _ _ (MSt.nth (L1 := [_, _, _, _]) H14.out).objs.out.1 (MSt.nth (L1 := [_, _, _, _]) H14.out).objs.out.2.1 (orgsD_len _).symm HKK2.out (by omega) HWTy.out).mono ?_
  rintro e w15 ⟨rfl, how, hF⟩
  have H15 := Lib.hid ((MSt.nth (L1 := [_, _, _, _]) H14.out).mark hF how)
  clear H14
  clear how hF
  have hkn : ¬ ((K2 : Int) < 0) := by omega
  go_wp2_with fail
  refine (eqO_any U _ _ _ _ _ _ _ (MSt.nth (L1 := [_, _, _, _]) H15.out).objs.out.1.read (MSt.nth (L1 := [_, _, _, _, _]) H15.out).objs.out.1.read (by first | omega | (have := HSL.out; omega))).mono ?_
  rintro e w16 ⟨rfl, hb⟩
  have H16 := Lib.hid (H15.out.later hb)
  clear H15
  clear hb
  go_wp2_with fail
  refine (markOrgC (orgsD U) (orgsD_org _) _ _ _ 1 K3 _ _ (MSt.nth (L1 := [_, _, _, _]) H16.out).objs.out.1 (MSt.nth (L1 := [_, _, _, _]) H16.out).objs.out.2.1 (orgsD_len _).symm HKK3.out (by omega) HWTg0.out).mono ?_
  rintro e w17 ⟨rfl, how, hF⟩
  have H17 := Lib.hid ((MSt.nth (L1 := [_, _, _, _]) H16.out).mark hF how)
  clear H16
  clear how hF
  have hkn3 : ¬ ((K3 : Int) < 0) := by omega
  have hkk3 : ((K3 : Int) != (K3 : Int)) = false := by simp
  go_wp2_with fail
  refine (heldOrgC (orgsD U) (orgsD_org _) _ _ _ 1 K3 _ _ H17.out.objs.out.1.read (Nat.le_refl _) (orgsD_len _).symm HKK3.out (by omega) HWTg0.out).mono ?_
  rintro e w18 ⟨rfl, hb⟩
  have H18 := Lib.hid (H17.out.later hb)
  clear H17
  clear hb
  go_wp2_with fail
  refine (toO_any l0 HW0.out A0 _ c0 rfl _ ((HR0.out.below (MSt.bel H18.out)).more (MSt.size H18.out))).mono ?_
  rintro e w19 ⟨As, cs, fps, rfl, how, hnf, hb⟩
  have H19 := Lib.hid (H18.out.add hb (owA_at how hnf))
  clear H18
  clear how hnf hb
  go_wp2_with fail
  refine (toO_any l1 HW1.out A1 _ c1 rfl _ ((HR1.out.below (MSt.bel H19.out)).more (MSt.size H19.out))).mono ?_
  rintro e w20 ⟨At, ct, fpt, rfl, how, hnf, hb⟩
  have H20 := Lib.hid (H19.out.add hb (owA_at how hnf))
  clear H19
  clear how hnf hb
  go_wp2_with fail
  refine (implUniN_any l0 l1 U HU.out HS.out _ _ _ _ _ _ rfl rfl _ ((MSt.nth (L1 := [_]) H20.out).objs.out.1.read) (H20.out.objs.out.1.read)).mono ?_
  rintro e w21 ⟨v, rfl, h2⟩
  obtain ⟨Ah0, ch0, rfl, -, -⟩ := MSt.orgV h2
  have H21 := Lib.hid (MSt.trans H20.out (MSt.orgOw h2))
  clear H20
  clear h2
  go_wp2_with fail
  refine (eqO_any U _ _ _ _ _ _ _ H21.out.objs.out.1.read (MSt.nth (L1 := [_, _, _, _, _, _, _, _]) H21.out).objs.out.1.read (by first | omega | (have := HSL.out; omega))).mono ?_
  rintro e w22 ⟨rfl, hb⟩
  have H22 := Lib.hid (H21.out.later hb)
  clear H21
  clear hb
  go_wp2_with fail
  refine (heldOrgC (orgsD U) (orgsD_org _) _ _ _ 1 K3 _ _ (MSt.nth (L1 := [_, _, _]) H22.out).objs.out.1.read (Nat.le_refl _) (orgsD_len _).symm HKK3.out (by omega) HWTg0.out).mono ?_
  rintro e w23 ⟨rfl, hb⟩
  have H23 := Lib.hid (H22.out.later hb)
  clear H22
  clear hb
  go_wp2_with fail
  go_ret
  exact ⟨rfl, MSt.bel H23.out⟩
end Go.Proofs.Ytdnneilbgekccab
