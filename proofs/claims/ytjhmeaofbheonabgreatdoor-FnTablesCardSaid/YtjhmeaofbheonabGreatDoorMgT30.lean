/-
  Texts that the proof rests on, put together: WhS.
-/
import Derived.Test.YtjhmeaofbheonabGreatDoorMgT29
import Derived.Test.YtjhmeaofbheonabGreatDoorMgT28
import Derived.Test.YtjhmeaofbheonabGreatDoorMgT25
import Derived.Test.YtjhmeaofbheonabGreatDoorMgT14
import Derived.Maps.Views
import Derived.Deep.RegionLaw
import Derived.Deep.RegionHeld3
import Derived.Outline
/-
  WhereEqual, the model's. (Written by gentab.py.)
-/

namespace Go.Proofs.YtjhmeaofbheonabGreatDoor
open Go.RowKit Go.Maps
set_option linter.unusedVariables false
set_option linter.unusedSimpArgs false

set_option maxHeartbeats 6400000 in
set_option maxRecDepth 100000 in
theorem specWhereEqual_any {a b t : Dt} (ha : IsVal a) (hb : IsVal b) (ht : IsVal t) (hwt : a.wt + b.wt + t.wt ≤ 1048576) (csa csb cst : List Value) (w : World) (ra : Rd w w.heap.size a csa) (rb : Rd w w.heap.size b csb) (rt : Rd w w.heap.size t cst) (d : Dt) (hd : Nary ([2, 1] ++ [5]) [a, b, t] (whereD a b t) d) :
    Calls Tryz.prog 8 #[.agg csa.toArray, .agg csb.toArray, .agg cst.toArray] w (ToA w d) := by
  have HV := Lib.hid (And.intro (show ∀ y ∈ [a, b, t], IsVal y by simp; exact ⟨ha, hb, ht⟩) (show ∀ y ∈ [a, b, t], y.wt ≤ 1048576 by simp; omega))
  have HD := Lib.hid hd
  obtain ⟨ay0, ay1, ay2, ay3, ay4, an4, ac4, ay5, an5, ac5, ay6, an6, ac6, rfl⟩ := ha.form ra
  obtain ⟨by0, by1, by2, by3, by4, bn4, bc4, by5, bn5, bc5, by6, bn6, bc6, rfl⟩ := hb.form rb
  obtain ⟨ty0, ty1, ty2, ty3, ty4, tn4, tc4, ty5, tn5, tc5, ty6, tn6, tc6, rfl⟩ := ht.form rt
  have HRL : Hid (RdL w w.heap.size [a, b, t] [.int .i64 ay0, .int .i64 ay1, .int .i64 ay2, .string ay3, .slice ay4 an4 ac4, .slice ay5 an5 ac5, .slice ay6 an6 ac6, .int .i64 by0, .int .i64 by1, .int .i64 by2, .string by3, .slice by4 bn4 bc4, .slice by5 bn5 bc5, .slice by6 bn6 bc6, .int .i64 ty0, .int .i64 ty1, .int .i64 ty2, .string ty3, .slice ty4 tn4 tc4, .slice ty5 tn5 tc5, .slice ty6 tn6 tc6]) := Lib.hid (rdl_2 ra (rdl_2 rb (rdl_1 rt)))
  have htr := TabR.of ht rt (Nat.le_refl _)
  obtain ⟨hn6, hq6, hx6⟩ := htr.2.lst_len
  subst hn6
  obtain ⟨hn5, hq5, -⟩ := htr.1.lst_len
  rw [List.length_map] at hn5
  subst hn5
  unfold maxLen at hx6
  have HT := Lib.hid htr
  have hka := kd_cell ha ra
  have HKa := Lib.hid (And.intro hka (tx_cell ha ra))
  clear hka
  have hkb := kd_cell hb rb
  have HKb := Lib.hid (And.intro hkb (tx_cell hb rb))
  clear hkb
  have HRa := Lib.hid ra
  have HRb := Lib.hid rb
  have HRt := Lib.hid rt
  have h0 := ((((MSt.start w).new 28 7 #[.int .i64 ay0, .int .i64 ay1, .int .i64 ay2, .string ay3, .slice ay4 an4 ac4, .slice ay5 an5 ac5, .slice ay6 an6 ac6] rfl).new 28 7 #[.int .i64 by0, .int .i64 by1, .int .i64 by2, .string by3, .slice by4 bn4 bc4, .slice by5 bn5 bc5, .slice by6 bn6 bc6] rfl).new 28 7 #[.int .i64 ty0, .int .i64 ty1, .int .i64 ty2, .string ty3, .slice ty4 tn4 tc4, .slice ty5 t.co.length tc5, .slice ty6 t.rw.length tc6] rfl).new 28 7 #[.int .i64 0, .int .i64 0, .int .i64 0, .string ⟨#[]⟩, .slice none 0 0, .slice none 0 0, .slice none 0 0] rfl
  simp only [World.size_alloc] at h0
  have H0 := Lib.hid h0
  clear h0 hd hwt htr ha ra hb rb ht rt
  go_enter Tryz.func8, Tryz.ntmps8
  obtain ⟨fA0, fA1, fA2, fA3, fA4, fA5, fA6, fAlt⟩ := box7 (MSt.box (MSt.nth (L1 := [_, _, _]) H0.out))
  obtain ⟨fB0, fB1, fB2, fB3, fB4, fB5, fB6, fBlt⟩ := box7 (MSt.box (MSt.nth (L1 := [_, _]) H0.out))
  obtain ⟨fT0, fT1, fT2, fT3, fT4, fT5, fT6, fTlt⟩ := box7 (MSt.box (MSt.nth (L1 := [_]) H0.out))
  go_wp2_with fail
  clear fA0 fA1 fA2 fA3 fA4 fA5 fA6 fAlt fB0 fB1 fB2 fB3 fB4 fB5 fB6 fBlt fT0 fT1 fT2 fT3 fT4 fT5 fT6 fTlt
  have h1 := ((H0.out.row_lit 28 7 3 #[.int .i64 ay0, .int .i64 ay1, .int .i64 ay2, .string ay3, .slice ay4 an4 ac4, .slice ay5 an5 ac5, .slice ay6 an6 ac6, .int .i64 by0, .int .i64 by1, .int .i64 by2, .string by3, .slice by4 bn4 bc4, .slice by5 bn5 bc5, .slice by6 bn6 bc6, .int .i64 ty0, .int .i64 ty1, .int .i64 ty2, .string ty3, .slice ty4 tn4 tc4, .slice ty5 t.co.length tc5, .slice ty6 t.rw.length tc6] (by unfold maxLen; omega) rfl).row_lit 3 1 3 #[.int .i64 2, .int .i64 1, .int .i64 5] (by unfold maxLen; omega) rfl)
  simp only [World.size_alloc] at h1
  have HL1 := Lib.hid h1
  clear h1
  have hrd := lst_read (MSt.nth (L1 := [_]) HL1.out) (xs := [a, b, t]) rfl HRL.out
  have hrk := own_row (MSt.row HL1.out) (fun b hb => ((MSt.row HL1.out).lt b hb).2)
  refine (specCheck_any [a, b, t] HV.out.1 HV.out.2 [2, 1, 5] rfl _ _ _ _ _ hrd hrk).mono ?_
  rintro e w1 ⟨⟨hok, rfl⟩ | ⟨ec, he, rfl⟩, hb⟩
  rotate_left
  all_goals clear hrd hrk
  · obtain rfl := HD.out.one (.err ec he)
    clear he
    have H1 := Lib.hid (((MSt.drop (MSt.drop HL1.out)).later hb).new 28 7 #[.int .i64 6, .int .i64 ec, .int .i64 0, .string ⟨#[]⟩, .slice none 0 0, .slice none 0 0, .slice none 0 0] rfl)
    have hz := hb.size
    first | simp at hz | skip
    clear hb
    obtain ⟨fR0, fR1, fR2, fR3, fR4, fR5, fR6, fRlt⟩ := box7 (MSt.box (MSt.nth (L1 := [_]) H1.out))
    obtain ⟨zR0, zR1, zR2, zR3, zR4, zR5, zR6⟩ := box7z (MSt.box (MSt.nth (L1 := [_]) H1.out))
    go_wp2_with fail
    obtain ⟨W7, hW, hg, y0, y1, y2, y3, y4, y5, y6⟩ := MSt.put (MSt.nth (L1 := [_]) H1.out) (.int .i64 6) (.int .i64 ec) (.int .i64 0) (.string ⟨#[]⟩) (.slice none 0 0) (.slice none 0 0) (.slice none 0 0)
    rw [← hW]
    refine bodyPost_ret (v := .agg #[.int .i64 6, .int .i64 ec, .int .i64 0, .string ⟨#[]⟩, .slice none 0 0, .slice none 0 0, .slice none 0 0]) (by simp [results, Tryz.results8, go_sem, y0, y1, y2, y3, y4, y5, y6]) rfl (toA_flat0 rfl hg.bel)
  have HDD := Lib.hid (HD.out.one (.ok hok))
  have HOK := Lib.hid hok
  clear hok
  have H1 := Lib.hid (((MSt.drop (MSt.drop HL1.out)).later hb).new 28 7 #[.int .i64 0, .int .i64 0, .int .i64 0, .string ⟨#[]⟩, .slice none 0 0, .slice none 0 0, .slice none 0 0] rfl)
  have hz := hb.size
  first | simp at hz | skip
  clear hb
  clear HL1
  have hkk := HOK.out.2
  simp only [List.map_cons, List.map_nil, List.cons_append, List.nil_append, List.cons.injEq, and_true] at hkk
  have htb := tbl_of (HV.out.1 t (by simp)) (HOK.out.1 t (by simp)) hkk.2.2
  have HB := Lib.hid htb
  have hr12 := htb.2.1
  have hc4 := htb.1.1.2
  clear hkk htb
  obtain ⟨fA0, fA1, fA2, fA3, fA4, fA5, fA6, fAlt⟩ := box7 (MSt.box (MSt.nth (L1 := [_, _, _, _]) H1.out))
  obtain ⟨fB0, fB1, fB2, fB3, fB4, fB5, fB6, fBlt⟩ := box7 (MSt.box (MSt.nth (L1 := [_, _, _]) H1.out))
  obtain ⟨fT0, fT1, fT2, fT3, fT4, fT5, fT6, fTlt⟩ := box7 (MSt.box (MSt.nth (L1 := [_, _]) H1.out))
  go_wp2_with fail
  rcases idx_lt (cc := t.co) (s := ay3) with hidx | ⟨k, hkc, hidx⟩
  · refine (specColIdx_any (HV.out.1 t (by simp)) (HV.out.2 t (by simp)) [.int .i64 ty0, .int .i64 ty1, .int .i64 ty2, .string ty3, .slice ty4 tn4 tc4, .slice ty5 t.co.length tc5, .slice ty6 t.rw.length tc6] ay3 _ ((HRt.out.below H1.out.bel).more H1.out.size) (-1) hidx.symm).mono ?_
    rintro e w2 ⟨rfl, hb⟩
    have H2 := Lib.hid (H1.out.later hb)
    clear hb
    clear fA0 fA1 fA2 fA3 fA4 fA5 fA6 fAlt fB0 fB1 fB2 fB3 fB4 fB5 fB6 fBlt fT0 fT1 fT2 fT3 fT4 fT5 fT6 fTlt
    obtain rfl : d = errD 7 := HDD.out.trans (whereD_no (by rw [HKa.out.2]; exact hidx))
    clear hidx
    obtain ⟨fA0, fA1, fA2, fA3, fA4, fA5, fA6, fAlt⟩ := box7 (MSt.box (MSt.nth (L1 := [_, _, _, _]) H2.out))
    obtain ⟨fB0, fB1, fB2, fB3, fB4, fB5, fB6, fBlt⟩ := box7 (MSt.box (MSt.nth (L1 := [_, _, _]) H2.out))
    obtain ⟨fT0, fT1, fT2, fT3, fT4, fT5, fT6, fTlt⟩ := box7 (MSt.box (MSt.nth (L1 := [_, _]) H2.out))
    go_wp2_with fail
    refine (specErrorValue_any 7 _).mono ?_
    rintro e w3 ⟨rfl, hb⟩
    have H3 := Lib.hid (H2.out.later hb)
    clear hb
    clear fA0 fA1 fA2 fA3 fA4 fA5 fA6 fAlt fB0 fB1 fB2 fB3 fB4 fB5 fB6 fBlt fT0 fT1 fT2 fT3 fT4 fT5 fT6 fTlt
    obtain ⟨fR0, fR1, fR2, fR3, fR4, fR5, fR6, fRlt⟩ := box7 (MSt.box (MSt.nth (L1 := [_]) H3.out))
    obtain ⟨zR0, zR1, zR2, zR3, zR4, zR5, zR6⟩ := box7z (MSt.box (MSt.nth (L1 := [_]) H3.out))
    go_wp2_with fail
    obtain ⟨W7, hW, hg, y0, y1, y2, y3, y4, y5, y6⟩ := MSt.put (MSt.nth (L1 := [_]) H3.out) (.int .i64 6) (.int .i64 7) (.int .i64 0) (.string ⟨#[]⟩) (.slice none 0 0) (.slice none 0 0) (.slice none 0 0)
    rw [← hW]
    refine bodyPost_ret (v := .agg #[.int .i64 6, .int .i64 7, .int .i64 0, .string ⟨#[]⟩, .slice none 0 0, .slice none 0 0, .slice none 0 0]) (by simp [results, Tryz.results8, go_sem, y0, y1, y2, y3, y4, y5, y6]) rfl (toA_flat0 rfl hg.bel)
  · refine (specColIdx_any (HV.out.1 t (by simp)) (HV.out.2 t (by simp)) [.int .i64 ty0, .int .i64 ty1, .int .i64 ty2, .string ty3, .slice ty4 tn4 tc4, .slice ty5 t.co.length tc5, .slice ty6 t.rw.length tc6] ay3 _ ((HRt.out.below H1.out.bel).more H1.out.size) (k : Int) hidx.symm).mono ?_
    rintro e w2 ⟨rfl, hb⟩
    have H2 := Lib.hid (H1.out.later hb)
    clear hb
    clear fA0 fA1 fA2 fA3 fA4 fA5 fA6 fAlt fB0 fB1 fB2 fB3 fB4 fB5 fB6 fBlt fT0 fT1 fT2 fT3 fT4 fT5 fT6 fTlt
    have HID := Lib.hid hidx
    clear hidx
    obtain rfl : d = tblD t.co (t.rw.filter (eqAt k by1)) := HDD.out.trans ((whereD_yes (by rw [HKa.out.2]; exact HID.out)).trans (by rw [HKb.out.1.2]))
    obtain ⟨fA0, fA1, fA2, fA3, fA4, fA5, fA6, fAlt⟩ := box7 (MSt.box (MSt.nth (L1 := [_, _, _, _]) H2.out))
    obtain ⟨fB0, fB1, fB2, fB3, fB4, fB5, fB6, fBlt⟩ := box7 (MSt.box (MSt.nth (L1 := [_, _, _]) H2.out))
    obtain ⟨fT0, fT1, fT2, fT3, fT4, fT5, fT6, fTlt⟩ := box7 (MSt.box (MSt.nth (L1 := [_, _]) H2.out))
    have HS0 := Lib.hid (MSt.drop H2.out)
    have hs0 := HS0.out.size
    go_wp2_with (at_builtin; refine appT _ rfl (.tmp 30) (.tmp 32) rfl w.heap.size _ 0 [] rfl (((HS0.out.row_lit 9 1 0 #[] (by unfold maxLen; omega) rfl)).row) ty5 t.co.length tc5 w.heap.size (strV t.co) rfl (by simp [strV]) ((HT.out.1.strs.keep HS0.out.bel.block).keep (fun k hk => ((Below.refl _ _).alloc (Nat.le_refl _) _).block k (Nat.lt_of_lt_of_le hk HS0.out.size))) (strV_one1 t.co) (by omega) (by simp; omega) ?_; intro v3 w3 hown3 hgr3 hn3; obtain ⟨AC, qC, rfl, hown3⟩ := own_slice0 hown3; have h3 := (((HS0.out.row_lit 9 1 0 #[] (by unfold maxLen; omega) rfl)).app hgr3 hown3 hn3.2); simp only [Nat.zero_add, List.nil_append] at h3; have H3 := Lib.hid h3; clear h3 hown3 hgr3 hn3 fA0 fA1 fA2 fA3 fA4 fA5 fA6 fAlt fB0 fB1 fB2 fB3 fB4 fB5 fB6 fBlt fT0 fT1 fT2 fT3 fT4 fT5 fT6 fTlt; obtain ⟨fT0, fT1, fT2, fT3, fT4, fT5, fT6, fTlt⟩ := box7 (MSt.box (MSt.nth (L1 := [_, _]) H3.out)))
    clear fT0 fT1 fT2 fT3 fT4 fT5 fT6 fTlt
    obtain ⟨wS, rfl⟩ : ∃ wo : World, wo = w3 := ⟨_, rfl⟩
    have h2 := (H3.out.nilRow 38 2).new 28 7 #[.int .i64 5, .int .i64 0, .int .i64 0, .string ⟨#[]⟩, .slice none 0 0, .slice AC t.co.length qC, .slice none 0 0] rfl
    have HS : Hid (MSt w [boxA 28 7 wS.heap.size [.int .i64 5, .int .i64 0, .int .i64 0, .string ⟨#[]⟩, .slice none 0 0, .slice AC t.co.length qC, (.slice none 0 0)], rowA 38 2 (.slice none 0 0) 0 [], owLA [] [] [], rowA 9 1 (.slice AC t.co.length qC) t.co.length (strV t.co), boxA 28 7 (w.heap.size + 1 + 1 + 1) [.int .i64 0, .int .i64 0, .int .i64 0, .string ⟨#[]⟩, .slice none 0 0, .slice none 0 0, .slice none 0 0], boxA 28 7 (w.heap.size + 1 + 1) [.int .i64 ty0, .int .i64 ty1, .int .i64 ty2, .string ty3, .slice ty4 tn4 tc4, .slice ty5 t.co.length tc5, .slice ty6 t.rw.length tc6], boxA 28 7 (w.heap.size + 1) [.int .i64 by0, .int .i64 by1, .int .i64 by2, .string by3, .slice by4 bn4 bc4, .slice by5 bn5 bc5, .slice by6 bn6 bc6], boxA 28 7 (w.heap.size) [.int .i64 ay0, .int .i64 ay1, .int .i64 ay2, .string ay3, .slice ay4 an4 ac4, .slice ay5 an5 ac5, .slice ay6 an6 ac6]] _) := Lib.hid h2
    clear h2 H3 HS0
    go_loopw [11] (fun i wr => ∃ (j m : Nat) (v : Value) (cl : List Value) (fp : List Nat), j ≤ t.rw.length ∧ i = .int .i64 (j : Int) ∧ m ≤ j ∧ Hid (m = ((t.rw.take j).filter (eqAt k by1)).length) ∧ Hid (MSt w [boxA 28 7 wS.heap.size [.int .i64 5, .int .i64 0, .int .i64 0, .string ⟨#[]⟩, .slice none 0 0, .slice AC t.co.length qC, v], rowA 38 2 v m cl, owLA ((t.rw.take j).filter (eqAt k by1)) cl fp, rowA 9 1 (.slice AC t.co.length qC) t.co.length (strV t.co), boxA 28 7 (w.heap.size + 1 + 1 + 1) [.int .i64 0, .int .i64 0, .int .i64 0, .string ⟨#[]⟩, .slice none 0 0, .slice none 0 0, .slice none 0 0], boxA 28 7 (w.heap.size + 1 + 1) [.int .i64 ty0, .int .i64 ty1, .int .i64 ty2, .string ty3, .slice ty4 tn4 tc4, .slice ty5 t.co.length tc5, .slice ty6 t.rw.length tc6], boxA 28 7 (w.heap.size + 1) [.int .i64 by0, .int .i64 by1, .int .i64 by2, .string by3, .slice by4 bn4 bc4, .slice by5 bn5 bc5, .slice by6 bn6 bc6], boxA 28 7 (w.heap.size) [.int .i64 ay0, .int .i64 ay1, .int .i64 ay2, .string ay3, .slice ay4 an4 ac4, .slice ay5 an5 ac5, .slice ay6 an6 ac6]] wr)) (fun i _ => t.rw.length - (intOf i).toNat)
    case atStart => exact ⟨0, 0, _, _, _, Nat.zero_le _, rfl, Nat.le_refl _, Lib.hid rfl, HS⟩
    case round =>
      obtain ⟨j, m, v, cl, fp, hj, rfl, hmj, HF, H1⟩ := hrel
      obtain ⟨A3, q3, rfl⟩ := own_slice (MSt.row (MSt.nth (L1 := [_]) H1.out))
      by_cases hlt : j < t.rw.length
      · obtain ⟨b, o, cs, hA6, hbB, hrd, hlen, hcell⟩ := (HT.out.2.below H1.out.bel).at (k := 2) (fun x hx' => (rw_val (HV.out.1 t (by simp)) x hx').width) (by omega) j hlt
        subst hA6
        obtain ⟨x, hx⟩ : ∃ x, x = t.rw[j] := ⟨_, rfl⟩
        have hxr := HB.out.2.2 _ (List.getElem_mem hlt)
        rw [← hx] at hrd hxr
        obtain ⟨ns, os, rfl, hns, hos, hnn⟩ := hxr
        obtain ⟨B0, d0, B1, d1, rfl, r0, r1⟩ := Rd.ofRow hrd
        have HX := Lib.hid (And.intro hx (And.intro hns (And.intro hos (And.intro hnn (And.intro r0 r1)))))
        have h00 := hcell 0 (by omega)
        have h01 := hcell 1 (by omega)
        simp only [List.getElem?_cons_zero, List.getElem?_cons_succ, Nat.add_zero, List.length_map] at h00 h01
        have hws := H1.out.size
        have hbl : b < wr.heap.size := by omega
        have hj2 : (j : Int) < (t.rw.length : Int) := by omega
        obtain ⟨b0, o0, rfl, hb0, hc0⟩ := r0.ints k _ (intV_get ns k (by omega))
        obtain ⟨q, hq⟩ : ∃ q, q = ns[k]'(by omega) := ⟨_, rfl⟩
        rw [← hq] at hc0
        have HQ := Lib.hid (show Dt.at (.agg [.lst (ns.map .int), .lst os]) k = q by rw [at_mk (by omega), hq])
        have hk2 : (k : Int) < (ns.length : Int) := by omega
        have hbl0 : b0 < wr.heap.size := by omega
        clear hq
        have HRX := Lib.hid (And.intro hrd (filter_next (p := eqAt k by1) hlt))
        clear hcell hlen r0 r1 hns hos hnn hx hrd
        obtain ⟨fB0, fB1, fB2, fB3, fB4, fB5, fB6, fBlt⟩ := box7 (MSt.box (MSt.nth (L1 := [_, _, _, _, _, _]) H1.out))
        obtain ⟨fT0, fT1, fT2, fT3, fT4, fT5, fT6, fTlt⟩ := box7 (MSt.box (MSt.nth (L1 := [_, _, _, _, _]) H1.out))
        by_cases heq : q = by1
        · subst heq
          have hne : (q == q) = true := by simp
          go_wp2_with fail
          go_quiet (fail)
          have hxr := rw_val (HV.out.1 t (by simp)) _ (List.getElem_mem hlt)
          have hxw : (t.rw[j]).wt ≤ 1048576 := by have h1 := wts_in (List.getElem_mem hlt); have h2 := wt_parts (HV.out.1 t (by simp)); have h3 := HV.out.2 t (by simp); omega
          rw [← HX.out.1] at hxr hxw
          have HXW := Lib.hid (And.intro hxr hxw)
          clear hxr hxw hc0
          obtain ⟨wq, hwq⟩ : ∃ wq, wq = wr.drewN nq := ⟨_, rfl⟩
          have c00 : wq.cell? ⟨b, o + j * 2, none⟩ = some (.slice (some ⟨b0, o0, none⟩) ns.length d0) := by rw [hwq]; exact h00
          have c01 : wq.cell? ⟨b, o + j * 2 + 1, none⟩ = some (.slice B1 os.length d1) := by rw [hwq]; exact h01
          clear fB0 fB1 fB2 fB3 fB4 fB5 fB6 fBlt fT0 fT1 fT2 fT3 fT4 fT5 fT6 fTlt
          clear h00 h01
          have H2 := Lib.hid (show MSt w _ wq from hwq ▸ MSt.drewN H1.out nq)
          have hrq : Rd wq w.heap.size (.agg [.lst (ns.map .int), .lst os]) [.slice (some ⟨b0, o0, none⟩) ns.length d0, .slice B1 os.length d1] := by have h := HRX.out.1.keep (w' := wq) (fun k hk => by rw [hwq]; rfl); simp only [List.length_map] at h; exact h
          have HRQ := Lib.hid hrq
          rw [← hwq]
          clear hwq hrq
          have hwsq := H2.out.size
          have hblq : b < wq.heap.size := by omega
          obtain ⟨fX0, fX1, fX2, fX3, fX4, fX5, fX6, fXlt⟩ := box7 (MSt.box H2.out)
          obtain ⟨fT0, fT1, fT2, fT3, fT4, fT5, fT6, fTlt⟩ := box7 (MSt.box (MSt.nth (L1 := [_, _, _, _, _]) H2.out))
          go_wp2_with fail
          go_region_law (first
            | (
              go_simp
              go_at_call 25
              refine (l3Row_any HXW.out.1 HXW.out.2 _ _ ((HRQ.out.below (Below.refl _ _).drew).more (by simp; omega))).mono ?_
              rintro e1 w4 ⟨csN, fN, rfl, how, hnf, hb⟩
              obtain ⟨qy0, qn0, qc0, qy1, qn1, qc1, rfl⟩ := HXW.out.1.form how.read
              have HON := Lib.hid how.read.one
              have h4 := H2.out.drew.add hb (owA_at how hnf)
              have H4 := Lib.hid h4
              have hs4 := H4.out.size
              clear how hnf hb h4
              obtain ⟨fX0, fX1, fX2, fX3, fX4, fX5, fX6, fXlt⟩ := box7 (MSt.box (MSt.nth (L1 := [_]) H4.out)))
            | (
              refine stepR _ (by rfl) (.tmp 55) (.tmp 62) (by rfl) w.heap.size (.slice A3 m q3) m cl (by rfl) (by exact (MSt.row (MSt.nth (L1 := [_, _]) (H4.out.alloc _)))) (some ⟨w4.heap.size, 0, none⟩) 1 1 (w4.heap.size + 1) [.slice qy0 qn0 qc0, .slice qy1 qn1 qc1] (by rfl) rfl (row_new w4 #[.slice qy0 qn0 qc0, .slice qy1 qn1 qc1] 38) HON.out (by omega) (by simp; omega) ?_
              intro v5 w5 hown5 hgr5 hn5
              obtain ⟨A9, q9, rfl⟩ := own_slice hown5
              have h5 := MSt.nth (L1 := [_, _]) (MSt.push (MSt.nth (L1 := [_, _]) (MSt.nth (L1 := [_, _]) (MSt.nth (L1 := [_, _, _]) (MSt.app (MSt.nth (L1 := [_, _]) (H4.out.alloc (.cells #[.slice qy0 qn0 qc0, .slice qy1 qn1 qc1] 38))) hgr5 hown5 hn5.2)))))
              have H5 := Lib.hid h5
              clear h5 hown5 hgr5 hn5
              obtain ⟨fX0, fX1, fX2, fX3, fX4, fX5, fX6, fXlt⟩ := box7 (MSt.box H5.out)
              obtain ⟨zX0, zX1, zX2, zX3, zX4, zX5, zX6⟩ := box7z (MSt.box H5.out))
            | fail)
          all_goals
            go_wp2_with fail
            have h6 := H5.out.set1 6 (.slice A9 (m + 1) q9)
            have hpx : eqAt k q (.agg [.lst (ns.map .int), .lst os]) = true := by unfold eqAt; rw [HQ.out]; simp
            have hnx := HRX.out.2
            rw [← HX.out.1, if_pos hpx] at hnx
            rw [← hnx] at h6
            have H6 := Lib.hid h6
            clear h6
            exact ⟨⟨j + 1, m + 1, _, _, _, by omega, by simp, by omega, Lib.hid (by rw [hnx, List.length_append, ← HF.out]; rfl), H6⟩, by simp [intOf]; omega⟩
        · have hne : (q == by1) = false := by simpa using heq
          go_wp2_with fail
          go_quiet (fail)
          have H2 := Lib.hid (MSt.drewN H1.out nq)
          go_wp2_with fail
          have hpx : ¬ eqAt k by1 (.agg [.lst (ns.map .int), .lst os]) = true := by unfold eqAt; rw [HQ.out]; simpa using heq
          have hnx := HRX.out.2
          rw [← HX.out.1, if_neg hpx, List.append_nil] at hnx
          rw [← hnx] at H2
          exact ⟨⟨j + 1, m, _, cl, fp, by omega, by simp, by omega, Lib.hid (by rw [hnx]; exact HF.out), H2⟩, by simp [intOf]; omega⟩
      · obtain rfl : j = t.rw.length := by omega
        rw [List.take_length] at HF H1
        obtain ⟨fX0, fX1, fX2, fX3, fX4, fX5, fX6, fXlt⟩ := box7 (MSt.box H1.out)
        obtain ⟨fT0, fT1, fT2, fT3, fT4, fT5, fT6, fTlt⟩ := box7 (MSt.box (MSt.nth (L1 := [_, _, _, _, _]) H1.out))
        obtain ⟨fR0, fR1, fR2, fR3, fR4, fR5, fR6, fRlt⟩ := box7 (MSt.box (MSt.nth (L1 := [_, _, _, _]) H1.out))
        obtain ⟨zR0, zR1, zR2, zR3, zR4, zR5, zR6⟩ := box7z (MSt.box (MSt.nth (L1 := [_, _, _, _]) H1.out))
        go_wp2_with fail
        obtain ⟨W7, hW, hg, y0, y1, y2, y3, y4, y5, y6⟩ := MSt.put (MSt.nth (L1 := [_, _, _, _]) H1.out) (.int .i64 5) (.int .i64 0) (.int .i64 0) (.string ⟨#[]⟩) (.slice none 0 0) (.slice AC t.co.length qC) (.slice A3 m q3)
        rw [← hW]
        refine bodyPost_ret (v := .agg #[.int .i64 5, .int .i64 0, .int .i64 0, .string ⟨#[]⟩, .slice none 0 0, .slice AC t.co.length qC, .slice A3 m q3]) (by simp [results, Tryz.results8, go_sem, y0, y1, y2, y3, y4, y5, y6]) rfl (MSt.give (MSt.tbl ((MSt.nth (L1 := [_, _, _]) ((MSt.nth (L1 := [_, _, _]) (MSt.nth (L1 := [_, _, _]) hg)).close HF.out)).close0 (fun w' => OwL.strs w' t.co) (by simp))))

end Go.Proofs.YtjhmeaofbheonabGreatDoor
