/-
  Texts that the proof rests on, put together: ColS, TabWh.
-/
import Derived.Test.YtcdklpflgafokaaGreatDoorMg44
import Derived.Test.YtcdklpflgafokaaGreatDoorMg43
import Derived.Maps.Views
import Derived.Deep.RegionLaw
import Derived.Deep.RegionHeld3
import Derived.Outline
import Derived.Test.YtcdklpflgafokaaGreatDoorMg22
import Derived.Test.YtcdklpflgafokaaGreatDoorMg34
/-
  ColumnOf, the model's. (Written by gentab.py.)
-/

namespace Go.Proofs.YtcdklpflgafokaaGreatDoor
open Go.RowKit Go.Maps
set_option linter.unusedVariables false
set_option linter.unusedSimpArgs false

set_option maxHeartbeats 6400000 in
set_option maxRecDepth 100000 in
theorem specColumnOf_any {a t : Dt} (ha : IsVal a) (ht : IsVal t) (hwt : a.wt + t.wt ≤ 1048576) (csa cst : List Value) (w : World) (ra : Rd w w.heap.size a csa) (rt : Rd w w.heap.size t cst) (d : Dt) (hd : Nary ([2] ++ [5]) [a, t] (colD a t) d) :
    Calls Tryz.prog 38 #[.agg csa.toArray, .agg cst.toArray] w (ToA w d) := by
  have HV := Lib.hid (And.intro (show ∀ y ∈ [a, t], IsVal y by simp; exact ⟨ha, ht⟩) (show ∀ y ∈ [a, t], y.wt ≤ 1048576 by simp; omega))
  have HD := Lib.hid hd
  obtain ⟨ay0, ay1, ay2, ay3, ay4, an4, ac4, ay5, an5, ac5, ay6, an6, ac6, rfl⟩ := ha.form ra
  obtain ⟨ty0, ty1, ty2, ty3, ty4, tn4, tc4, ty5, tn5, tc5, ty6, tn6, tc6, rfl⟩ := ht.form rt
  have HRL : Hid (RdL w w.heap.size [a, t] [.int .i64 ay0, .int .i64 ay1, .int .i64 ay2, .string ay3, .slice ay4 an4 ac4, .slice ay5 an5 ac5, .slice ay6 an6 ac6, .int .i64 ty0, .int .i64 ty1, .int .i64 ty2, .string ty3, .slice ty4 tn4 tc4, .slice ty5 tn5 tc5, .slice ty6 tn6 tc6]) := Lib.hid (rdl_2 ra (rdl_1 rt))
  have htr := TabR.of ht rt (Nat.le_refl _)
  obtain ⟨hn6, hq6, hx6⟩ := htr.2.lst_len
  subst hn6
  obtain ⟨hn5, hq5, -⟩ := htr.1.lst_len
  rw [List.length_map] at hn5
  subst hn5
  unfold maxLen at hx6
  have HT := Lib.hid htr
  have hka := kd_cell ha ra
  have HKa := Lib.hid (And.intro hka (tx_cell ha ra))
  clear hka
  have HRa := Lib.hid ra
  have HRt := Lib.hid rt
  have h0 := (((MSt.start w).new 28 7 #[.int .i64 ay0, .int .i64 ay1, .int .i64 ay2, .string ay3, .slice ay4 an4 ac4, .slice ay5 an5 ac5, .slice ay6 an6 ac6] rfl).new 28 7 #[.int .i64 ty0, .int .i64 ty1, .int .i64 ty2, .string ty3, .slice ty4 tn4 tc4, .slice ty5 t.co.length tc5, .slice ty6 t.rw.length tc6] rfl).new 28 7 #[.int .i64 0, .int .i64 0, .int .i64 0, .string ⟨#[]⟩, .slice none 0 0, .slice none 0 0, .slice none 0 0] rfl
  simp only [World.size_alloc] at h0
  have H0 := Lib.hid h0
  clear h0 hd hwt htr ha ra ht rt
  go_enter Tryz.func38, Tryz.ntmps38
  obtain ⟨fA0, fA1, fA2, fA3, fA4, fA5, fA6, fAlt⟩ := box7 (MSt.box (MSt.nth (L1 := [_, _]) H0.out))
  obtain ⟨fT0, fT1, fT2, fT3, fT4, fT5, fT6, fTlt⟩ := box7 (MSt.box (MSt.nth (L1 := [_]) H0.out))
  go_wp2_with fail
  clear fA0 fA1 fA2 fA3 fA4 fA5 fA6 fAlt fT0 fT1 fT2 fT3 fT4 fT5 fT6 fTlt
  have h1 := ((H0.out.row_lit 28 7 2 #[.int .i64 ay0, .int .i64 ay1, .int .i64 ay2, .string ay3, .slice ay4 an4 ac4, .slice ay5 an5 ac5, .slice ay6 an6 ac6, .int .i64 ty0, .int .i64 ty1, .int .i64 ty2, .string ty3, .slice ty4 tn4 tc4, .slice ty5 t.co.length tc5, .slice ty6 t.rw.length tc6] (by unfold maxLen; omega) rfl).row_lit 3 1 2 #[.int .i64 2, .int .i64 5] (by unfold maxLen; omega) rfl)
  simp only [World.size_alloc] at h1
  have HL1 := Lib.hid h1
  clear h1
  have hrd := lst_read (MSt.nth (L1 := [_]) HL1.out) (xs := [a, t]) rfl HRL.out
  have hrk := own_row (MSt.row HL1.out) (fun b hb => ((MSt.row HL1.out).lt b hb).2)
  refine (specCheck_any [a, t] HV.out.1 HV.out.2 [2, 5] rfl _ _ _ _ _ hrd hrk).mono ?_
  rintro e w1 ⟨⟨hok, rfl⟩ | ⟨ec, he, rfl⟩, hb⟩
  rotate_left
  all_goals clear hrd hrk
  · obtain rfl := HD.out.one (.err ec he)
    clear he
    have H1 := Lib.hid (((MSt.drop (MSt.drop HL1.out)).later hb).new 28 7 #[.int .i64 6, .int .i64 ec, .int .i64 0, .string ⟨#[]⟩, .slice none 0 0, .slice none 0 0, .slice none 0 0] rfl)
    have hz := hb.size
    first | simp at hz | skip
    clear hb
    obtain ⟨fR0, fR1, fR2, fR3, fR4, fR5, fR6, fRlt⟩ := box7 (MSt.box (MSt.nth (L1 := [_]) H1.out))
    obtain ⟨zR0, zR1, zR2, zR3, zR4, zR5, zR6⟩ := box7z (MSt.box (MSt.nth (L1 := [_]) H1.out))
    go_wp2_with fail
    obtain ⟨W7, hW, hg, y0, y1, y2, y3, y4, y5, y6⟩ := MSt.put (MSt.nth (L1 := [_]) H1.out) (.int .i64 6) (.int .i64 ec) (.int .i64 0) (.string ⟨#[]⟩) (.slice none 0 0) (.slice none 0 0) (.slice none 0 0)
    rw [← hW]
    refine bodyPost_ret (v := .agg #[.int .i64 6, .int .i64 ec, .int .i64 0, .string ⟨#[]⟩, .slice none 0 0, .slice none 0 0, .slice none 0 0]) (by simp [results, Tryz.results38, go_sem, y0, y1, y2, y3, y4, y5, y6]) rfl (toA_flat0 rfl hg.bel)
  have HDD := Lib.hid (HD.out.one (.ok hok))
  have HOK := Lib.hid hok
  clear hok
  have H1 := Lib.hid (((MSt.drop (MSt.drop HL1.out)).later hb).new 28 7 #[.int .i64 0, .int .i64 0, .int .i64 0, .string ⟨#[]⟩, .slice none 0 0, .slice none 0 0, .slice none 0 0] rfl)
  have hz := hb.size
  first | simp at hz | skip
  clear hb
  clear HL1
  have hkk := HOK.out.2
  simp only [List.map_cons, List.map_nil, List.cons_append, List.nil_append, List.cons.injEq, and_true] at hkk
  have htb := tbl_of (HV.out.1 t (by simp)) (HOK.out.1 t (by simp)) hkk.2
  have HB := Lib.hid htb
  have hr12 := htb.2.1
  have hc4 := htb.1.1.2
  clear hkk htb
  obtain ⟨fA0, fA1, fA2, fA3, fA4, fA5, fA6, fAlt⟩ := box7 (MSt.box (MSt.nth (L1 := [_, _, _]) H1.out))
  obtain ⟨fT0, fT1, fT2, fT3, fT4, fT5, fT6, fTlt⟩ := box7 (MSt.box (MSt.nth (L1 := [_, _]) H1.out))
  go_wp2_with fail
  rcases idx_lt (cc := t.co) (s := ay3) with hidx | ⟨k, hkc, hidx⟩
  · refine (specColIdx_any (HV.out.1 t (by simp)) (HV.out.2 t (by simp)) [.int .i64 ty0, .int .i64 ty1, .int .i64 ty2, .string ty3, .slice ty4 tn4 tc4, .slice ty5 t.co.length tc5, .slice ty6 t.rw.length tc6] ay3 _ ((HRt.out.below H1.out.bel).more H1.out.size) (-1) hidx.symm).mono ?_
    rintro e w2 ⟨rfl, hb⟩
    have H2 := Lib.hid (H1.out.later hb)
    clear hb
    clear fA0 fA1 fA2 fA3 fA4 fA5 fA6 fAlt fT0 fT1 fT2 fT3 fT4 fT5 fT6 fTlt
    obtain rfl : d = errD 7 := HDD.out.trans (colD_no (by rw [HKa.out.2]; exact hidx))
    clear hidx
    obtain ⟨fA0, fA1, fA2, fA3, fA4, fA5, fA6, fAlt⟩ := box7 (MSt.box (MSt.nth (L1 := [_, _, _]) H2.out))
    obtain ⟨fT0, fT1, fT2, fT3, fT4, fT5, fT6, fTlt⟩ := box7 (MSt.box (MSt.nth (L1 := [_, _]) H2.out))
    go_wp2_with fail
    refine (specErrorValue_any 7 _).mono ?_
    rintro e w3 ⟨rfl, hb⟩
    have H3 := Lib.hid (H2.out.later hb)
    clear hb
    clear fA0 fA1 fA2 fA3 fA4 fA5 fA6 fAlt fT0 fT1 fT2 fT3 fT4 fT5 fT6 fTlt
    obtain ⟨fR0, fR1, fR2, fR3, fR4, fR5, fR6, fRlt⟩ := box7 (MSt.box (MSt.nth (L1 := [_]) H3.out))
    obtain ⟨zR0, zR1, zR2, zR3, zR4, zR5, zR6⟩ := box7z (MSt.box (MSt.nth (L1 := [_]) H3.out))
    go_wp2_with fail
    obtain ⟨W7, hW, hg, y0, y1, y2, y3, y4, y5, y6⟩ := MSt.put (MSt.nth (L1 := [_]) H3.out) (.int .i64 6) (.int .i64 7) (.int .i64 0) (.string ⟨#[]⟩) (.slice none 0 0) (.slice none 0 0) (.slice none 0 0)
    rw [← hW]
    refine bodyPost_ret (v := .agg #[.int .i64 6, .int .i64 7, .int .i64 0, .string ⟨#[]⟩, .slice none 0 0, .slice none 0 0, .slice none 0 0]) (by simp [results, Tryz.results38, go_sem, y0, y1, y2, y3, y4, y5, y6]) rfl (toA_flat0 rfl hg.bel)
  · refine (specColIdx_any (HV.out.1 t (by simp)) (HV.out.2 t (by simp)) [.int .i64 ty0, .int .i64 ty1, .int .i64 ty2, .string ty3, .slice ty4 tn4 tc4, .slice ty5 t.co.length tc5, .slice ty6 t.rw.length tc6] ay3 _ ((HRt.out.below H1.out.bel).more H1.out.size) (k : Int) hidx.symm).mono ?_
    rintro e w2 ⟨rfl, hb⟩
    have H2 := Lib.hid (H1.out.later hb)
    clear hb
    clear fA0 fA1 fA2 fA3 fA4 fA5 fA6 fAlt fT0 fT1 fT2 fT3 fT4 fT5 fT6 fTlt
    have HID := Lib.hid hidx
    clear hidx
    by_cases h8 : 8 < t.rw.length
    · obtain rfl : d = errD 6 := HDD.out.trans (colD_long (by rw [HKa.out.2]; exact HID.out) h8)
      obtain ⟨fA0, fA1, fA2, fA3, fA4, fA5, fA6, fAlt⟩ := box7 (MSt.box (MSt.nth (L1 := [_, _, _]) H2.out))
      obtain ⟨fT0, fT1, fT2, fT3, fT4, fT5, fT6, fTlt⟩ := box7 (MSt.box (MSt.nth (L1 := [_, _]) H2.out))
      go_wp2_with fail
      refine (specErrorValue_any 6 _).mono ?_
      rintro e w3 ⟨rfl, hb⟩
      have H3 := Lib.hid (H2.out.later hb)
      clear hb
      clear fA0 fA1 fA2 fA3 fA4 fA5 fA6 fAlt fT0 fT1 fT2 fT3 fT4 fT5 fT6 fTlt
      obtain ⟨fR0, fR1, fR2, fR3, fR4, fR5, fR6, fRlt⟩ := box7 (MSt.box (MSt.nth (L1 := [_]) H3.out))
      obtain ⟨zR0, zR1, zR2, zR3, zR4, zR5, zR6⟩ := box7z (MSt.box (MSt.nth (L1 := [_]) H3.out))
      go_wp2_with fail
      obtain ⟨W7, hW, hg, y0, y1, y2, y3, y4, y5, y6⟩ := MSt.put (MSt.nth (L1 := [_]) H3.out) (.int .i64 6) (.int .i64 6) (.int .i64 0) (.string ⟨#[]⟩) (.slice none 0 0) (.slice none 0 0) (.slice none 0 0)
      rw [← hW]
      refine bodyPost_ret (v := .agg #[.int .i64 6, .int .i64 6, .int .i64 0, .string ⟨#[]⟩, .slice none 0 0, .slice none 0 0, .slice none 0 0]) (by simp [results, Tryz.results38, go_sem, y0, y1, y2, y3, y4, y5, y6]) rfl (toA_flat0 rfl hg.bel)
    · obtain rfl : d = valD 3 0 ⟨#[]⟩ ((colN t.rw k).map fun n => valD 1 n ⟨#[]⟩ []) := HDD.out.trans (colD_yes (by rw [HKa.out.2]; exact HID.out) h8)
      obtain ⟨fA0, fA1, fA2, fA3, fA4, fA5, fA6, fAlt⟩ := box7 (MSt.box (MSt.nth (L1 := [_, _, _]) H2.out))
      obtain ⟨fT0, fT1, fT2, fT3, fT4, fT5, fT6, fTlt⟩ := box7 (MSt.box (MSt.nth (L1 := [_, _]) H2.out))
      go_wp2_with fail
      clear fA0 fA1 fA2 fA3 fA4 fA5 fA6 fAlt fT0 fT1 fT2 fT3 fT4 fT5 fT6 fTlt
      have h2 := (H2.out.new 28 7 #[.int .i64 3, .int .i64 0, .int .i64 0, .string ⟨#[]⟩, .slice none 0 0, .slice none 0 0, .slice none 0 0] rfl).nilRow0 28 7
      obtain ⟨wS, rfl⟩ : ∃ wo : World, wo = w2 := ⟨_, rfl⟩
      have HS : Hid (MSt w [boxA 28 7 wS.heap.size [.int .i64 3, .int .i64 0, .int .i64 0, .string ⟨#[]⟩, (.slice none 0 0), .slice none 0 0, .slice none 0 0], rowA 28 7 (.slice none 0 0) 0 (numV (colN (t.rw.take 0) k)), boxA 28 7 (w.heap.size + 1 + 1) [.int .i64 0, .int .i64 0, .int .i64 0, .string ⟨#[]⟩, .slice none 0 0, .slice none 0 0, .slice none 0 0], boxA 28 7 (w.heap.size + 1) [.int .i64 ty0, .int .i64 ty1, .int .i64 ty2, .string ty3, .slice ty4 tn4 tc4, .slice ty5 t.co.length tc5, .slice ty6 t.rw.length tc6], boxA 28 7 (w.heap.size) [.int .i64 ay0, .int .i64 ay1, .int .i64 ay2, .string ay3, .slice ay4 an4 ac4, .slice ay5 an5 ac5, .slice ay6 an6 ac6]] _) := Lib.hid (MSt.subB h2.swap (.cons_cons _ (.cons_cons _ (.cons _ (List.Sublist.refl _)))))
      clear h2
      go_loopw [9] (fun i wr => ∃ (j : Nat) (v : Value), j ≤ t.rw.length ∧ i = .int .i64 (j : Int) ∧ Hid (MSt w [boxA 28 7 wS.heap.size [.int .i64 3, .int .i64 0, .int .i64 0, .string ⟨#[]⟩, v, .slice none 0 0, .slice none 0 0], rowA 28 7 v j (numV (colN (t.rw.take j) k)), boxA 28 7 (w.heap.size + 1 + 1) [.int .i64 0, .int .i64 0, .int .i64 0, .string ⟨#[]⟩, .slice none 0 0, .slice none 0 0, .slice none 0 0], boxA 28 7 (w.heap.size + 1) [.int .i64 ty0, .int .i64 ty1, .int .i64 ty2, .string ty3, .slice ty4 tn4 tc4, .slice ty5 t.co.length tc5, .slice ty6 t.rw.length tc6], boxA 28 7 (w.heap.size) [.int .i64 ay0, .int .i64 ay1, .int .i64 ay2, .string ay3, .slice ay4 an4 ac4, .slice ay5 an5 ac5, .slice ay6 an6 ac6]] wr)) (fun i _ => t.rw.length - (intOf i).toNat)
      case atStart => exact ⟨0, _, Nat.zero_le _, rfl, HS⟩
      case round =>
        obtain ⟨j, v, hj, rfl, H1⟩ := hrel
        obtain ⟨A3, q3, rfl⟩ := own_slice (MSt.row (MSt.nth (L1 := [_]) H1.out))
        by_cases hlt : j < t.rw.length
        · obtain ⟨b, o, cs, hA6, hbB, hrd, hlen, hcell⟩ := (HT.out.2.below H1.out.bel).at (k := 2) (fun x hx' => (rw_val (HV.out.1 t (by simp)) x hx').width) (by omega) j hlt
          subst hA6
          obtain ⟨x, hx⟩ : ∃ x, x = t.rw[j] := ⟨_, rfl⟩
          have hxr := HB.out.2.2 _ (List.getElem_mem hlt)
          rw [← hx] at hrd hxr
          obtain ⟨ns, os, rfl, hns, hos, hnn⟩ := hxr
          obtain ⟨B0, d0, B1, d1, rfl, r0, r1⟩ := Rd.ofRow hrd
          have HX := Lib.hid (And.intro hx (And.intro hns (And.intro hos (And.intro hnn (And.intro r0 r1)))))
          have h00 := hcell 0 (by omega)
          have h01 := hcell 1 (by omega)
          simp only [List.getElem?_cons_zero, List.getElem?_cons_succ, Nat.add_zero, List.length_map] at h00 h01
          have hws := H1.out.size
          have hbl : b < wr.heap.size := by omega
          have hj2 : (j : Int) < (t.rw.length : Int) := by omega
          obtain ⟨b0, o0, rfl, hb0, hc0⟩ := r0.ints k _ (intV_get ns k (by omega))
          obtain ⟨q, hq⟩ : ∃ q, q = ns[k]'(by omega) := ⟨_, rfl⟩
          rw [← hq] at hc0
          have HQ := Lib.hid (show Dt.at (.agg [.lst (ns.map .int), .lst os]) k = q by rw [at_mk (by omega), hq])
          have hk2 : (k : Int) < (ns.length : Int) := by omega
          have hbl0 : b0 < wr.heap.size := by omega
          clear hq
          have HNX := Lib.hid (colN_next hlt (n := q) (k := k) (by rw [← HX.out.1]; exact HQ.out))
          clear hrd hcell hlen r0 r1 hns hos hnn hx
          obtain ⟨fX0, fX1, fX2, fX3, fX4, fX5, fX6, fXlt⟩ := box7 (MSt.box H1.out)
          obtain ⟨fT0, fT1, fT2, fT3, fT4, fT5, fT6, fTlt⟩ := box7 (MSt.box (MSt.nth (L1 := [_, _, _]) H1.out))
          go_wp2_with fail
          go_region_law (first
            | (
              go_simp
              go_at_call 45
              refine (specNumberValue_any q _).mono ?_
              rintro e1 w2 ⟨rfl, hb⟩
              have H2 := Lib.hid (H1.out.drew.later hb)
              have hs2 := H2.out.size
              clear hb
              obtain ⟨fX0, fX1, fX2, fX3, fX4, fX5, fX6, fXlt⟩ := box7 (MSt.box H2.out))
            | (
              refine stepV _ (by rfl) (.tmp 41) (.tmp 52) (by rfl) w.heap.size (.slice A3 j q3) j (numV (colN (t.rw.take j) k)) (by rfl) (by exact (MSt.row (MSt.nth (L1 := [_]) (H2.out.alloc _)))) (some ⟨w2.heap.size, 0, none⟩) 1 1 (w2.heap.size + 1) (flatV 1 q 0 ⟨#[]⟩) (by rfl) rfl (row_new w2 (flatV 1 q 0 ⟨#[]⟩).toArray 28) (flat_one _ _ _ _) (by omega) (by simp; omega) ?_
              intro v3 w3 hown3 hgr3 hn3
              obtain ⟨A9, q9, rfl⟩ := own_slice hown3
              have h3 := MSt.swap (MSt.app (MSt.nth (L1 := [_]) (H2.out.alloc (.cells (flatV 1 q 0 ⟨#[]⟩).toArray 28))) hgr3 hown3 hn3.2)
              rw [HNX.out] at h3
              have H3 := Lib.hid h3
              clear h3 hown3 hgr3 hn3
              obtain ⟨fX0, fX1, fX2, fX3, fX4, fX5, fX6, fXlt⟩ := box7 (MSt.box H3.out)
              obtain ⟨zX0, zX1, zX2, zX3, zX4, zX5, zX6⟩ := box7z (MSt.box H3.out))
            | fail)
          all_goals
            go_wp2_with fail
            have h4 := H3.out.set1 4 (.slice A9 (j + 1) q9)
            have H4 := Lib.hid h4
            clear h4
            exact ⟨⟨j + 1, _, by omega, by simp, H4⟩, by simp [intOf]; omega⟩
        · obtain rfl : j = t.rw.length := by omega
          obtain ⟨fX0, fX1, fX2, fX3, fX4, fX5, fX6, fXlt⟩ := box7 (MSt.box H1.out)
          obtain ⟨fT0, fT1, fT2, fT3, fT4, fT5, fT6, fTlt⟩ := box7 (MSt.box (MSt.nth (L1 := [_, _, _]) H1.out))
          obtain ⟨fR0, fR1, fR2, fR3, fR4, fR5, fR6, fRlt⟩ := box7 (MSt.box (MSt.nth (L1 := [_, _]) H1.out))
          obtain ⟨zR0, zR1, zR2, zR3, zR4, zR5, zR6⟩ := box7z (MSt.box (MSt.nth (L1 := [_, _]) H1.out))
          go_wp2_with fail
          obtain ⟨W7, hW, hg, y0, y1, y2, y3, y4, y5, y6⟩ := MSt.put (MSt.nth (L1 := [_, _]) H1.out) (.int .i64 3) (.int .i64 0) (.int .i64 0) (.string ⟨#[]⟩) (.slice A3 t.rw.length q3) (.slice none 0 0) (.slice none 0 0)
          rw [← hW]
          rw [List.take_length] at hg
          refine bodyPost_ret (v := .agg #[.int .i64 3, .int .i64 0, .int .i64 0, .string ⟨#[]⟩, .slice A3 t.rw.length q3, .slice none 0 0, .slice none 0 0]) (by simp [results, Tryz.results38, go_sem, y0, y1, y2, y3, y4, y5, y6]) rfl (((MSt.nth (L1 := [_, _]) hg).close0 (xs := (colN t.rw k).map fun n => valD 1 n ⟨#[]⟩ []) (fun w' => ow_numV w' (colN t.rw k)) (by rw [List.length_map, colN_len])).list.give)

end Go.Proofs.YtcdklpflgafokaaGreatDoor

/-
  Rows chosen. (Written by gentab.py.)
-/

namespace Go.Proofs.YtcdklpflgafokaaGreatDoor
open Go.RowKit Go.Maps
set_option linter.unusedVariables false
set_option linter.unusedSimpArgs false

def eqAt (k : Nat) (n : Int) (r : Dt) : Bool := r.at k == n
theorem whereD_no {a n t : Dt} (h : Lib.idxOfS t.co a.tx = -1) : whereD a n t = errD 7 := by
  unfold whereD
  rw [if_pos (by omega)]
theorem whereD_yes {a n t : Dt} {k : Nat} (h : Lib.idxOfS t.co a.tx = ((k : Nat) : Int)) : whereD a n t = tblD t.co (t.rw.filter (eqAt k n.nm)) := by
  unfold whereD
  rw [if_neg (by omega), pos_of h]
  rfl
theorem filter_next {p : Dt → Bool} {rs : List Dt} {j : Nat} (hj : j < rs.length) : (rs.take (j + 1)).filter p = (rs.take j).filter p ++ (if p rs[j] = true then [rs[j]] else []) := by
  rw [List.take_succ_eq_append_getElem hj, List.filter_append]
  congr 1
  by_cases h : p rs[j] = true
  · rw [if_pos h, List.filter_cons_of_pos h, List.filter_nil]
  · rw [if_neg h, List.filter_cons_of_neg h, List.filter_nil]
theorem rd_ownk {w1 : World} {base n c k : Nat} {e : TypeId} {A : Option Addr} {cells : List Value} {l : List Dt} (hown : w1.ownsRow base e k (.slice A n c) n cells) (hn : n = l.length) (hrd : RdL w1 w1.heap.size l cells) : Rd w1 w1.heap.size (.lst l) [.slice A n c] := by
  subst hn
  simp only [Rd]
  exact ⟨A, c, cells, rfl, (own_cap hown).1, (own_cap hown).2, own_row hown (fun b hb => (hown.lt b hb).2), hrd⟩
theorem cloneRowsN_any (rs : List Dt) (n : Nat) (hn : n = rs.length) (hr : ∀ x ∈ rs, IsRow x) (hwt : Dt.wt (.lst rs) ≤ 1048576) (A : Option Addr) (c : Nat) (w : World) (h : Rd w w.heap.size (.lst rs) [.slice A n c]) :
    Calls Tryz.prog 148 #[.slice A n c] w fun e w' => ∃ A' c' fp, e = .returned (.slice A' n c') ∧ Ow w' (.lst rs) [.slice A' n c'] fp ∧ New w.heap.size fp ∧ Below w.heap.size w w' := by
  subst hn
  exact cloneRows_any rs hr hwt A c w h
theorem cloneS_any (A : Option Addr) (c : Nat) (ss : List ByteArray) (n : Nat) (hn : n = ss.length) (B : Nat) (w : World) (h : RowOf w B A (strV ss)) (hs : ss.length ≤ 1048576) :
    Calls Tryz.prog 147 #[.slice A n c] w fun e w' => ∃ A' c', e = .returned (.slice A' n c') ∧ w'.ownsRow w.heap.size 9 1 (.slice A' n c') n (strV ss) ∧ Below w.heap.size w w' := by
  subst hn
  refine (clone_any A c ss B w h hs).mono ?_
  rintro e w' ⟨v, rfl, hown, -, hb⟩
  rw [← strV_nb] at hown
  obtain ⟨A', c', rfl⟩ := own_slice hown
  exact ⟨A', c', rfl, hown, hb⟩
theorem wt_rows {t : Dt} (ht : IsVal t) (hw : t.wt ≤ 1048576) (p : Dt → Bool) : Dt.wt (.lst (t.rw.filter p)) ≤ 1048576 := by
  have h1 := wt_parts ht
  have h2 := wts_filter p t.rw
  simp only [Dt.wt]
  omega
theorem MSt.tbl {w wx : World} {L : List Asn} {cc : List ByteArray} {rs : List Dt} {v5 v6 : Value} {f5 f6 : List Nat} (h : MSt w (owA (.lst (cc.map .str)) [v5] f5 :: owA (.lst rs) [v6] f6 :: L) wx) :
    MSt w (owA (tblD cc rs) [.int .i64 5, .int .i64 0, .int .i64 0, .string ⟨#[]⟩, .slice none 0 0, v5, v6] ([] ++ (f5 ++ f6)) :: L) wx := (MSt.noLst h).value 5 0 0 ⟨#[]⟩

end Go.Proofs.YtcdklpflgafokaaGreatDoor
