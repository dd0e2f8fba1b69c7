/-
  Texts that the proof rests on, put together: TblS.
-/
import Derived.Test.YtcdklpflgafokaaGreatDoorMg53
import Derived.Test.YtcdklpflgafokaaGreatDoorMg43
import Derived.Test.YtcdklpflgafokaaGreatDoorMg44
import Derived.Test.YtcdklpflgafokaaGreatDoorMg46
import Derived.Maps.Views
import Derived.Deep.RegionLaw
import Derived.Deep.RegionHeld3
import Derived.Outline
/-
  TableOf, the model's. (Written by gentab.py.)
-/

namespace Go.Proofs.YtcdklpflgafokaaGreatDoor
open Go.RowKit Go.Maps
set_option linter.unusedVariables false
set_option linter.unusedSimpArgs false

set_option maxHeartbeats 6400000 in
set_option maxRecDepth 100000 in
theorem specTableOf_any {a b : Dt} (ha : IsVal a) (hb : IsVal b) (hwt : a.wt + b.wt ≤ 1048576) (csa csb : List Value) (w : World) (ra : Rd w w.heap.size a csa) (rb : Rd w w.heap.size b csb) (f : Dt) (hf : TableR a b f) (d : Dt) (hd : Nary [2, 3] [a, b] f d) :
    Calls Tryz.prog 30 #[.agg csa.toArray, .agg csb.toArray] w (ToA w d) := by
  have HV := Lib.hid (And.intro (show ∀ y ∈ [a, b], IsVal y by simp; exact ⟨ha, hb⟩) (show ∀ y ∈ [a, b], y.wt ≤ 1048576 by simp; omega))
  have HD := Lib.hid hd
  have HF := Lib.hid hf
  obtain ⟨ay0, ay1, ay2, ay3, ay4, an4, ac4, ay5, an5, ac5, ay6, an6, ac6, rfl⟩ := ha.form ra
  obtain ⟨by0, by1, by2, by3, by4, bn4, bc4, by5, bn5, bc5, by6, bn6, bc6, rfl⟩ := hb.form rb
  have hel := el_rd hb rb
  obtain ⟨hn4, hq4, hx4⟩ := hel.lst_len
  subst hn4
  unfold maxLen at hx4
  have HEL := Lib.hid hel
  have hev := el_val hb
  have hew := el_wt hb
  have HEV := Lib.hid (And.intro hev (show Dt.wt (.lst b.el) ≤ 1048576 by omega))
  have HKa := Lib.hid (And.intro (kd_cell ha ra) (tx_cell ha ra))
  have HRa := Lib.hid ra
  have HKb := Lib.hid (And.intro (kd_cell hb rb) (tx_cell hb rb))
  have HRb := Lib.hid rb
  have HRL : Hid (RdL w w.heap.size [a, b] [.int .i64 ay0, .int .i64 ay1, .int .i64 ay2, .string ay3, .slice ay4 an4 ac4, .slice ay5 an5 ac5, .slice ay6 an6 ac6, .int .i64 by0, .int .i64 by1, .int .i64 by2, .string by3, .slice by4 b.el.length bc4, .slice by5 bn5 bc5, .slice by6 bn6 bc6]) := Lib.hid (rdl_2 ra (rdl_1 rb))
  have h0 := (((MSt.start w).new 28 7 #[.int .i64 ay0, .int .i64 ay1, .int .i64 ay2, .string ay3, .slice ay4 an4 ac4, .slice ay5 an5 ac5, .slice ay6 an6 ac6] rfl).new 28 7 #[.int .i64 by0, .int .i64 by1, .int .i64 by2, .string by3, .slice by4 b.el.length bc4, .slice by5 bn5 bc5, .slice by6 bn6 bc6] rfl).new 28 7 #[.int .i64 0, .int .i64 0, .int .i64 0, .string ⟨#[]⟩, .slice none 0 0, .slice none 0 0, .slice none 0 0] rfl
  simp only [World.size_alloc] at h0
  have H0 := Lib.hid h0
  clear h0 hd hf hwt hel hev hew ha hb ra rb
  go_enter Tryz.func30, Tryz.ntmps30
  obtain ⟨fA0, fA1, fA2, fA3, fA4, fA5, fA6, fAlt⟩ := box7 (MSt.box (MSt.nth (L1 := [_, _]) H0.out))
  obtain ⟨fB0, fB1, fB2, fB3, fB4, fB5, fB6, fBlt⟩ := box7 (MSt.box (MSt.nth (L1 := [_]) H0.out))
  go_wp2_with fail
  clear fA0 fA1 fA2 fA3 fA4 fA5 fA6 fAlt fB0 fB1 fB2 fB3 fB4 fB5 fB6 fBlt
  have h1 := ((H0.out.row_lit 28 7 2 #[.int .i64 ay0, .int .i64 ay1, .int .i64 ay2, .string ay3, .slice ay4 an4 ac4, .slice ay5 an5 ac5, .slice ay6 an6 ac6, .int .i64 by0, .int .i64 by1, .int .i64 by2, .string by3, .slice by4 b.el.length bc4, .slice by5 bn5 bc5, .slice by6 bn6 bc6] (by unfold maxLen; omega) rfl).row_lit 3 1 2 #[.int .i64 2, .int .i64 3] (by unfold maxLen; omega) rfl)
  simp only [World.size_alloc] at h1
  have HL1 := Lib.hid h1
  clear h1
  have hrd := lst_read (MSt.nth (L1 := [_]) HL1.out) (xs := [a, b]) rfl HRL.out
  have hrk := own_row (MSt.row HL1.out) (fun b hb => ((MSt.row HL1.out).lt b hb).2)
  refine (specCheck_any [a, b] HV.out.1 HV.out.2 [2, 3] rfl _ _ _ _ _ hrd hrk).mono ?_
  rintro e w1 ⟨⟨hok, rfl⟩ | ⟨ec, he, rfl⟩, hb⟩
  rotate_left
  all_goals clear hrd hrk
  · obtain rfl := HD.out.one (.err ec he)
    clear he
    have H1 := Lib.hid (((MSt.drop (MSt.drop HL1.out)).later hb).new 28 7 #[.int .i64 6, .int .i64 ec, .int .i64 0, .string ⟨#[]⟩, .slice none 0 0, .slice none 0 0, .slice none 0 0] rfl)
    have hz := hb.size
    first | simp at hz | skip
    clear hb
    obtain ⟨fR0, fR1, fR2, fR3, fR4, fR5, fR6, fRlt⟩ := box7 (MSt.box (MSt.nth (L1 := [_]) H1.out))
    obtain ⟨zR0, zR1, zR2, zR3, zR4, zR5, zR6⟩ := box7z (MSt.box (MSt.nth (L1 := [_]) H1.out))
    go_wp2_with fail
    obtain ⟨W7, hW, hg, y0, y1, y2, y3, y4, y5, y6⟩ := MSt.put (MSt.nth (L1 := [_]) H1.out) (.int .i64 6) (.int .i64 ec) (.int .i64 0) (.string ⟨#[]⟩) (.slice none 0 0) (.slice none 0 0) (.slice none 0 0)
    rw [← hW]
    refine bodyPost_ret (v := .agg #[.int .i64 6, .int .i64 ec, .int .i64 0, .string ⟨#[]⟩, .slice none 0 0, .slice none 0 0, .slice none 0 0]) (by simp [results, Tryz.results30, go_sem, y0, y1, y2, y3, y4, y5, y6]) rfl (toA_flat0 rfl hg.bel)
  have HH := Lib.hid (MSt.later (MSt.drop (MSt.drop HL1.out)) hb)
  have H1 := Lib.hid (((MSt.drop (MSt.drop HL1.out)).later hb).new 28 7 #[.int .i64 0, .int .i64 0, .int .i64 0, .string ⟨#[]⟩, .slice none 0 0, .slice none 0 0, .slice none 0 0] rfl)
  have hz := hb.size
  first | simp at hz | skip
  clear hb HL1 HH
  have HDD := Lib.hid (HD.out.one (.ok hok))
  have hkk := hok.2
  simp only [List.map_cons, List.map_nil, List.cons.injEq, and_true] at hkk
  have hts := txt_size (HV.out.1 a (by simp)) (hok.1 a (by simp)) hkk.1
  rw [HKa.out.2] at hts
  have hb8 := (lst_fine (HV.out.1 b (by simp)) (hok.1 b (by simp)) hkk.2).1
  obtain ⟨cc, hcc⟩ : ∃ cc, pcsB 32 ay3.data.toList = cc := ⟨_, rfl⟩
  have hcn : cc.length ≤ 21 := by rw [← hcc]; have h1 := pcsB_len 32 ay3.data.toList; have h2 : ay3.data.toList.length ≤ 20 := hts; omega
  have HCS : Hid (∀ s ∈ cc, s.size ≤ 1048576) := Lib.hid (by rw [← hcc]; intro s hs; have h1 := pcsB_size 32 _ s hs; have h2 : ay3.data.toList.length ≤ 20 := hts; omega)
  have HCC := Lib.hid (And.intro hcc (show colsOf a = cc by rw [colsOf_eq HKa.out.2, hcc]))
  clear hkk hok hcc
  have hts2 : ay3.size ≤ 1048576 := by omega
  obtain ⟨fA0, fA1, fA2, fA3, fA4, fA5, fA6, fAlt⟩ := box7 (MSt.box (MSt.nth (L1 := [_, _, _]) H1.out))
  obtain ⟨fB0, fB1, fB2, fB3, fB4, fB5, fB6, fBlt⟩ := box7 (MSt.box (MSt.nth (L1 := [_, _]) H1.out))
  go_wp2_with fail
  clear fA0 fA1 fA2 fA3 fA4 fA5 fA6 fAlt fB0 fB1 fB2 fB3 fB4 fB5 fB6 fBlt
  refine (specSplit_any ay3.data.toList 32 _ hts2).mono ?_
  rintro e w2 ⟨vC, rfl, hown, hb⟩
  rw [HCC.out.1] at hown
  obtain ⟨AC, qC, rfl⟩ := own_slice hown
  have H2 := Lib.hid (H1.out.add hb (rowA_at hown))
  clear hown hb
  have HCP := Lib.hid (own_cap (MSt.row H2.out))
  have hsC := H2.out.size
  go_wp2_with fail
  have H3 := Lib.hid (H2.out.new 28 7 #[.int .i64 5, .int .i64 0, .int .i64 0, .string ⟨#[]⟩, .slice none 0 0, .slice AC cc.length qC, .slice none 0 0] rfl)
  refine (l3Columns_any AC qC cc _ _ (own_row (MSt.row (MSt.nth (L1 := [_]) H3.out)) (fun b hb => ((MSt.row (MSt.nth (L1 := [_]) H3.out)).lt b hb).2)) (Nat.le_refl _) HCP.out.1 (by omega) HCS.out).mono ?_
  rintro e w4 ⟨bc, rfl, hbc, hb⟩
  have H4 := Lib.hid (H3.out.later hb)
  clear hb
  have HBC := Lib.hid hbc
  clear hbc
  cases bc
  · obtain rfl : d = errD 7 := HDD.out.trans (HF.out.one (.col (fun hh => absurd (HBC.out.2 (by rw [← HCC.out.2]; exact hh)) (by simp))))
    go_wp2_with fail
    refine (specErrorValue_any 7 _).mono ?_
    rintro e w5 ⟨rfl, hb⟩
    have H5 := Lib.hid (H4.out.later hb)
    clear hb
    obtain ⟨fR0, fR1, fR2, fR3, fR4, fR5, fR6, fRlt⟩ := box7 (MSt.box (MSt.nth (L1 := [_, _, _]) H5.out))
    obtain ⟨zR0, zR1, zR2, zR3, zR4, zR5, zR6⟩ := box7z (MSt.box (MSt.nth (L1 := [_, _, _]) H5.out))
    go_wp2_with fail
    obtain ⟨W7, hW, hg, y0, y1, y2, y3, y4, y5, y6⟩ := MSt.put (MSt.nth (L1 := [_, _, _]) H5.out) (.int .i64 6) (.int .i64 7) (.int .i64 0) (.string ⟨#[]⟩) (.slice none 0 0) (.slice none 0 0) (.slice none 0 0)
    rw [← hW]
    refine bodyPost_ret (v := .agg #[.int .i64 6, .int .i64 7, .int .i64 0, .string ⟨#[]⟩, .slice none 0 0, .slice none 0 0, .slice none 0 0]) (by simp [results, Tryz.results30, go_sem, y0, y1, y2, y3, y4, y5, y6]) rfl (toA_flat0 rfl hg.bel)
  · have HCK : Hid (ColsOk (colsOf a)) := Lib.hid (by rw [HCC.out.2]; exact HBC.out.1 (by trivial))
    go_wp2_with fail
    obtain ⟨gX, hgX⟩ : ∃ g, g = w2.heap.size := ⟨_, rfl⟩
    rw [← hgX] at H4 ⊢
    clear hgX
    have h2 := MSt.nth (L1 := [_, _]) (MSt.nilRow (MSt.subB H4.out (.cons_cons _ (.cons_cons _ (.cons _ (List.Sublist.refl _))))) 38 2)
    have HS : Hid (MSt w [boxA 28 7 gX [.int .i64 5, .int .i64 0, .int .i64 0, .string ⟨#[]⟩, .slice none 0 0, .slice AC cc.length qC, (.slice none 0 0)], rowA 38 2 (.slice none 0 0) 0 [], owLA ((b.el.take 0).map toRow) [] [], rowA 9 1 (.slice AC cc.length qC) cc.length (strV cc), boxA 28 7 (w.heap.size + 1 + 1) [.int .i64 0, .int .i64 0, .int .i64 0, .string ⟨#[]⟩, .slice none 0 0, .slice none 0 0, .slice none 0 0], boxA 28 7 (w.heap.size + 1) [.int .i64 by0, .int .i64 by1, .int .i64 by2, .string by3, .slice by4 b.el.length bc4, .slice by5 bn5 bc5, .slice by6 bn6 bc6], boxA 28 7 (w.heap.size) [.int .i64 ay0, .int .i64 ay1, .int .i64 ay2, .string ay3, .slice ay4 an4 ac4, .slice ay5 an5 ac5, .slice ay6 an6 ac6]] _) := Lib.hid h2
    clear h2
    go_loopw [8] (fun i wr => ∃ (j : Nat) (v : Value) (cl : List Value) (fp : List Nat), j ≤ b.el.length ∧ i = .int .i64 (j : Int) ∧ Hid (MSt w [boxA 28 7 gX [.int .i64 5, .int .i64 0, .int .i64 0, .string ⟨#[]⟩, .slice none 0 0, .slice AC cc.length qC, v], rowA 38 2 v j cl, owLA ((b.el.take j).map toRow) cl fp, rowA 9 1 (.slice AC cc.length qC) cc.length (strV cc), boxA 28 7 (w.heap.size + 1 + 1) [.int .i64 0, .int .i64 0, .int .i64 0, .string ⟨#[]⟩, .slice none 0 0, .slice none 0 0, .slice none 0 0], boxA 28 7 (w.heap.size + 1) [.int .i64 by0, .int .i64 by1, .int .i64 by2, .string by3, .slice by4 b.el.length bc4, .slice by5 bn5 bc5, .slice by6 bn6 bc6], boxA 28 7 (w.heap.size) [.int .i64 ay0, .int .i64 ay1, .int .i64 ay2, .string ay3, .slice ay4 an4 ac4, .slice ay5 an5 ac5, .slice ay6 an6 ac6]] wr) ∧ Hid (∀ x ∈ b.el.take j, RowLike cc.length x)) (fun i _ => b.el.length - (intOf i).toNat)
    case atStart => exact ⟨0, _, _, _, Nat.zero_le _, rfl, HS, Lib.hid (by simp)⟩
    case round =>
      obtain ⟨j, v, cl, fp, hj, rfl, H1, HE⟩ := hrel
      obtain ⟨A3, q3, rfl⟩ := own_slice (MSt.row (MSt.nth (L1 := [_]) H1.out))
      have hws := H1.out.size
      by_cases hlt : j < b.el.length
      · have hj2 : (j : Int) < (b.el.length : Int) := by omega
        obtain ⟨bb, o, cs, rfl, hbB, hrd, hlen, hcell⟩ := (HEL.out.below H1.out.bel).at (k := 7) (fun x hx' => (HEV.out.1 x hx').width) (by omega) j hlt
        have hxv := HEV.out.1 _ (List.getElem_mem hlt)
        obtain ⟨x, hx⟩ : ∃ x, x = b.el[j] := ⟨_, rfl⟩
        rw [← hx] at hrd hxv
        obtain ⟨uy0, uy1, uy2, uy3, uy4, un4, uc4, uy5, un5, uc5, uy6, un6, uc6, rfl⟩ := IsVal.form hxv hrd
        have hkd := (kd_cell hxv hrd).1
        have HX := Lib.hid (And.intro hx hkd)
        have h00 := hcell 0 (by omega)
        have h01 := hcell 1 (by omega)
        have h02 := hcell 2 (by omega)
        have h03 := hcell 3 (by omega)
        have h04 := hcell 4 (by omega)
        have h05 := hcell 5 (by omega)
        have h06 := hcell 6 (by omega)
        simp only [List.getElem?_cons_zero, List.getElem?_cons_succ, Nat.add_zero] at h00 h01 h02 h03 h04 h05 h06
        have hxw : x.wt ≤ 1048576 := by rw [hx]; have h1 := wts_in (List.getElem_mem hlt); have h2 := HEV.out.2; simp only [Dt.wt] at h2; omega
        have HXV := Lib.hid (And.intro hxv (And.intro hxw hrd))
        clear hrd hcell hlen hxv hx hkd hxw
        have hbw : bb < wr.heap.size := by omega
        obtain ⟨fB0, fB1, fB2, fB3, fB4, fB5, fB6, fBlt⟩ := box7 (MSt.box (MSt.nth (L1 := [_, _, _, _, _]) H1.out))
        go_wp2_with fail
        clear fB0 fB1 fB2 fB3 fB4 fB5 fB6 fBlt
        refine (l7Numbers_any HXV.out.1 HXV.out.2.1 _ _ (HXV.out.2.2.more hws)).mono ?_
        rintro e w2 ⟨AN, nN, qN, ns, bn, rfl, hown, hnN, hyes, hiff, hb⟩
        have H2 := Lib.hid (H1.out.add hb (rowA_at hown))
        have HY := Lib.hid (And.intro hyes hiff)
        clear hown hb hyes hiff h00 h01 h02 h03 h04 h05 h06 hbw
        cases bn
        · obtain ⟨fX0, fX1, fX2, fX3, fX4, fX5, fX6, fXlt⟩ := box7 (MSt.box (MSt.nth (L1 := [_]) H2.out))
          go_wp2_with fail
          obtain rfl : d = errD 4 := HDD.out.trans (HF.out.one (.typ HCK.out (fun hh => absurd (HY.out.2.2 (by have h1 := hh _ (List.getElem_mem hlt); rw [← HX.out.1] at h1; exact ⟨h1.1, h1.2.2⟩)) (by simp))))
          refine (specErrorValue_any 4 _).mono ?_
          rintro e w3 ⟨rfl, hb⟩
          have H3 := Lib.hid (H2.out.later hb)
          clear hb
          clear fX0 fX1 fX2 fX3 fX4 fX5 fX6 fXlt
          obtain ⟨fR0, fR1, fR2, fR3, fR4, fR5, fR6, fRlt⟩ := box7 (MSt.box (MSt.nth (L1 := [_, _, _, _, _]) H3.out))
          obtain ⟨zR0, zR1, zR2, zR3, zR4, zR5, zR6⟩ := box7z (MSt.box (MSt.nth (L1 := [_, _, _, _, _]) H3.out))
          go_wp2_with fail
          obtain ⟨W7, hW, hg, y0, y1, y2, y3, y4, y5, y6⟩ := MSt.put (MSt.nth (L1 := [_, _, _, _, _]) H3.out) (.int .i64 6) (.int .i64 4) (.int .i64 0) (.string ⟨#[]⟩) (.slice none 0 0) (.slice none 0 0) (.slice none 0 0)
          rw [← hW]
          refine bodyPost_ret (v := .agg #[.int .i64 6, .int .i64 4, .int .i64 0, .string ⟨#[]⟩, .slice none 0 0, .slice none 0 0, .slice none 0 0]) (by simp [results, Tryz.results30, go_sem, y0, y1, y2, y3, y4, y5, y6]) rfl (toA_flat0 rfl hg.bel)
        · by_cases hnn : nN = cc.length
          rotate_left
          · have hn3 : ((nN : Int) != (cc.length : Int)) = true := by simp; omega
            obtain ⟨fX0, fX1, fX2, fX3, fX4, fX5, fX6, fXlt⟩ := box7 (MSt.box (MSt.nth (L1 := [_]) H2.out))
            go_wp2_with fail
            obtain rfl : d = errD 4 := HDD.out.trans (HF.out.one (.typ HCK.out (fun hh => hnn (by have h1 := hh _ (List.getElem_mem hlt); rw [← HX.out.1, HCC.out.2] at h1; rw [(HY.out.1 (by trivial)).2]; exact h1.2.1))))
            refine (specErrorValue_any 4 _).mono ?_
            rintro e w3 ⟨rfl, hb⟩
            have H3 := Lib.hid (H2.out.later hb)
            clear hb
            clear fX0 fX1 fX2 fX3 fX4 fX5 fX6 fXlt
            obtain ⟨fR0, fR1, fR2, fR3, fR4, fR5, fR6, fRlt⟩ := box7 (MSt.box (MSt.nth (L1 := [_, _, _, _, _]) H3.out))
            obtain ⟨zR0, zR1, zR2, zR3, zR4, zR5, zR6⟩ := box7z (MSt.box (MSt.nth (L1 := [_, _, _, _, _]) H3.out))
            go_wp2_with fail
            obtain ⟨W7, hW, hg, y0, y1, y2, y3, y4, y5, y6⟩ := MSt.put (MSt.nth (L1 := [_, _, _, _, _]) H3.out) (.int .i64 6) (.int .i64 4) (.int .i64 0) (.string ⟨#[]⟩) (.slice none 0 0) (.slice none 0 0) (.slice none 0 0)
            rw [← hW]
            refine bodyPost_ret (v := .agg #[.int .i64 6, .int .i64 4, .int .i64 0, .string ⟨#[]⟩, .slice none 0 0, .slice none 0 0, .slice none 0 0]) (by simp [results, Tryz.results30, go_sem, y0, y1, y2, y3, y4, y5, y6]) rfl (toA_flat0 rfl hg.bel)
          have hn3 : ((nN : Int) != (cc.length : Int)) = false := by simp; omega
          have HNN := Lib.hid hnn
          clear hnn
          have hrl : RowLike cc.length x := ⟨(HY.out.2.1 (by trivial)).1, by rw [← (HY.out.1 (by trivial)).2, HNN.out], (HY.out.2.1 (by trivial)).2⟩
          have hnx : (b.el.take (j + 1)).map toRow = (b.el.take j).map toRow ++ [.agg [.lst (ns.map .int), .lst []]] := by
            rw [List.take_succ_eq_append_getElem hlt, List.map_append, ← HX.out.1, List.map_cons, List.map_nil, toRow_mk HXV.out.1, (HY.out.1 (by trivial)).1]
          have hnl : nN = (ns.map Dt.int).length := by rw [(HY.out.1 (by trivial)).1, List.length_map]; exact (HY.out.1 (by trivial)).2
          have HRN := Lib.hid (And.intro hrl (And.intro hnx hnl))
          clear hrl hnx hnl
          have h3 := (H2.out.close0 (xs := ns.map .int) (fun w' => OwL.ints w' ns) HRN.out.2.2).asRow7
          have H3 := Lib.hid h3
          have HO3 := Lib.hid (MSt.read h3).one
          clear h3 H2
          obtain ⟨fX0, fX1, fX2, fX3, fX4, fX5, fX6, fXlt⟩ := box7 (MSt.box (MSt.nth (L1 := [_]) H3.out))
          obtain ⟨zX0, zX1, zX2, zX3, zX4, zX5, zX6⟩ := box7z (MSt.box (MSt.nth (L1 := [_]) H3.out))
          go_wp2_with (at_builtin; refine appR _ rfl (.tmp 58) (.tmp 61) rfl w.heap.size (.slice A3 j q3) j cl rfl (((MSt.nth (L1 := [_, _]) H3.out).alloc _).row) (some ⟨w2.heap.size, 0, none⟩) 1 1 (w2.heap.size + 1) [.slice AN nN qN, .slice none 0 0] rfl rfl (row_new w2 #[.slice AN nN qN, .slice none 0 0] 38) HO3.out (by omega) (by have := H3.out.size; simp; omega) ?_; intro v5 w5 hown5 hgr5 hn5; obtain ⟨A9, q9, rfl⟩ := own_slice hown5; have h5 := MSt.nth (L1 := [_, _]) (MSt.push (MSt.nth (L1 := [_, _]) (MSt.nth (L1 := [_, _]) (MSt.nth (L1 := [_, _, _]) (MSt.app (MSt.nth (L1 := [_, _]) (H3.out.alloc (.cells #[.slice AN nN qN, .slice none 0 0] 38))) hgr5 hown5 hn5.2))))); rw [← HRN.out.2.1] at h5; have H5 := Lib.hid h5; clear h5 hown5 hgr5 hn5 fX0 fX1 fX2 fX3 fX4 fX5 fX6 fXlt zX0 zX1 zX2 zX3 zX4 zX5 zX6; obtain ⟨p0, p1, p2, p3, p4, p5, p6, plt⟩ := box7 (MSt.box H5.out); obtain ⟨o0, o1, o2, o3, o4, o5, o6⟩ := box7z (MSt.box H5.out))
          have H6 := Lib.hid (H5.out.set1 6 (.slice A9 (j + 1) q9))
          exact ⟨⟨j + 1, _, _, _, by omega, by simp, H6, Lib.hid (mem_take_next hlt HE.out (by rw [← HX.out.1]; exact HRN.out.1))⟩, by simp [intOf]; omega⟩
      · obtain rfl : j = b.el.length := by omega
        have he := HE.out
        rw [List.take_length] at he H1
        obtain rfl : d = tblD cc (b.el.map toRow) := by rw [← HCC.out.2]; exact HDD.out.trans (HF.out.one (.ok HCK.out (by rw [HCC.out.2]; exact he)))
        clear he
        obtain ⟨fX0, fX1, fX2, fX3, fX4, fX5, fX6, fXlt⟩ := box7 (MSt.box H1.out)
        obtain ⟨fB0, fB1, fB2, fB3, fB4, fB5, fB6, fBlt⟩ := box7 (MSt.box (MSt.nth (L1 := [_, _, _, _, _]) H1.out))
        obtain ⟨fR0, fR1, fR2, fR3, fR4, fR5, fR6, fRlt⟩ := box7 (MSt.box (MSt.nth (L1 := [_, _, _, _]) H1.out))
        obtain ⟨zR0, zR1, zR2, zR3, zR4, zR5, zR6⟩ := box7z (MSt.box (MSt.nth (L1 := [_, _, _, _]) H1.out))
        go_wp2_with fail
        obtain ⟨W7, hW, hg, y0, y1, y2, y3, y4, y5, y6⟩ := MSt.put (MSt.nth (L1 := [_, _, _, _]) H1.out) (.int .i64 5) (.int .i64 0) (.int .i64 0) (.string ⟨#[]⟩) (.slice none 0 0) (.slice AC cc.length qC) (.slice A3 b.el.length q3)
        rw [← hW]
        refine bodyPost_ret (v := .agg #[.int .i64 5, .int .i64 0, .int .i64 0, .string ⟨#[]⟩, .slice none 0 0, .slice AC cc.length qC, .slice A3 b.el.length q3]) (by simp [results, Tryz.results30, go_sem, y0, y1, y2, y3, y4, y5, y6]) rfl (MSt.give (MSt.tbl ((MSt.nth (L1 := [_, _, _]) ((MSt.nth (L1 := [_, _, _]) (MSt.nth (L1 := [_, _, _]) hg)).close (by rw [List.length_map]))).close0 (fun w' => OwL.strs w' cc) (by simp))))

end Go.Proofs.YtcdklpflgafokaaGreatDoor
