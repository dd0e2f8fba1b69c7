/-
  Texts that the proof rests on, put together: SrcS.
-/
import Derived.Test.YtdnneilbgekccabGreatMgS46
import Derived.Test.YtdnneilbgekccabGreatMgS41
import Derived.Test.YtdnneilbgekccabGreatMgS39
import Derived.Test.YtdnneilbgekccabGreatMgS22
import Derived.Test.YtdnneilbgekccabGreatMgS19
import Derived.Maps.Views
import Derived.Deep.RegionLaw
import Derived.Deep.RegionHeld3
import Derived.Outline
/-
  SourceTable, the model's. (Written by gentab.py.)
-/

namespace Go.Proofs.YtdnneilbgekccabGreat
open Go.RowKit Go.Maps
set_option linter.unusedVariables false
set_option linter.unusedSimpArgs false

set_option maxHeartbeats 6400000 in
set_option maxRecDepth 100000 in
theorem specSource_any {t : Dt} (ht : IsVal t) (hw : t.wt ≤ 1048576) (c : Int) (cs : List Value) (w : World) (h : Rd w w.heap.size t cs) (D : Dt) (hD : D = srcD c t) :
    Calls Tryz.prog 18 #[.int .i64 c, .agg cs.toArray] w (ToA w D) := by
  have HDD := Lib.hid hD
  obtain ⟨y0, y1, y2, y3, y4, n4, c4, y5, n5, c5, y6, n6, c6, rfl⟩ := ht.form h
  have hkk := kd_cell ht h
  have HKD := Lib.hid hkk.1
  have HT := Lib.hid (TabR.of ht h (Nat.le_refl _))
  obtain ⟨hn6, hq6, hx6⟩ := HT.out.2.lst_len
  subst hn6
  obtain ⟨hn5, hq5, -⟩ := HT.out.1.lst_len
  rw [List.length_map] at hn5
  subst hn5
  have hwp := wt_parts8 ht
  have hr12 : t.rw.length ≤ 1048576 := by omega
  have hc12 : t.co.length ≤ 1048576 := by simp only [Dt.wt, List.length_map] at hwp; omega
  clear hwp hx6
  have HV := Lib.hid (And.intro ht (And.intro hw h))
  have h0 := ((MSt.start w).new 28 7 #[.int .i64 y0, .int .i64 y1, .int .i64 y2, .string y3, .slice y4 n4 c4, .slice y5 t.co.length c5, .slice y6 t.rw.length c6] rfl).new 28 7 #[.int .i64 0, .int .i64 0, .int .i64 0, .string ⟨#[]⟩, .slice none 0 0, .slice none 0 0, .slice none 0 0] rfl
  simp only [World.size_alloc] at h0
  have H0 := Lib.hid h0
  clear h0 ht hw h hD hkk
  go_enter Tryz.func18, Tryz.ntmps18
  by_cases h5 : y0 = 5
  rotate_left
  · have hne : (y0 != 5) = true := by simpa using h5
    obtain rfl : D = errD 4 := HDD.out.trans (srcD_no (fun hh => h5 (by rw [← HKD.out]; exact hh.1.1)))
    obtain ⟨fA0, fA1, fA2, fA3, fA4, fA5, fA6, fAlt⟩ := box7 (MSt.box (MSt.nth (L1 := [_]) H0.out))
    go_wp2_with fail
    refine (specErrorValue_any 4 _).mono ?_
    rintro e w1 ⟨rfl, hb⟩
    have H1 := Lib.hid (H0.out.later hb)
    clear hb
    clear fA0 fA1 fA2 fA3 fA4 fA5 fA6 fAlt
    obtain ⟨fR0, fR1, fR2, fR3, fR4, fR5, fR6, fRlt⟩ := box7 (MSt.box H1.out)
    obtain ⟨zR0, zR1, zR2, zR3, zR4, zR5, zR6⟩ := box7z (MSt.box H1.out)
    go_wp2_with fail
    obtain ⟨W7, hW, hg, y0, y1, y2, y3, y4, y5, y6⟩ := MSt.put H1.out (.int .i64 6) (.int .i64 4) (.int .i64 0) (.string ⟨#[]⟩) (.slice none 0 0) (.slice none 0 0) (.slice none 0 0)
    rw [← hW]
    refine bodyPost_ret (v := .agg #[.int .i64 6, .int .i64 4, .int .i64 0, .string ⟨#[]⟩, .slice none 0 0, .slice none 0 0, .slice none 0 0]) (by simp [results, Tryz.results18, go_sem, y0, y1, y2, y3, y4, y5, y6]) rfl (toA_flat0 rfl hg.bel)
  subst h5
  obtain ⟨fA0, fA1, fA2, fA3, fA4, fA5, fA6, fAlt⟩ := box7 (MSt.box (MSt.nth (L1 := [_]) H0.out))
  go_wp2_with fail
  clear fA0 fA1 fA2 fA3 fA4 fA5 fA6 fAlt
  refine (specValidV HV.out.1 HV.out.2.1 _ _ ((HV.out.2.2.below H0.out.bel).more H0.out.size)).mono ?_
  rintro e w1 ⟨bv, rfl, hbv, hb⟩
  have H1 := Lib.hid (H0.out.later hb)
  clear hb
  have HBV := Lib.hid hbv
  clear hbv
  cases bv
  · obtain rfl : D = errD 4 := HDD.out.trans (srcD_no (fun hh => absurd (HBV.out.2 hh.1.2) (by simp)))
    obtain ⟨fA0, fA1, fA2, fA3, fA4, fA5, fA6, fAlt⟩ := box7 (MSt.box (MSt.nth (L1 := [_]) H1.out))
    go_wp2_with fail
    refine (specErrorValue_any 4 _).mono ?_
    rintro e w2 ⟨rfl, hb⟩
    have H2 := Lib.hid (H1.out.later hb)
    clear hb
    clear fA0 fA1 fA2 fA3 fA4 fA5 fA6 fAlt
    obtain ⟨fR0, fR1, fR2, fR3, fR4, fR5, fR6, fRlt⟩ := box7 (MSt.box H2.out)
    obtain ⟨zR0, zR1, zR2, zR3, zR4, zR5, zR6⟩ := box7z (MSt.box H2.out)
    go_wp2_with fail
    obtain ⟨W7, hW, hg, y0, y1, y2, y3, y4, y5, y6⟩ := MSt.put H2.out (.int .i64 6) (.int .i64 4) (.int .i64 0) (.string ⟨#[]⟩) (.slice none 0 0) (.slice none 0 0) (.slice none 0 0)
    rw [← hW]
    refine bodyPost_ret (v := .agg #[.int .i64 6, .int .i64 4, .int .i64 0, .string ⟨#[]⟩, .slice none 0 0, .slice none 0 0, .slice none 0 0]) (by simp [results, Tryz.results18, go_sem, y0, y1, y2, y3, y4, y5, y6]) rfl (toA_flat0 rfl hg.bel)
  · by_cases hc : c < 0
    · obtain rfl : D = errD 4 := HDD.out.trans (srcD_no (fun hh => hh.2 hc))
      obtain ⟨fA0, fA1, fA2, fA3, fA4, fA5, fA6, fAlt⟩ := box7 (MSt.box (MSt.nth (L1 := [_]) H1.out))
      go_wp2_with fail
      refine (specErrorValue_any 4 _).mono ?_
      rintro e w2 ⟨rfl, hb⟩
      have H2 := Lib.hid (H1.out.later hb)
      clear hb
      clear fA0 fA1 fA2 fA3 fA4 fA5 fA6 fAlt
      obtain ⟨fR0, fR1, fR2, fR3, fR4, fR5, fR6, fRlt⟩ := box7 (MSt.box H2.out)
      obtain ⟨zR0, zR1, zR2, zR3, zR4, zR5, zR6⟩ := box7z (MSt.box H2.out)
      go_wp2_with fail
      obtain ⟨W7, hW, hg, y0, y1, y2, y3, y4, y5, y6⟩ := MSt.put H2.out (.int .i64 6) (.int .i64 4) (.int .i64 0) (.string ⟨#[]⟩) (.slice none 0 0) (.slice none 0 0) (.slice none 0 0)
      rw [← hW]
      refine bodyPost_ret (v := .agg #[.int .i64 6, .int .i64 4, .int .i64 0, .string ⟨#[]⟩, .slice none 0 0, .slice none 0 0, .slice none 0 0]) (by simp [results, Tryz.results18, go_sem, y0, y1, y2, y3, y4, y5, y6]) rfl (toA_flat0 rfl hg.bel)
    · obtain rfl : D = tblD t.co (srcF c 0 t.rw) := HDD.out.trans (srcD_yes ⟨HKD.out, HBV.out.1 (by trivial)⟩ hc)
      obtain ⟨fA0, fA1, fA2, fA3, fA4, fA5, fA6, fAlt⟩ := box7 (MSt.box (MSt.nth (L1 := [_]) H1.out))
      go_wp2_with fail
      clear fA0 fA1 fA2 fA3 fA4 fA5 fA6 fAlt
      refine (l3Copy_any HV.out.1 HV.out.2.1 _ _ ((HV.out.2.2.below H1.out.bel).more H1.out.size)).mono ?_
      rintro e wS ⟨csT, fpT, rfl, how, hnf, hb⟩
      have h2 := H1.out.add hb (owA_at how hnf)
      obtain ⟨s4, s5, s6, f4, f5, f6, rfl, h3⟩ := h2.untab (tbl_eq HV.out.1 HKD.out (HBV.out.1 (by trivial)))
      obtain ⟨A5, q5, e5⟩ := ow_lst1 (MSt.nth (L1 := [_]) h3).1.head.1
      obtain ⟨A4, q4, e4⟩ := ow_lst1 (MSt.nth (L1 := [_, _]) h3).1.head.1
      obtain ⟨A6, q6, eR, kR, cl, fR, rfl, h4⟩ := h3.unlst
      injection e5 with e5 _
      injection e4 with e4 _
      rw [List.length_map] at e5
      rw [List.length_nil] at e4
      subst e4 e5
      have h5 := MSt.nth (L1 := [_, _]) (MSt.nth (L1 := [_, _]) (MSt.drop ((h4.new 28 7 #[.int .i64 5, .int .i64 0, .int .i64 0, .string ⟨#[]⟩, .slice A4 0 q4, .slice A5 t.co.length q5, .slice A6 t.rw.length q6] rfl).nilRow 0 0)))
      have hwS := MSt.size h4
      clear h2 h3 h4 how hnf hb
      have HS : Hid (MSt w [boxA 28 7 wS.heap.size [.int .i64 5, .int .i64 0, .int .i64 0, .string ⟨#[]⟩, .slice A4 0 q4, .slice A5 t.co.length q5, .slice A6 t.rw.length q6], rowA eR kR (.slice A6 t.rw.length q6) t.rw.length ([] ++ cl), owLA (srcF c 0 (t.rw.take 0)) [] [], owLA (t.rw.drop 0) cl fR, owA (.lst (t.co.map .str)) [.slice A5 t.co.length q5] f5, owA (.lst []) [.slice A4 0 q4] f4, boxA 28 7 (w.heap.size + 1) [.int .i64 0, .int .i64 0, .int .i64 0, .string ⟨#[]⟩, .slice none 0 0, .slice none 0 0, .slice none 0 0], boxA 28 7 w.heap.size [.int .i64 5, .int .i64 y1, .int .i64 y2, .string y3, .slice y4 n4 c4, .slice y5 t.co.length c5, .slice y6 t.rw.length c6]] _) := Lib.hid h5
      clear h5
      go_wp2_with fail
      go_loopw [6] (fun i wr => ∃ (j : Nat) (clD clT : List Value) (fpD fpT : List Nat), j ≤ t.rw.length ∧ i = .int .i64 (j : Int) ∧ Hid (clD.length = j * 2) ∧ Hid (MSt w [boxA 28 7 wS.heap.size [.int .i64 5, .int .i64 0, .int .i64 0, .string ⟨#[]⟩, .slice A4 0 q4, .slice A5 t.co.length q5, .slice A6 t.rw.length q6], rowA eR kR (.slice A6 t.rw.length q6) t.rw.length (clD ++ clT), owLA (srcF c 0 (t.rw.take j)) clD fpD, owLA (t.rw.drop j) clT fpT, owA (.lst (t.co.map .str)) [.slice A5 t.co.length q5] f5, owA (.lst []) [.slice A4 0 q4] f4, boxA 28 7 (w.heap.size + 1) [.int .i64 0, .int .i64 0, .int .i64 0, .string ⟨#[]⟩, .slice none 0 0, .slice none 0 0, .slice none 0 0], boxA 28 7 w.heap.size [.int .i64 5, .int .i64 y1, .int .i64 y2, .string y3, .slice y4 n4 c4, .slice y5 t.co.length c5, .slice y6 t.rw.length c6]] wr)) (fun i _ => t.rw.length - (intOf i).toNat)
      case atStart => exact ⟨0, [], cl, [], fR, Nat.zero_le _, rfl, Lib.hid rfl, HS⟩
      case round =>
        obtain ⟨j, clD, clT, fpD, fpT, hj, rfl, HCD, H1⟩ := hrel
        by_cases hlt : j < t.rw.length
        · have hxr := rw_val HV.out.1 _ (List.getElem_mem hlt)
          have hnx := srcF_next (c := c) hlt
          have hdr := List.drop_eq_getElem_cons hlt
          obtain ⟨x, hx⟩ : ∃ x, x = t.rw[j] := ⟨_, rfl⟩
          rw [← hx] at hxr hnx hdr
          obtain ⟨ns, os, rfl, hos⟩ := hxr
          rw [srcRow_mk] at hnx
          have h1 := MSt.nth (L1 := [_, _, _]) H1.out
          rw [hdr] at h1
          obtain ⟨c1, clR, f1, fpR, rfl, rfl, -, h2⟩ := h1.uncons
          obtain ⟨A0, c0, s1, f0, rfl, h3⟩ := h2.unrow
          have hrow := MSt.row (MSt.nth (L1 := [_, _, _]) h3)
          obtain ⟨gR, cR, he, -, -⟩ := hrow.form (by omega)
          injection he with e1 e2 e3
          subst e1 e3
          obtain ⟨fC, zC, hgl⟩ := own_cellAt hrow (mid_get HCD.out)
          have h4 := MSt.row2s ((MSt.close0 (MSt.row_lit h3 77 2 1 #[.int .i64 c, .int .i64 (j : Int)] (by unfold maxLen; omega) rfl) (xs := orgsD [(c, (j : Int))]) (fun w' => orgs_owl w' [(c, (j : Int))]) rfl).swap)
          have h5 := MSt.rowSet (MSt.nth (L1 := [_, _, _]) h4) (j * 2 + 1) [.slice (some ⟨wr.heap.size, 0, none⟩) 1 1]
          rw [mid_set HCD.out] at h5
          simp only [World.setCells] at h5
          have h6 := MSt.nth (L1 := [_, _, _]) (MSt.push (MSt.nth (L1 := [_, _]) (MSt.nth (L1 := [_, _]) (MSt.nth (L1 := [_, _, _, _]) h5))))
          rw [← hnx, World.setCell_alloc_past _ _ _ _ hgl] at h6
          have H6 := Lib.hid h6
          have hj2 : (j : Int) < (t.rw.length : Int) := by omega
          have hws := H1.out.size
          clear h1 h2 h3 h4 h5 h6 hrow hnx hdr hx hos
          obtain ⟨fX0, fX1, fX2, fX3, fX4, fX5, fX6, fXlt⟩ := box7 (MSt.box H1.out)
          go_wp2_with fail
          exact ⟨⟨j + 1, _, clR, _, fpR, by omega, by simp, Lib.hid (by rw [List.length_append, HCD.out]; simp only [List.length_cons, List.length_nil]; omega), H6⟩, by simp [intOf]; omega⟩
        · obtain rfl : j = t.rw.length := by omega
          have h1 := MSt.nth (L1 := [_, _, _]) H1.out
          rw [List.take_length, List.drop_length] at h1
          obtain ⟨rfl, h2⟩ := h1.unnil
          rw [List.append_nil] at h2
          have h3 := MSt.close (MSt.nth (L1 := [_, _]) (MSt.nth (L1 := [_, _]) h2)) (srcF_len c 0 t.rw).symm
          obtain ⟨fp, h4⟩ := MSt.retab (MSt.nth (L1 := [_, _, _]) (MSt.nth (L1 := [_, _]) h3))
          have H2 := Lib.hid h4
          clear h1 h2 h3 h4 H1 HCD
          obtain ⟨fX0, fX1, fX2, fX3, fX4, fX5, fX6, fXlt⟩ := box7 (MSt.box (MSt.nth (L1 := [_]) H2.out))
          obtain ⟨fR0, fR1, fR2, fR3, fR4, fR5, fR6, fRlt⟩ := box7 (MSt.box (MSt.nth (L1 := [_, _]) H2.out))
          obtain ⟨zR0, zR1, zR2, zR3, zR4, zR5, zR6⟩ := box7z (MSt.box (MSt.nth (L1 := [_, _]) H2.out))
          go_wp2_with fail
          obtain ⟨W7, hW, hg, y0, y1, y2, y3, y4, y5, y6⟩ := MSt.put (MSt.nth (L1 := [_, _]) H2.out) (.int .i64 5) (.int .i64 0) (.int .i64 0) (.string ⟨#[]⟩) (.slice A4 0 q4) (.slice A5 t.co.length q5) (.slice A6 t.rw.length q6)
          rw [← hW]
          refine bodyPost_ret (v := .agg #[.int .i64 5, .int .i64 0, .int .i64 0, .string ⟨#[]⟩, .slice A4 0 q4, .slice A5 t.co.length q5, .slice A6 t.rw.length q6]) (by simp [results, Tryz.results18, go_sem, y0, y1, y2, y3, y4, y5, y6]) rfl (MSt.nth (L1 := [_]) hg).give

end Go.Proofs.YtdnneilbgekccabGreat
