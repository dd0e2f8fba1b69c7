/-
  Texts that the proof rests on, put together: SrcI, SrcS, ResI.
-/
import Derived.Test.YtabcmnlmmpbmnaaGreatMgS44
import Derived.Test.YtabcmnlmmpbmnaaGreatMgS42
import Derived.Test.YtabcmnlmmpbmnaaGreatMgS36
import Derived.Test.YtabcmnlmmpbmnaaGreatMgS43
import Derived.Maps.Views
import Derived.Deep.RegionLaw
import Derived.Deep.RegionHeld3
import Derived.Outline
import Derived.Test.YtabcmnlmmpbmnaaGreatMgS35
import Derived.Test.YtabcmnlmmpbmnaaGreatMgS17
import Derived.Test.YtabcmnlmmpbmnaaGreatMgS14
import Derived.Test.YtabcmnlmmpbmnaaGreatMgS37
/-
  SourceTable, the program's. (Written by gentab.py.)
-/

namespace Go.Proofs.YtabcmnlmmpbmnaaGreat
open Go.RowKit Go.Maps
set_option linter.unusedVariables false
set_option linter.unusedSimpArgs false

set_option maxHeartbeats 6400000 in
set_option maxRecDepth 100000 in
theorem implSource_any {t : Dt} (ht : IsVal t) (hw : t.wt ≤ 1048576) (c : Int) (cs : List Value) (w : World) (h : Rd w w.heap.size t cs) (D : Dt) (hD : D = srcD c t) :
    Calls Tryz.prog 38 #[.int .i64 c, .agg cs.toArray] w (ToA w D) := by
  have HDD := Lib.hid hD
  obtain ⟨y0, y1, y2, y3, y4, n4, c4, y5, n5, c5, y6, n6, c6, rfl⟩ := ht.form h
  have hkk := kd_cell ht h
  have HKD := Lib.hid hkk.1
  have HT := Lib.hid (TabR.of ht h (Nat.le_refl _))
  obtain ⟨hn6, hq6, hx6⟩ := HT.out.2.lst_len
  subst hn6
  obtain ⟨hn5, hq5, -⟩ := HT.out.1.lst_len
  rw [List.length_map] at hn5
  subst hn5
  have hwp := wt_parts8 ht
  have hr12 : t.rw.length ≤ 1048576 := by omega
  have hc12 : t.co.length ≤ 1048576 := by simp only [Dt.wt, List.length_map] at hwp; omega
  clear hwp hx6
  have HV := Lib.hid (And.intro ht (And.intro hw h))
  have h0 := ((MSt.start w).new 28 7 #[.int .i64 y0, .int .i64 y1, .int .i64 y2, .string y3, .slice y4 n4 c4, .slice y5 t.co.length c5, .slice y6 t.rw.length c6] rfl).new 28 7 #[.int .i64 0, .int .i64 0, .int .i64 0, .string ⟨#[]⟩, .slice none 0 0, .slice none 0 0, .slice none 0 0] rfl
  simp only [World.size_alloc] at h0
  have H0 := Lib.hid h0
  clear h0 ht hw h hD hkk
  go_enter Tryz.func38, Tryz.ntmps38
  obtain ⟨fA0, fA1, fA2, fA3, fA4, fA5, fA6, fAlt⟩ := box7 (MSt.box (MSt.nth (L1 := [_]) H0.out))
  go_wp2_with fail
  clear fA0 fA1 fA2 fA3 fA4 fA5 fA6 fAlt
  refine (validTableI_any HV.out.1 HV.out.2.1 _ _ _ _ _ _ _ _ _ _ _ _ _ _ ((HV.out.2.2.below H0.out.bel).more H0.out.size)).mono ?_
  rintro e w2 ⟨v, b, rfl, hv, hb⟩
  have H1 := Lib.hid (H0.out.later hb)
  have HVT := Lib.hid hv
  clear hb hv
  cases b
  · obtain ⟨hno, A7, n7, c7, A8, n8, c8, rfl⟩ := HVT.out.ff
    obtain rfl : D = errD 4 := HDD.out.trans (srcD_no (fun hh => hno hh.1))
    clear hno HVT
    obtain ⟨fA0, fA1, fA2, fA3, fA4, fA5, fA6, fAlt⟩ := box7 (MSt.box (MSt.nth (L1 := [_]) H1.out))
    go_wp2_with fail
    have H2 := Lib.hid (H1.out.new 101 2 #[.slice A7 n7 c7, .slice A8 n8 c8] rfl)
    clear fA0 fA1 fA2 fA3 fA4 fA5 fA6 fAlt
    refine (implErrorValue_any 4 _).mono ?_
    rintro e w3 ⟨rfl, hb⟩
    have H3 := Lib.hid (H2.out.later hb)
    clear hb
    obtain ⟨fR0, fR1, fR2, fR3, fR4, fR5, fR6, fRlt⟩ := box7 (MSt.box (MSt.nth (L1 := [_]) H3.out))
    obtain ⟨zR0, zR1, zR2, zR3, zR4, zR5, zR6⟩ := box7z (MSt.box (MSt.nth (L1 := [_]) H3.out))
    go_wp2_with fail
    obtain ⟨W7, hW, hg, y0, y1, y2, y3, y4, y5, y6⟩ := MSt.put (MSt.nth (L1 := [_]) H3.out) (.int .i64 6) (.int .i64 4) (.int .i64 0) (.string ⟨#[]⟩) (.slice none 0 0) (.slice none 0 0) (.slice none 0 0)
    rw [← hW]
    refine bodyPost_ret (v := .agg #[.int .i64 6, .int .i64 4, .int .i64 0, .string ⟨#[]⟩, .slice none 0 0, .slice none 0 0, .slice none 0 0]) (by simp [results, Tryz.results38, go_sem, y0, y1, y2, y3, y4, y5, y6]) rfl (toA_flat0 rfl hg.bel)
  · obtain ⟨hyes, rfl⟩ := HVT.out.tt
    have HYS := Lib.hid hyes
    clear hyes HVT
    by_cases hc : c < 0
    · obtain rfl : D = errD 4 := HDD.out.trans (srcD_no (fun hh => hh.2 hc))
      obtain ⟨fA0, fA1, fA2, fA3, fA4, fA5, fA6, fAlt⟩ := box7 (MSt.box (MSt.nth (L1 := [_]) H1.out))
      go_wp2_with fail
      have H2 := Lib.hid (H1.out.new 101 2 #[.slice y5 t.co.length c5, .slice y6 t.rw.length c6] rfl)
      clear fA0 fA1 fA2 fA3 fA4 fA5 fA6 fAlt
      refine (implErrorValue_any 4 _).mono ?_
      rintro e w3 ⟨rfl, hb⟩
      have H3 := Lib.hid (H2.out.later hb)
      clear hb
      obtain ⟨fR0, fR1, fR2, fR3, fR4, fR5, fR6, fRlt⟩ := box7 (MSt.box (MSt.nth (L1 := [_]) H3.out))
      obtain ⟨zR0, zR1, zR2, zR3, zR4, zR5, zR6⟩ := box7z (MSt.box (MSt.nth (L1 := [_]) H3.out))
      go_wp2_with fail
      obtain ⟨W7, hW, hg, y0, y1, y2, y3, y4, y5, y6⟩ := MSt.put (MSt.nth (L1 := [_]) H3.out) (.int .i64 6) (.int .i64 4) (.int .i64 0) (.string ⟨#[]⟩) (.slice none 0 0) (.slice none 0 0) (.slice none 0 0)
      rw [← hW]
      refine bodyPost_ret (v := .agg #[.int .i64 6, .int .i64 4, .int .i64 0, .string ⟨#[]⟩, .slice none 0 0, .slice none 0 0, .slice none 0 0]) (by simp [results, Tryz.results38, go_sem, y0, y1, y2, y3, y4, y5, y6]) rfl (toA_flat0 rfl hg.bel)
    · obtain rfl : D = tblD t.co (srcF c 0 t.rw) := HDD.out.trans (srcD_yes HYS.out hc)
      obtain ⟨fA0, fA1, fA2, fA3, fA4, fA5, fA6, fAlt⟩ := box7 (MSt.box (MSt.nth (L1 := [_]) H1.out))
      have h2 := H1.out.new 101 2 #[.slice y5 t.co.length c5, .slice y6 t.rw.length c6] rfl
      have H2 := Lib.hid h2
      obtain ⟨gC, hgC⟩ : ∃ gC, gC = w2.heap.size := ⟨_, rfl⟩
      rw [← hgC] at h2 H2
      have hb2 := MSt.box h2
      have fC0 := hb2.cellAt 0 (by decide)
      have fC1 := hb2.cellAt 1 (by decide)
      have fClt := (hb2.lt _ rfl).2
      simp only [List.getElem?_cons_zero, List.getElem?_cons_succ] at fC0 fC1
      clear hb2 h2
      rw [hgC] at fC0 fC1 fClt
      go_wp2_with fail
      rw [← hgC] at *
      clear fA0 fA1 fA2 fA3 fA4 fA5 fA6 fAlt
      clear fC0 fC1 fClt
      have HS : Hid (MSt w [rowA 99 2 (.slice none 0 0) 0 [], owLA (srcF c 0 (t.rw.take 0)) [] [], boxA 101 2 gC [.slice y5 t.co.length c5, .slice y6 t.rw.length c6], boxA 28 7 (w.heap.size + 1) [.int .i64 0, .int .i64 0, .int .i64 0, .string ⟨#[]⟩, .slice none 0 0, .slice none 0 0, .slice none 0 0], boxA 28 7 w.heap.size [.int .i64 y0, .int .i64 y1, .int .i64 y2, .string y3, .slice y4 n4 c4, .slice y5 t.co.length c5, .slice y6 t.rw.length c6]] _) := Lib.hid (H2.out.nilRow 99 2)
      clear H2
      go_loopw [7, 25] (fun v i wr => ∃ (j : Nat) (cl : List Value) (fp : List Nat), j ≤ t.rw.length ∧ i = .int .i64 (j : Int) ∧ Hid (MSt w [rowA 99 2 v j cl, owLA (srcF c 0 (t.rw.take j)) cl fp, boxA 101 2 gC [.slice y5 t.co.length c5, .slice y6 t.rw.length c6], boxA 28 7 (w.heap.size + 1) [.int .i64 0, .int .i64 0, .int .i64 0, .string ⟨#[]⟩, .slice none 0 0, .slice none 0 0, .slice none 0 0], boxA 28 7 w.heap.size [.int .i64 y0, .int .i64 y1, .int .i64 y2, .string y3, .slice y4 n4 c4, .slice y5 t.co.length c5, .slice y6 t.rw.length c6]] wr)) (fun _ i _ => t.rw.length - (intOf i).toNat)
      case atStart => exact ⟨0, _, _, Nat.zero_le _, rfl, HS⟩
      case round =>
        obtain ⟨j, cl, fp, hj, rfl, H1⟩ := hrel
        obtain ⟨A3, q3, rfl⟩ := own_slice H1.out.row
        by_cases hlt : j < t.rw.length
        · obtain ⟨b, o, cs, hA6, hbB, hrd, hlen, hcell⟩ := HT.out.2.at (k := 2) (fun x hx' => (rw_val HV.out.1 x hx').width) (by omega) j hlt
          subst hA6
          obtain ⟨x, hx⟩ : ∃ x, x = t.rw[j] := ⟨_, rfl⟩
          have hxr := rw_val HV.out.1 _ (List.getElem_mem hlt)
          have hwx := wts_mem (List.getElem_mem hlt)
          have hnx := srcF_next (c := c) hlt
          rw [← hx] at hrd hxr hwx hnx
          have hwp := wt_parts8 HV.out.1
          have hwv := HV.out.2.1
          have hxw : x.wt ≤ 1048576 := by omega
          obtain ⟨ns, os, rfl, hos⟩ := hxr
          have hnl : ns.length ≤ 1048576 := by simp only [Dt.wt, wts, List.length_map] at hxw; omega
          obtain ⟨B0, d0, B1, d1, rfl, r0, r1⟩ := Rd.ofRow hrd
          simp only [List.length_map] at hrd
          rw [srcRow_mk] at hnx
          have HNX := Lib.hid hnx
          have HR0 := Lib.hid r0.ints
          have h00 := (H1.out.bel.cell (p := ⟨b, o + j * 2 + 0, none⟩) hbB).trans (hcell 0 (by omega))
          have h01 := (H1.out.bel.cell (p := ⟨b, o + j * 2 + 1, none⟩) hbB).trans (hcell 1 (by omega))
          simp only [List.getElem?_cons_zero, List.getElem?_cons_succ, Nat.add_zero, List.length_map] at h00 h01
          have hws := H1.out.size
          have hbl : b < wr.heap.size := by omega
          have hj2 : (j : Int) < (t.rw.length : Int) := by omega
          clear hrd hnx hx hlen hcell r0 r1 hwx hwp hwv hxw
          go_wp2_with fail
          clear h00 h01
          have H2 := Lib.hid (H1.out.new 99 2 #[.slice B0 ns.length d0, .slice B1 os.length d1] rfl)
          have hb2 := MSt.box H2.out
          have fB0 := hb2.cellAt 0 (by decide)
          have fB1 := hb2.cellAt 1 (by decide)
          have fBlt := (hb2.lt _ rfl).2
          simp only [List.getElem?_cons_zero, List.getElem?_cons_succ] at fB0 fB1
          clear hb2
          go_wp2_with fail
          clear fB0 fB1 fBlt
          refine (cloneI B0 ns.length d0 w.heap.size (intV ns) _ (HR0.out.keep H2.out.bel.block) (by simp [intV]) (by intro u hu; simp only [intV, List.mem_map] at hu; obtain ⟨q, -, rfl⟩ := hu; rfl) hnl H2.out.size).mono ?_
          rintro e w3 ⟨vN, rfl, hown, hb⟩
          obtain ⟨AN, qN, rfl⟩ := own_slice hown
          have h3 := (MSt.add H2.out hb (rowA_at hown)).close0 (xs := ns.map .int) (fun w' => OwL.ints w' ns) (List.length_map _).symm
          have h4 := MSt.row2s ((MSt.close0 (MSt.row_lit h3 96 2 1 #[.int .i64 c, .int .i64 (j : Int)] (by unfold maxLen; omega) rfl) (xs := orgsD [(c, (j : Int))]) (fun w' => orgs_owl w' [(c, (j : Int))]) rfl).swap)
          have HO4 := Lib.hid (MSt.read h4).one
          have hs3 : w.heap.size ≤ w3.heap.size := MSt.size h3
          have H4 := Lib.hid h4
          clear h3 h4 hown hb
          go_wp2_with (at_builtin; refine appR _ rfl (.tmp 30) (.tmp 39) rfl w.heap.size (.slice A3 j q3) j cl rfl (((MSt.nth (L1 := [_, _]) H4.out).alloc _).row) (some ⟨w3.heap.size + 1, 0, none⟩) 1 1 (w3.heap.size + 1 + 1) [.slice AN ns.length qN, .slice (some ⟨w3.heap.size, 0, none⟩) 1 1] rfl rfl (row_newG8 _ #[.slice AN ns.length qN, .slice (some ⟨w3.heap.size, 0, none⟩) 1 1] 99 _ (by simp)) HO4.out (by omega) (by simp; omega) ?_; intro v7 w7 hown7 hgr7 hn7; have h7 := MSt.push (MSt.subB (MSt.app ((MSt.nth (L1 := [_, _]) H4.out).alloc (.cells #[.slice AN ns.length qN, .slice (some ⟨w3.heap.size, 0, none⟩) 1 1] 99)) hgr7 hown7 hn7.2) (.cons_cons _ (.cons_cons _ (.cons _ (List.Sublist.refl _))))); rw [← HNX.out] at h7; have H7 := Lib.hid h7; clear h7 hown7 hgr7 hn7)
          exact ⟨⟨j + 1, _, _, by omega, by simp, H7⟩, by simp [intOf]; omega⟩
        · obtain rfl : j = t.rw.length := by omega
          have h1 := H1.out
          rw [List.take_length] at h1
          have h2 := h1.close (srcF_len c 0 t.rw).symm
          have H2 := Lib.hid h2
          clear h1 h2 H1
          have hb2 := MSt.box (MSt.nth (L1 := [_]) H2.out)
          have fC0 := hb2.cellAt 0 (by decide)
          have fC1 := hb2.cellAt 1 (by decide)
          have fClt := (hb2.lt _ rfl).2
          simp only [List.getElem?_cons_zero, List.getElem?_cons_succ] at fC0 fC1
          clear hb2
          go_wp2_with fail
          clear fC0 fC1 fClt
          refine (cloneS_any y5 c5 t.co t.co.length rfl w.heap.size _ (HT.out.1.strs.keep H2.out.bel.block) (by omega)).mono ?_
          rintro e w2 ⟨A7, c7, rfl, hown, hb⟩
          have H3 := Lib.hid ((H2.out.add hb (rowA_at hown)).close0 (xs := t.co.map .str) (fun w' => OwL.strs w' t.co) (by simp))
          clear hown hb
          go_wp2_with fail
          refine (value5_any 0 0 ⟨#[]⟩ none A7 A3 0 0 t.co.length c7 t.rw.length q3 _).mono ?_
          rintro e w4 ⟨rfl, hb⟩
          have H4 := Lib.hid (MSt.tbl (H3.out.later hb))
          clear hb
          obtain ⟨fR0, fR1, fR2, fR3, fR4, fR5, fR6, fRlt⟩ := box7 (MSt.box (MSt.nth (L1 := [_, _]) H4.out))
          obtain ⟨zR0, zR1, zR2, zR3, zR4, zR5, zR6⟩ := box7z (MSt.box (MSt.nth (L1 := [_, _]) H4.out))
          go_wp2_with fail
          obtain ⟨W7, hW, hg, y0, y1, y2, y3, y4, y5, y6⟩ := MSt.put (MSt.nth (L1 := [_, _]) H4.out) (.int .i64 5) (.int .i64 0) (.int .i64 0) (.string ⟨#[]⟩) (.slice none 0 0) (.slice A7 t.co.length c7) (.slice A3 t.rw.length q3)
          rw [← hW]
          refine bodyPost_ret (v := .agg #[.int .i64 5, .int .i64 0, .int .i64 0, .string ⟨#[]⟩, .slice none 0 0, .slice A7 t.co.length c7, .slice A3 t.rw.length q3]) (by simp [results, Tryz.results38, go_sem, y0, y1, y2, y3, y4, y5, y6]) rfl ((MSt.nth (L1 := [_]) hg).give)

end Go.Proofs.YtabcmnlmmpbmnaaGreat

/-
  SourceTable, the model's. (Written by gentab.py.)
-/

namespace Go.Proofs.YtabcmnlmmpbmnaaGreat
open Go.RowKit Go.Maps
set_option linter.unusedVariables false
set_option linter.unusedSimpArgs false

set_option maxHeartbeats 6400000 in
set_option maxRecDepth 100000 in
theorem specSource_any {t : Dt} (ht : IsVal t) (hw : t.wt ≤ 1048576) (c : Int) (cs : List Value) (w : World) (h : Rd w w.heap.size t cs) (D : Dt) (hD : D = srcD c t) :
    Calls Tryz.prog 37 #[.int .i64 c, .agg cs.toArray] w (ToA w D) := by
  have HDD := Lib.hid hD
  obtain ⟨y0, y1, y2, y3, y4, n4, c4, y5, n5, c5, y6, n6, c6, rfl⟩ := ht.form h
  have hkk := kd_cell ht h
  have HKD := Lib.hid hkk.1
  have HT := Lib.hid (TabR.of ht h (Nat.le_refl _))
  obtain ⟨hn6, hq6, hx6⟩ := HT.out.2.lst_len
  subst hn6
  obtain ⟨hn5, hq5, -⟩ := HT.out.1.lst_len
  rw [List.length_map] at hn5
  subst hn5
  have hwp := wt_parts8 ht
  have hr12 : t.rw.length ≤ 1048576 := by omega
  have hc12 : t.co.length ≤ 1048576 := by simp only [Dt.wt, List.length_map] at hwp; omega
  clear hwp hx6
  have HV := Lib.hid (And.intro ht (And.intro hw h))
  have h0 := ((MSt.start w).new 28 7 #[.int .i64 y0, .int .i64 y1, .int .i64 y2, .string y3, .slice y4 n4 c4, .slice y5 t.co.length c5, .slice y6 t.rw.length c6] rfl).new 28 7 #[.int .i64 0, .int .i64 0, .int .i64 0, .string ⟨#[]⟩, .slice none 0 0, .slice none 0 0, .slice none 0 0] rfl
  simp only [World.size_alloc] at h0
  have H0 := Lib.hid h0
  clear h0 ht hw h hD hkk
  go_enter Tryz.func37, Tryz.ntmps37
  by_cases h5 : y0 = 5
  rotate_left
  · have hne : (y0 != 5) = true := by simpa using h5
    obtain rfl : D = errD 4 := HDD.out.trans (srcD_no (fun hh => h5 (by rw [← HKD.out]; exact hh.1.1)))
    obtain ⟨fA0, fA1, fA2, fA3, fA4, fA5, fA6, fAlt⟩ := box7 (MSt.box (MSt.nth (L1 := [_]) H0.out))
    go_wp2_with fail
    refine (specErrorValue_any 4 _).mono ?_
    rintro e w1 ⟨rfl, hb⟩
    have H1 := Lib.hid (H0.out.later hb)
    clear hb
    clear fA0 fA1 fA2 fA3 fA4 fA5 fA6 fAlt
    obtain ⟨fR0, fR1, fR2, fR3, fR4, fR5, fR6, fRlt⟩ := box7 (MSt.box H1.out)
    obtain ⟨zR0, zR1, zR2, zR3, zR4, zR5, zR6⟩ := box7z (MSt.box H1.out)
    go_wp2_with fail
    obtain ⟨W7, hW, hg, y0, y1, y2, y3, y4, y5, y6⟩ := MSt.put H1.out (.int .i64 6) (.int .i64 4) (.int .i64 0) (.string ⟨#[]⟩) (.slice none 0 0) (.slice none 0 0) (.slice none 0 0)
    rw [← hW]
    refine bodyPost_ret (v := .agg #[.int .i64 6, .int .i64 4, .int .i64 0, .string ⟨#[]⟩, .slice none 0 0, .slice none 0 0, .slice none 0 0]) (by simp [results, Tryz.results37, go_sem, y0, y1, y2, y3, y4, y5, y6]) rfl (toA_flat0 rfl hg.bel)
  subst h5
  obtain ⟨fA0, fA1, fA2, fA3, fA4, fA5, fA6, fAlt⟩ := box7 (MSt.box (MSt.nth (L1 := [_]) H0.out))
  go_wp2_with fail
  clear fA0 fA1 fA2 fA3 fA4 fA5 fA6 fAlt
  refine (specValidV HV.out.1 HV.out.2.1 _ _ ((HV.out.2.2.below H0.out.bel).more H0.out.size)).mono ?_
  rintro e w1 ⟨bv, rfl, hbv, hb⟩
  have H1 := Lib.hid (H0.out.later hb)
  clear hb
  have HBV := Lib.hid hbv
  clear hbv
  cases bv
  · obtain rfl : D = errD 4 := HDD.out.trans (srcD_no (fun hh => absurd (HBV.out.2 hh.1.2) (by simp)))
    obtain ⟨fA0, fA1, fA2, fA3, fA4, fA5, fA6, fAlt⟩ := box7 (MSt.box (MSt.nth (L1 := [_]) H1.out))
    go_wp2_with fail
    refine (specErrorValue_any 4 _).mono ?_
    rintro e w2 ⟨rfl, hb⟩
    have H2 := Lib.hid (H1.out.later hb)
    clear hb
    clear fA0 fA1 fA2 fA3 fA4 fA5 fA6 fAlt
    obtain ⟨fR0, fR1, fR2, fR3, fR4, fR5, fR6, fRlt⟩ := box7 (MSt.box H2.out)
    obtain ⟨zR0, zR1, zR2, zR3, zR4, zR5, zR6⟩ := box7z (MSt.box H2.out)
    go_wp2_with fail
    obtain ⟨W7, hW, hg, y0, y1, y2, y3, y4, y5, y6⟩ := MSt.put H2.out (.int .i64 6) (.int .i64 4) (.int .i64 0) (.string ⟨#[]⟩) (.slice none 0 0) (.slice none 0 0) (.slice none 0 0)
    rw [← hW]
    refine bodyPost_ret (v := .agg #[.int .i64 6, .int .i64 4, .int .i64 0, .string ⟨#[]⟩, .slice none 0 0, .slice none 0 0, .slice none 0 0]) (by simp [results, Tryz.results37, go_sem, y0, y1, y2, y3, y4, y5, y6]) rfl (toA_flat0 rfl hg.bel)
  · by_cases hc : c < 0
    · obtain rfl : D = errD 4 := HDD.out.trans (srcD_no (fun hh => hh.2 hc))
      obtain ⟨fA0, fA1, fA2, fA3, fA4, fA5, fA6, fAlt⟩ := box7 (MSt.box (MSt.nth (L1 := [_]) H1.out))
      go_wp2_with fail
      refine (specErrorValue_any 4 _).mono ?_
      rintro e w2 ⟨rfl, hb⟩
      have H2 := Lib.hid (H1.out.later hb)
      clear hb
      clear fA0 fA1 fA2 fA3 fA4 fA5 fA6 fAlt
      obtain ⟨fR0, fR1, fR2, fR3, fR4, fR5, fR6, fRlt⟩ := box7 (MSt.box H2.out)
      obtain ⟨zR0, zR1, zR2, zR3, zR4, zR5, zR6⟩ := box7z (MSt.box H2.out)
      go_wp2_with fail
      obtain ⟨W7, hW, hg, y0, y1, y2, y3, y4, y5, y6⟩ := MSt.put H2.out (.int .i64 6) (.int .i64 4) (.int .i64 0) (.string ⟨#[]⟩) (.slice none 0 0) (.slice none 0 0) (.slice none 0 0)
      rw [← hW]
      refine bodyPost_ret (v := .agg #[.int .i64 6, .int .i64 4, .int .i64 0, .string ⟨#[]⟩, .slice none 0 0, .slice none 0 0, .slice none 0 0]) (by simp [results, Tryz.results37, go_sem, y0, y1, y2, y3, y4, y5, y6]) rfl (toA_flat0 rfl hg.bel)
    · obtain rfl : D = tblD t.co (srcF c 0 t.rw) := HDD.out.trans (srcD_yes ⟨HKD.out, HBV.out.1 (by trivial)⟩ hc)
      obtain ⟨fA0, fA1, fA2, fA3, fA4, fA5, fA6, fAlt⟩ := box7 (MSt.box (MSt.nth (L1 := [_]) H1.out))
      go_wp2_with fail
      clear fA0 fA1 fA2 fA3 fA4 fA5 fA6 fAlt
      refine (l3Copy_any HV.out.1 HV.out.2.1 _ _ ((HV.out.2.2.below H1.out.bel).more H1.out.size)).mono ?_
      rintro e wS ⟨csT, fpT, rfl, how, hnf, hb⟩
      have h2 := H1.out.add hb (owA_at how hnf)
      obtain ⟨s4, s5, s6, f4, f5, f6, rfl, h3⟩ := h2.untab (tbl_eq HV.out.1 HKD.out (HBV.out.1 (by trivial)))
      obtain ⟨A5, q5, e5⟩ := ow_lst1 (MSt.nth (L1 := [_]) h3).1.head.1
      obtain ⟨A4, q4, e4⟩ := ow_lst1 (MSt.nth (L1 := [_, _]) h3).1.head.1
      obtain ⟨A6, q6, eR, kR, cl, fR, rfl, h4⟩ := h3.unlst
      injection e5 with e5 _
      injection e4 with e4 _
      rw [List.length_map] at e5
      rw [List.length_nil] at e4
      subst e4 e5
      have h5 := MSt.nth (L1 := [_, _]) (MSt.nth (L1 := [_, _]) (MSt.drop ((h4.new 28 7 #[.int .i64 5, .int .i64 0, .int .i64 0, .string ⟨#[]⟩, .slice A4 0 q4, .slice A5 t.co.length q5, .slice A6 t.rw.length q6] rfl).nilRow 0 0)))
      have hwS := MSt.size h4
      clear h2 h3 h4 how hnf hb
      have HS : Hid (MSt w [boxA 28 7 wS.heap.size [.int .i64 5, .int .i64 0, .int .i64 0, .string ⟨#[]⟩, .slice A4 0 q4, .slice A5 t.co.length q5, .slice A6 t.rw.length q6], rowA eR kR (.slice A6 t.rw.length q6) t.rw.length ([] ++ cl), owLA (srcF c 0 (t.rw.take 0)) [] [], owLA (t.rw.drop 0) cl fR, owA (.lst (t.co.map .str)) [.slice A5 t.co.length q5] f5, owA (.lst []) [.slice A4 0 q4] f4, boxA 28 7 (w.heap.size + 1) [.int .i64 0, .int .i64 0, .int .i64 0, .string ⟨#[]⟩, .slice none 0 0, .slice none 0 0, .slice none 0 0], boxA 28 7 w.heap.size [.int .i64 5, .int .i64 y1, .int .i64 y2, .string y3, .slice y4 n4 c4, .slice y5 t.co.length c5, .slice y6 t.rw.length c6]] _) := Lib.hid h5
      clear h5
      go_wp2_with fail
      go_loopw [6] (fun i wr => ∃ (j : Nat) (clD clT : List Value) (fpD fpT : List Nat), j ≤ t.rw.length ∧ i = .int .i64 (j : Int) ∧ Hid (clD.length = j * 2) ∧ Hid (MSt w [boxA 28 7 wS.heap.size [.int .i64 5, .int .i64 0, .int .i64 0, .string ⟨#[]⟩, .slice A4 0 q4, .slice A5 t.co.length q5, .slice A6 t.rw.length q6], rowA eR kR (.slice A6 t.rw.length q6) t.rw.length (clD ++ clT), owLA (srcF c 0 (t.rw.take j)) clD fpD, owLA (t.rw.drop j) clT fpT, owA (.lst (t.co.map .str)) [.slice A5 t.co.length q5] f5, owA (.lst []) [.slice A4 0 q4] f4, boxA 28 7 (w.heap.size + 1) [.int .i64 0, .int .i64 0, .int .i64 0, .string ⟨#[]⟩, .slice none 0 0, .slice none 0 0, .slice none 0 0], boxA 28 7 w.heap.size [.int .i64 5, .int .i64 y1, .int .i64 y2, .string y3, .slice y4 n4 c4, .slice y5 t.co.length c5, .slice y6 t.rw.length c6]] wr)) (fun i _ => t.rw.length - (intOf i).toNat)
      case atStart => exact ⟨0, [], cl, [], fR, Nat.zero_le _, rfl, Lib.hid rfl, HS⟩
      case round =>
        obtain ⟨j, clD, clT, fpD, fpT, hj, rfl, HCD, H1⟩ := hrel
        by_cases hlt : j < t.rw.length
        · have hxr := rw_val HV.out.1 _ (List.getElem_mem hlt)
          have hnx := srcF_next (c := c) hlt
          have hdr := List.drop_eq_getElem_cons hlt
          obtain ⟨x, hx⟩ : ∃ x, x = t.rw[j] := ⟨_, rfl⟩
          rw [← hx] at hxr hnx hdr
          obtain ⟨ns, os, rfl, hos⟩ := hxr
          rw [srcRow_mk] at hnx
          have h1 := MSt.nth (L1 := [_, _, _]) H1.out
          rw [hdr] at h1
          obtain ⟨c1, clR, f1, fpR, rfl, rfl, -, h2⟩ := h1.uncons
          obtain ⟨A0, c0, s1, f0, rfl, h3⟩ := h2.unrow
          have hrow := MSt.row (MSt.nth (L1 := [_, _, _]) h3)
          obtain ⟨gR, cR, he, -, -⟩ := hrow.form (by omega)
          injection he with e1 e2 e3
          subst e1 e3
          obtain ⟨fC, zC, hgl⟩ := own_cellAt hrow (mid_get HCD.out)
          have h4 := MSt.row2s ((MSt.close0 (MSt.row_lit h3 96 2 1 #[.int .i64 c, .int .i64 (j : Int)] (by unfold maxLen; omega) rfl) (xs := orgsD [(c, (j : Int))]) (fun w' => orgs_owl w' [(c, (j : Int))]) rfl).swap)
          have h5 := MSt.rowSet (MSt.nth (L1 := [_, _, _]) h4) (j * 2 + 1) [.slice (some ⟨wr.heap.size, 0, none⟩) 1 1]
          rw [mid_set HCD.out] at h5
          simp only [World.setCells] at h5
          have h6 := MSt.nth (L1 := [_, _, _]) (MSt.push (MSt.nth (L1 := [_, _]) (MSt.nth (L1 := [_, _]) (MSt.nth (L1 := [_, _, _, _]) h5))))
          rw [← hnx, World.setCell_alloc_past _ _ _ _ hgl] at h6
          have H6 := Lib.hid h6
          have hj2 : (j : Int) < (t.rw.length : Int) := by omega
          have hws := H1.out.size
          clear h1 h2 h3 h4 h5 h6 hrow hnx hdr hx hos
          obtain ⟨fX0, fX1, fX2, fX3, fX4, fX5, fX6, fXlt⟩ := box7 (MSt.box H1.out)
          go_wp2_with fail
          exact ⟨⟨j + 1, _, clR, _, fpR, by omega, by simp, Lib.hid (by rw [List.length_append, HCD.out]; simp only [List.length_cons, List.length_nil]; omega), H6⟩, by simp [intOf]; omega⟩
        · obtain rfl : j = t.rw.length := by omega
          have h1 := MSt.nth (L1 := [_, _, _]) H1.out
          rw [List.take_length, List.drop_length] at h1
          obtain ⟨rfl, h2⟩ := h1.unnil
          rw [List.append_nil] at h2
          have h3 := MSt.close (MSt.nth (L1 := [_, _]) (MSt.nth (L1 := [_, _]) h2)) (srcF_len c 0 t.rw).symm
          obtain ⟨fp, h4⟩ := MSt.retab (MSt.nth (L1 := [_, _, _]) (MSt.nth (L1 := [_, _]) h3))
          have H2 := Lib.hid h4
          clear h1 h2 h3 h4 H1 HCD
          obtain ⟨fX0, fX1, fX2, fX3, fX4, fX5, fX6, fXlt⟩ := box7 (MSt.box (MSt.nth (L1 := [_]) H2.out))
          obtain ⟨fR0, fR1, fR2, fR3, fR4, fR5, fR6, fRlt⟩ := box7 (MSt.box (MSt.nth (L1 := [_, _]) H2.out))
          obtain ⟨zR0, zR1, zR2, zR3, zR4, zR5, zR6⟩ := box7z (MSt.box (MSt.nth (L1 := [_, _]) H2.out))
          go_wp2_with fail
          obtain ⟨W7, hW, hg, y0, y1, y2, y3, y4, y5, y6⟩ := MSt.put (MSt.nth (L1 := [_, _]) H2.out) (.int .i64 5) (.int .i64 0) (.int .i64 0) (.string ⟨#[]⟩) (.slice A4 0 q4) (.slice A5 t.co.length q5) (.slice A6 t.rw.length q6)
          rw [← hW]
          refine bodyPost_ret (v := .agg #[.int .i64 5, .int .i64 0, .int .i64 0, .string ⟨#[]⟩, .slice A4 0 q4, .slice A5 t.co.length q5, .slice A6 t.rw.length q6]) (by simp [results, Tryz.results37, go_sem, y0, y1, y2, y3, y4, y5, y6]) rfl (MSt.nth (L1 := [_]) hg).give

end Go.Proofs.YtabcmnlmmpbmnaaGreat

/-
  RestrictTable, the program's. (Written by gentab.py.)
-/

namespace Go.Proofs.YtabcmnlmmpbmnaaGreat
open Go.RowKit Go.Maps
set_option linter.unusedVariables false
set_option linter.unusedSimpArgs false

set_option maxHeartbeats 1600000 in
set_option maxRecDepth 100000 in
theorem restrict1_any (s : List (Int × Int)) (hs : s.Pairwise OLt) (hsl : s.length ≤ 1048576) (gk : Nat) (A : Option Addr) (n c : Nat) (hn : n = s.length) (ns : List Int) (os : List Dt) (hos : ∀ x ∈ os, IsOrg x) (hol : os.length ≤ 1048576) (cs : List Value) (W : World) (B : Nat) (hB : B ≤ W.heap.size) (h : Rd W B (.agg [.lst (ns.map .int), .lst os]) cs)
    (fk0 : W.cell? ⟨gk, 0, none⟩ = some (.func (.func 102) #[] #[])) (fk1 : W.cell? ⟨gk, 1, none⟩ = some (.slice A n c)) (hgk : gk < W.heap.size) (hA : OrgsR W W.heap.size A s) :
    Calls Tryz.prog 104 #[.agg cs.toArray, .pointer (some ⟨gk, 0, none⟩)] W fun e W' => e = .returned (.bool (keepP s (.agg [.lst (ns.map .int), .lst os]))) ∧ Below W.heap.size W W' := by
  obtain ⟨B0, d0, B1, d1, rfl, r0, r1⟩ := Rd.ofRow h
  simp only [List.length_map]
  have hor := rd_orgs (l := os.map pr) (by rw [orgsD_pr hos]; exact r1)
  have HO := Lib.hid hor.2.2.2
  have HA := Lib.hid hA
  have HS := Lib.hid hs
  have HN := Lib.hid hn
  have H0 := Lib.hid ((MSt.start W).new 99 2 #[.slice B0 ns.length d0, .slice B1 os.length d1] rfl)
  obtain ⟨bq, hbq⟩ : ∃ bq, bq = keepP s (.agg [.lst (ns.map .int), .lst os]) := ⟨_, rfl⟩
  rw [← hbq]
  have HB := Lib.hid hbq
  have hn1 : ¬ gk = W.heap.size := by omega
  clear h r0 r1 hor hA hs hbq hn
  go_enter Tryz.func104, Tryz.ntmps104
  go_wp2_with fail
  refine (containsAll_any s (os.map pr) HS.out hsl (by simpa using hol) A B1 n os.length c d1 HN.out (by simp) _ ((HA.out.below (MSt.bel H0.out)).more (MSt.size H0.out)) (((HO.out.more hB).below (MSt.bel H0.out)).more (MSt.size H0.out))).mono ?_
  rintro e w1 ⟨rb, rfl, hb, hbel⟩
  have he : bq = rb := by
    rw [HB.out]
    have h1 := keepP_iff s (.agg [.lst (ns.map .int), .lst os])
    rw [fr_mk, ← hb] at h1
    cases rb <;> cases h2 : keepP s (.agg [.lst (ns.map .int), .lst os]) <;> simp_all
  subst he
  have H1 := Lib.hid (H0.out.later hbel)
  clear hb hbel
  go_wp2_with fail
  go_ret
  exact ⟨rfl, MSt.bel H1.out⟩

set_option maxHeartbeats 6400000 in
set_option maxRecDepth 100000 in
theorem implRestrict_any {t : Dt} (ht : IsVal t) (hw : t.wt ≤ 1048576) (ks : List (Int × Int)) (hkl : ks.length ≤ 1048576) (Ak : Option Addr) (nk ck : Nat) (cs : List Value) (w : World) (h : Rd w w.heap.size t cs) (hk : Rd w w.heap.size (.lst (orgsD ks)) [.slice Ak nk ck]) (D : Dt) (hD : D = resD t ks) :
    Calls Tryz.prog 42 #[.agg cs.toArray, .slice Ak nk ck] w (ToA w D) := by
  have HK := Lib.hid hk
  obtain ⟨hnk, -, -, hok⟩ := rd_orgs hk
  have HKL := Lib.hid (And.intro hnk hok)
  clear hnk hok
  have HDD := Lib.hid hD
  obtain ⟨y0, y1, y2, y3, y4, n4, c4, y5, n5, c5, y6, n6, c6, rfl⟩ := ht.form h
  have hkk := kd_cell ht h
  have HKD := Lib.hid hkk.1
  have HT := Lib.hid (TabR.of ht h (Nat.le_refl _))
  have HV := Lib.hid (And.intro ht (And.intro hw h))
  have h0 := ((MSt.start w).new 28 7 #[.int .i64 y0, .int .i64 y1, .int .i64 y2, .string y3, .slice y4 n4 c4, .slice y5 n5 c5, .slice y6 n6 c6] rfl).new 28 7 #[.int .i64 0, .int .i64 0, .int .i64 0, .string ⟨#[]⟩, .slice none 0 0, .slice none 0 0, .slice none 0 0] rfl
  simp only [World.size_alloc] at h0
  have H0 := Lib.hid h0
  clear h0 ht hw h hk hD hkk
  go_enter Tryz.func42, Tryz.ntmps42
  obtain ⟨fA0, fA1, fA2, fA3, fA4, fA5, fA6, fAlt⟩ := box7 (MSt.box (MSt.nth (L1 := [_]) H0.out))
  go_wp2_with fail
  clear fA0 fA1 fA2 fA3 fA4 fA5 fA6 fAlt
  refine (validTableI_any HV.out.1 HV.out.2.1 _ _ _ _ _ _ _ _ _ _ _ _ _ _ ((HV.out.2.2.below H0.out.bel).more H0.out.size)).mono ?_
  rintro e w2 ⟨v, b, rfl, hv, hb⟩
  have H1 := Lib.hid (H0.out.later hb)
  have HVT := Lib.hid hv
  clear hb hv
  cases b
  · obtain ⟨hno, A7, n7, c7, A8, n8, c8, rfl⟩ := HVT.out.ff
    obtain rfl : D = t := HDD.out.trans (resD_no hno _)
    clear hno HVT
    obtain ⟨fA0, fA1, fA2, fA3, fA4, fA5, fA6, fAlt⟩ := box7 (MSt.box (MSt.nth (L1 := [_]) H1.out))
    go_wp2_with fail
    have H2 := Lib.hid (H1.out.new 101 2 #[.slice A7 n7 c7, .slice A8 n8 c8] rfl)
    clear fA0 fA1 fA2 fA3 fA4 fA5 fA6 fAlt
    refine (cloneValue_any HV.out.1 HV.out.2.1 _ _ ((HV.out.2.2.below H2.out.bel).more H2.out.size)).mono ?_
    rintro e w3 ⟨csT, fpT, rfl, how, hnf, hb⟩
    obtain ⟨vy0, vy1, vy2, vy3, vy4, vn4, vc4, vy5, vn5, vc5, vy6, vn6, vc6, rfl⟩ := IsVal.form (HV.out.1) how.read
    have H3 := Lib.hid (H2.out.add hb (owA_at how hnf))
    clear how hnf hb
    obtain ⟨fR0, fR1, fR2, fR3, fR4, fR5, fR6, fRlt⟩ := box7 (MSt.box (MSt.nth (L1 := [_, _]) H3.out))
    obtain ⟨zR0, zR1, zR2, zR3, zR4, zR5, zR6⟩ := box7z (MSt.box (MSt.nth (L1 := [_, _]) H3.out))
    go_wp2_with fail
    obtain ⟨W7, hW, hg, y0, y1, y2, y3, y4, y5, y6⟩ := MSt.put (MSt.nth (L1 := [_, _]) H3.out) (.int .i64 vy0) (.int .i64 vy1) (.int .i64 vy2) (.string vy3) (.slice vy4 vn4 vc4) (.slice vy5 vn5 vc5) (.slice vy6 vn6 vc6)
    rw [← hW]
    refine bodyPost_ret (v := .agg #[.int .i64 vy0, .int .i64 vy1, .int .i64 vy2, .string vy3, .slice vy4 vn4 vc4, .slice vy5 vn5 vc5, .slice vy6 vn6 vc6]) (by simp [results, Tryz.results42, go_sem, y0, y1, y2, y3, y4, y5, y6]) rfl ((MSt.nth (L1 := [_]) hg).give)
  · obtain ⟨hyes, rfl⟩ := HVT.out.tt
    obtain rfl : D = tblD t.co (t.rw.filter (keepP (setO ks))) := HDD.out.trans ((resD_yes hyes _).trans (by rw [keepP_set]))
    have HYS := Lib.hid hyes
    clear hyes HVT
    obtain ⟨fA0, fA1, fA2, fA3, fA4, fA5, fA6, fAlt⟩ := box7 (MSt.box (MSt.nth (L1 := [_]) H1.out))
    go_wp2_with fail
    have H2 := Lib.hid (H1.out.new 101 2 #[.slice y5 n5 c5, .slice y6 n6 c6] rfl)
    clear fA0 fA1 fA2 fA3 fA4 fA5 fA6 fAlt
    have H3 := Lib.hid (MSt.row_lit H2.out 54 1 1 #[.slice Ak nk ck] (by unfold maxLen; omega) rfl)
    have hrd : Rd (World.alloc (World.alloc w2 (.cells #[.slice y5 n5 c5, .slice y6 n6 c6] 101)) (.cells #[.slice Ak nk ck] 54)) (World.alloc (World.alloc w2 (.cells #[.slice y5 n5 c5, .slice y6 n6 c6] 101)) (.cells #[.slice Ak nk ck] 54)).heap.size (.lst (lstsD [ks])) [.slice (some ⟨(w2.alloc (.cells #[.slice y5 n5 c5, .slice y6 n6 c6] 101)).heap.size, 0, none⟩) 1 1] := by
      simp only [Rd, lstsD, List.map_cons, List.map_nil, RdL]
      have hr := own_row (MSt.row H3.out) fun b hb => ((MSt.row H3.out).lt b hb).2
      have h1 := (HK.out.below (MSt.bel H3.out)).more (MSt.size H3.out)
      simp only [Rd] at h1
      exact ⟨_, _, _, rfl, by simp, by unfold maxLen; omega, hr, _, _, rfl, h1, rfl⟩
    rw [show (World.alloc w2 (.cells #[.slice y5 n5 c5, .slice y6 n6 c6] 101)).heap.size = w2.heap.size + 1 from World.size_alloc _ _] at hrd
    have HRD := Lib.hid hrd
    clear hrd
    refine (setOf_any [ks] (by simp) (by simpa using hkl) _ 1 1 rfl _ HRD.out).mono ?_
    rintro e w3 ⟨v, rfl, h2⟩
    have ek : [ks].flatten = ks := by simp
    rw [ek] at h2
    have hsl := Nat.le_trans (setO_len ks) hkl
    have hsa := (setO_is ks).1
    obtain ⟨S, hS⟩ : ∃ S, S = setO ks := ⟨_, rfl⟩
    rw [← hS] at h2 hsl hsa ⊢
    obtain ⟨AS, cS, rfl, -, -⟩ := MSt.orgV h2
    have hor := h2.orgR rfl
    have h3 := MSt.trans H3.out h2
    have H4 := Lib.hid h3
    have HOR := Lib.hid hor
    have HSE := Lib.hid hS
    clear h2 h3 hor HRD hS ek
    have hb2 := MSt.box (MSt.nth (L1 := [_, _]) H4.out)
    have fC0 := hb2.cellAt 0 (by decide)
    have fC1 := hb2.cellAt 1 (by decide)
    have fClt := (hb2.lt _ rfl).2
    simp only [List.getElem?_cons_zero, List.getElem?_cons_succ] at fC0 fC1
    clear hb2
    go_wp2_with fail
    clear fC0 fC1 fClt
    have H5 := Lib.hid (H4.out.new 110 2 #[.func (.func 102) #[] #[], .slice AS S.length cS] rfl)
    refine (withRowsR_any HV.out.1 HV.out.2.1 (keepP S) _ _ y5 n5 c5 y6 n6 c6 (HT.out.later H5.out.bel) (fun x hx W cs hb hr => ?_)).mono ?_
    · have hxr := rw_val8 HV.out.1 x hx
      have hwx := wts_mem hx
      have hwp := wt_parts8 HV.out.1
      have hwv := HV.out.2.1
      obtain ⟨ns, os, rfl, hos⟩ := hxr
      have hol := size_in8 hwx
      have hsz := hb.size
      have kK := MSt.box H5.out
      have lK := (kK.lt _ rfl).2
      have f0 := (hb.cell (p := ⟨w3.heap.size, 0, none⟩) lK).trans (kK.cellAt 0 (by decide))
      have f1 := (hb.cell (p := ⟨w3.heap.size, 1, none⟩) lK).trans (kK.cellAt 1 (by decide))
      exact restrict1_any S hsa hsl w3.heap.size AS _ cS rfl ns os hos (by omega) cs W _ hsz hr f0 f1 (Nat.lt_of_lt_of_le lK hsz) ((HOR.out.below ((Below.refl _ _).alloc (Nat.le_refl _) _ |>.trans (hb.mono (by simp)))).more (by simp at hsz; omega))
    rintro e w4 ⟨csT, fpT, rfl, how, hnf, hb⟩
    obtain ⟨vy0, vy1, vy2, vy3, vy4, vn4, vc4, vy5, vn5, vc5, vy6, vn6, vc6, rfl⟩ := IsVal.form (isVal_tblD _ _ (fun x hx => rw_val HV.out.1 x (List.mem_filter.1 hx).1)) how.read
    have H6 := Lib.hid (H5.out.add hb (owA_at how hnf))
    clear how hnf hb
    obtain ⟨fR0, fR1, fR2, fR3, fR4, fR5, fR6, fRlt⟩ := box7 (MSt.box (MSt.nth (L1 := [_, _, _, _, _]) H6.out))
    obtain ⟨zR0, zR1, zR2, zR3, zR4, zR5, zR6⟩ := box7z (MSt.box (MSt.nth (L1 := [_, _, _, _, _]) H6.out))
    go_wp2_with fail
    obtain ⟨W7, hW, hg, y0, y1, y2, y3, y4, y5, y6⟩ := MSt.put (MSt.nth (L1 := [_, _, _, _, _]) H6.out) (.int .i64 vy0) (.int .i64 vy1) (.int .i64 vy2) (.string vy3) (.slice vy4 vn4 vc4) (.slice vy5 vn5 vc5) (.slice vy6 vn6 vc6)
    rw [← hW]
    refine bodyPost_ret (v := .agg #[.int .i64 vy0, .int .i64 vy1, .int .i64 vy2, .string vy3, .slice vy4 vn4 vc4, .slice vy5 vn5 vc5, .slice vy6 vn6 vc6]) (by simp [results, Tryz.results42, go_sem, y0, y1, y2, y3, y4, y5, y6]) rfl (by rw [← HSE.out]; exact (MSt.nth (L1 := [_]) hg).give)

end Go.Proofs.YtabcmnlmmpbmnaaGreat
