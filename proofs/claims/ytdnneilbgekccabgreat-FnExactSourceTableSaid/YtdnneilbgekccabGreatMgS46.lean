/-
  Texts that the proof rests on, put together: SrcI, SrcO.
-/
import Derived.Test.YtdnneilbgekccabGreatMgS45
import Derived.Test.YtdnneilbgekccabGreatMgS42
import Derived.Test.YtdnneilbgekccabGreatMgS44
import Derived.Test.YtdnneilbgekccabGreatMgS43
import Derived.Maps.Views
import Derived.Deep.RegionLaw
import Derived.Deep.RegionHeld3
import Derived.Outline
import Derived.Test.YtdnneilbgekccabGreatMgS14
/-
  SourceTable, the program's. (Written by gentab.py.)
-/

namespace Go.Proofs.YtdnneilbgekccabGreat
open Go.RowKit Go.Maps
set_option linter.unusedVariables false
set_option linter.unusedSimpArgs false

set_option maxHeartbeats 6400000 in
set_option maxRecDepth 100000 in
theorem implSource_any {t : Dt} (ht : IsVal t) (hw : t.wt ≤ 1048576) (c : Int) (cs : List Value) (w : World) (h : Rd w w.heap.size t cs) (D : Dt) (hD : D = srcD c t) :
    Calls Tryz.prog 20 #[.int .i64 c, .agg cs.toArray] w (ToA w D) := by
  have HDD := Lib.hid hD
  obtain ⟨y0, y1, y2, y3, y4, n4, c4, y5, n5, c5, y6, n6, c6, rfl⟩ := ht.form h
  have hkk := kd_cell ht h
  have HKD := Lib.hid hkk.1
  have HT := Lib.hid (TabR.of ht h (Nat.le_refl _))
  obtain ⟨hn6, hq6, hx6⟩ := HT.out.2.lst_len
  subst hn6
  obtain ⟨hn5, hq5, -⟩ := HT.out.1.lst_len
  rw [List.length_map] at hn5
  subst hn5
  have hwp := wt_parts8 ht
  have hr12 : t.rw.length ≤ 1048576 := by omega
  have hc12 : t.co.length ≤ 1048576 := by simp only [Dt.wt, List.length_map] at hwp; omega
  clear hwp hx6
  have HV := Lib.hid (And.intro ht (And.intro hw h))
  have h0 := ((MSt.start w).new 28 7 #[.int .i64 y0, .int .i64 y1, .int .i64 y2, .string y3, .slice y4 n4 c4, .slice y5 t.co.length c5, .slice y6 t.rw.length c6] rfl).new 28 7 #[.int .i64 0, .int .i64 0, .int .i64 0, .string ⟨#[]⟩, .slice none 0 0, .slice none 0 0, .slice none 0 0] rfl
  simp only [World.size_alloc] at h0
  have H0 := Lib.hid h0
  clear h0 ht hw h hD hkk
  go_enter Tryz.func20, Tryz.ntmps20
  obtain ⟨fA0, fA1, fA2, fA3, fA4, fA5, fA6, fAlt⟩ := box7 (MSt.box (MSt.nth (L1 := [_]) H0.out))
  go_wp2_with fail
  clear fA0 fA1 fA2 fA3 fA4 fA5 fA6 fAlt
  refine (validTableI_any HV.out.1 HV.out.2.1 _ _ _ _ _ _ _ _ _ _ _ _ _ _ ((HV.out.2.2.below H0.out.bel).more H0.out.size)).mono ?_
  rintro e w2 ⟨v, b, rfl, hv, hb⟩
  have H1 := Lib.hid (H0.out.later hb)
  have HVT := Lib.hid hv
  clear hb hv
  cases b
  · obtain ⟨hno, A7, n7, c7, A8, n8, c8, rfl⟩ := HVT.out.ff
    obtain rfl : D = errD 4 := HDD.out.trans (srcD_no (fun hh => hno hh.1))
    clear hno HVT
    obtain ⟨fA0, fA1, fA2, fA3, fA4, fA5, fA6, fAlt⟩ := box7 (MSt.box (MSt.nth (L1 := [_]) H1.out))
    go_wp2_with fail
    have H2 := Lib.hid (H1.out.new 69 2 #[.slice A7 n7 c7, .slice A8 n8 c8] rfl)
    clear fA0 fA1 fA2 fA3 fA4 fA5 fA6 fAlt
    refine (implErrorValue_any 4 _).mono ?_
    rintro e w3 ⟨rfl, hb⟩
    have H3 := Lib.hid (H2.out.later hb)
    clear hb
    obtain ⟨fR0, fR1, fR2, fR3, fR4, fR5, fR6, fRlt⟩ := box7 (MSt.box (MSt.nth (L1 := [_]) H3.out))
    obtain ⟨zR0, zR1, zR2, zR3, zR4, zR5, zR6⟩ := box7z (MSt.box (MSt.nth (L1 := [_]) H3.out))
    go_wp2_with fail
    obtain ⟨W7, hW, hg, y0, y1, y2, y3, y4, y5, y6⟩ := MSt.put (MSt.nth (L1 := [_]) H3.out) (.int .i64 6) (.int .i64 4) (.int .i64 0) (.string ⟨#[]⟩) (.slice none 0 0) (.slice none 0 0) (.slice none 0 0)
    rw [← hW]
    refine bodyPost_ret (v := .agg #[.int .i64 6, .int .i64 4, .int .i64 0, .string ⟨#[]⟩, .slice none 0 0, .slice none 0 0, .slice none 0 0]) (by simp [results, Tryz.results20, go_sem, y0, y1, y2, y3, y4, y5, y6]) rfl (toA_flat0 rfl hg.bel)
  · obtain ⟨hyes, rfl⟩ := HVT.out.tt
    have HYS := Lib.hid hyes
    clear hyes HVT
    by_cases hc : c < 0
    · obtain rfl : D = errD 4 := HDD.out.trans (srcD_no (fun hh => hh.2 hc))
      obtain ⟨fA0, fA1, fA2, fA3, fA4, fA5, fA6, fAlt⟩ := box7 (MSt.box (MSt.nth (L1 := [_]) H1.out))
      go_wp2_with fail
      have H2 := Lib.hid (H1.out.new 69 2 #[.slice y5 t.co.length c5, .slice y6 t.rw.length c6] rfl)
      clear fA0 fA1 fA2 fA3 fA4 fA5 fA6 fAlt
      refine (implErrorValue_any 4 _).mono ?_
      rintro e w3 ⟨rfl, hb⟩
      have H3 := Lib.hid (H2.out.later hb)
      clear hb
      obtain ⟨fR0, fR1, fR2, fR3, fR4, fR5, fR6, fRlt⟩ := box7 (MSt.box (MSt.nth (L1 := [_]) H3.out))
      obtain ⟨zR0, zR1, zR2, zR3, zR4, zR5, zR6⟩ := box7z (MSt.box (MSt.nth (L1 := [_]) H3.out))
      go_wp2_with fail
      obtain ⟨W7, hW, hg, y0, y1, y2, y3, y4, y5, y6⟩ := MSt.put (MSt.nth (L1 := [_]) H3.out) (.int .i64 6) (.int .i64 4) (.int .i64 0) (.string ⟨#[]⟩) (.slice none 0 0) (.slice none 0 0) (.slice none 0 0)
      rw [← hW]
      refine bodyPost_ret (v := .agg #[.int .i64 6, .int .i64 4, .int .i64 0, .string ⟨#[]⟩, .slice none 0 0, .slice none 0 0, .slice none 0 0]) (by simp [results, Tryz.results20, go_sem, y0, y1, y2, y3, y4, y5, y6]) rfl (toA_flat0 rfl hg.bel)
    · obtain rfl : D = tblD t.co (srcF c 0 t.rw) := HDD.out.trans (srcD_yes HYS.out hc)
      obtain ⟨fA0, fA1, fA2, fA3, fA4, fA5, fA6, fAlt⟩ := box7 (MSt.box (MSt.nth (L1 := [_]) H1.out))
      have h2 := H1.out.new 69 2 #[.slice y5 t.co.length c5, .slice y6 t.rw.length c6] rfl
      have H2 := Lib.hid h2
      obtain ⟨gC, hgC⟩ : ∃ gC, gC = w2.heap.size := ⟨_, rfl⟩
      rw [← hgC] at h2 H2
      have hb2 := MSt.box h2
      have fC0 := hb2.cellAt 0 (by decide)
      have fC1 := hb2.cellAt 1 (by decide)
      have fClt := (hb2.lt _ rfl).2
      simp only [List.getElem?_cons_zero, List.getElem?_cons_succ] at fC0 fC1
      clear hb2 h2
      rw [hgC] at fC0 fC1 fClt
      go_wp2_with fail
      rw [← hgC] at *
      clear fA0 fA1 fA2 fA3 fA4 fA5 fA6 fAlt
      clear fC0 fC1 fClt
      have HS : Hid (MSt w [rowA 38 2 (.slice none 0 0) 0 [], owLA (srcF c 0 (t.rw.take 0)) [] [], boxA 69 2 gC [.slice y5 t.co.length c5, .slice y6 t.rw.length c6], boxA 28 7 (w.heap.size + 1) [.int .i64 0, .int .i64 0, .int .i64 0, .string ⟨#[]⟩, .slice none 0 0, .slice none 0 0, .slice none 0 0], boxA 28 7 w.heap.size [.int .i64 y0, .int .i64 y1, .int .i64 y2, .string y3, .slice y4 n4 c4, .slice y5 t.co.length c5, .slice y6 t.rw.length c6]] _) := Lib.hid (H2.out.nilRow 38 2)
      clear H2
      go_loopw [7, 25] (fun v i wr => ∃ (j : Nat) (cl : List Value) (fp : List Nat), j ≤ t.rw.length ∧ i = .int .i64 (j : Int) ∧ Hid (MSt w [rowA 38 2 v j cl, owLA (srcF c 0 (t.rw.take j)) cl fp, boxA 69 2 gC [.slice y5 t.co.length c5, .slice y6 t.rw.length c6], boxA 28 7 (w.heap.size + 1) [.int .i64 0, .int .i64 0, .int .i64 0, .string ⟨#[]⟩, .slice none 0 0, .slice none 0 0, .slice none 0 0], boxA 28 7 w.heap.size [.int .i64 y0, .int .i64 y1, .int .i64 y2, .string y3, .slice y4 n4 c4, .slice y5 t.co.length c5, .slice y6 t.rw.length c6]] wr)) (fun _ i _ => t.rw.length - (intOf i).toNat)
      case atStart => exact ⟨0, _, _, Nat.zero_le _, rfl, HS⟩
      case round =>
        obtain ⟨j, cl, fp, hj, rfl, H1⟩ := hrel
        obtain ⟨A3, q3, rfl⟩ := own_slice H1.out.row
        by_cases hlt : j < t.rw.length
        · obtain ⟨b, o, cs, hA6, hbB, hrd, hlen, hcell⟩ := HT.out.2.at (k := 2) (fun x hx' => (rw_val HV.out.1 x hx').width) (by omega) j hlt
          subst hA6
          obtain ⟨x, hx⟩ : ∃ x, x = t.rw[j] := ⟨_, rfl⟩
          have hxr := rw_val HV.out.1 _ (List.getElem_mem hlt)
          have hwx := wts_mem (List.getElem_mem hlt)
          have hnx := srcF_next (c := c) hlt
          rw [← hx] at hrd hxr hwx hnx
          have hwp := wt_parts8 HV.out.1
          have hwv := HV.out.2.1
          have hxw : x.wt ≤ 1048576 := by omega
          obtain ⟨ns, os, rfl, hos⟩ := hxr
          have hnl : ns.length ≤ 1048576 := by simp only [Dt.wt, wts, List.length_map] at hxw; omega
          obtain ⟨B0, d0, B1, d1, rfl, r0, r1⟩ := Rd.ofRow hrd
          simp only [List.length_map] at hrd
          rw [srcRow_mk] at hnx
          have HNX := Lib.hid hnx
          have HR0 := Lib.hid r0.ints
          have h00 := (H1.out.bel.cell (p := ⟨b, o + j * 2 + 0, none⟩) hbB).trans (hcell 0 (by omega))
          have h01 := (H1.out.bel.cell (p := ⟨b, o + j * 2 + 1, none⟩) hbB).trans (hcell 1 (by omega))
          simp only [List.getElem?_cons_zero, List.getElem?_cons_succ, Nat.add_zero, List.length_map] at h00 h01
          have hws := H1.out.size
          have hbl : b < wr.heap.size := by omega
          have hj2 : (j : Int) < (t.rw.length : Int) := by omega
          clear hrd hnx hx hlen hcell r0 r1 hwx hwp hwv hxw
          go_wp2_with fail
          clear h00 h01
          have H2 := Lib.hid (H1.out.new 38 2 #[.slice B0 ns.length d0, .slice B1 os.length d1] rfl)
          have hb2 := MSt.box H2.out
          have fB0 := hb2.cellAt 0 (by decide)
          have fB1 := hb2.cellAt 1 (by decide)
          have fBlt := (hb2.lt _ rfl).2
          simp only [List.getElem?_cons_zero, List.getElem?_cons_succ] at fB0 fB1
          clear hb2
          go_wp2_with fail
          clear fB0 fB1 fBlt
          refine (cloneI B0 ns.length d0 w.heap.size (intV ns) _ (HR0.out.keep H2.out.bel.block) (by simp [intV]) (by intro u hu; simp only [intV, List.mem_map] at hu; obtain ⟨q, -, rfl⟩ := hu; rfl) hnl H2.out.size).mono ?_
          rintro e w3 ⟨vN, rfl, hown, hb⟩
          obtain ⟨AN, qN, rfl⟩ := own_slice hown
          have h3 := (MSt.add H2.out hb (rowA_at hown)).close0 (xs := ns.map .int) (fun w' => OwL.ints w' ns) (List.length_map _).symm
          have h4 := MSt.row2s ((MSt.close0 (MSt.row_lit h3 77 2 1 #[.int .i64 c, .int .i64 (j : Int)] (by unfold maxLen; omega) rfl) (xs := orgsD [(c, (j : Int))]) (fun w' => orgs_owl w' [(c, (j : Int))]) rfl).swap)
          have HO4 := Lib.hid (MSt.read h4).one
          have hs3 : w.heap.size ≤ w3.heap.size := MSt.size h3
          have H4 := Lib.hid h4
          clear h3 h4 hown hb
          go_wp2_with (at_builtin; refine appR _ rfl (.tmp 30) (.tmp 39) rfl w.heap.size (.slice A3 j q3) j cl rfl (((MSt.nth (L1 := [_, _]) H4.out).alloc _).row) (some ⟨w3.heap.size + 1, 0, none⟩) 1 1 (w3.heap.size + 1 + 1) [.slice AN ns.length qN, .slice (some ⟨w3.heap.size, 0, none⟩) 1 1] rfl rfl (row_newG8 _ #[.slice AN ns.length qN, .slice (some ⟨w3.heap.size, 0, none⟩) 1 1] 38 _ (by simp)) HO4.out (by omega) (by simp; omega) ?_; intro v7 w7 hown7 hgr7 hn7; have h7 := MSt.push (MSt.subB (MSt.app ((MSt.nth (L1 := [_, _]) H4.out).alloc (.cells #[.slice AN ns.length qN, .slice (some ⟨w3.heap.size, 0, none⟩) 1 1] 38)) hgr7 hown7 hn7.2) (.cons_cons _ (.cons_cons _ (.cons _ (List.Sublist.refl _))))); rw [← HNX.out] at h7; have H7 := Lib.hid h7; clear h7 hown7 hgr7 hn7)
          exact ⟨⟨j + 1, _, _, by omega, by simp, H7⟩, by simp [intOf]; omega⟩
        · obtain rfl : j = t.rw.length := by omega
          have h1 := H1.out
          rw [List.take_length] at h1
          have h2 := h1.close (srcF_len c 0 t.rw).symm
          have H2 := Lib.hid h2
          clear h1 h2 H1
          have hb2 := MSt.box (MSt.nth (L1 := [_]) H2.out)
          have fC0 := hb2.cellAt 0 (by decide)
          have fC1 := hb2.cellAt 1 (by decide)
          have fClt := (hb2.lt _ rfl).2
          simp only [List.getElem?_cons_zero, List.getElem?_cons_succ] at fC0 fC1
          clear hb2
          go_wp2_with fail
          clear fC0 fC1 fClt
          refine (cloneS_any y5 c5 t.co t.co.length rfl w.heap.size _ (HT.out.1.strs.keep H2.out.bel.block) (by omega)).mono ?_
          rintro e w2 ⟨A7, c7, rfl, hown, hb⟩
          have H3 := Lib.hid ((H2.out.add hb (rowA_at hown)).close0 (xs := t.co.map .str) (fun w' => OwL.strs w' t.co) (by simp))
          clear hown hb
          go_wp2_with fail
          refine (value5_any 0 0 ⟨#[]⟩ none A7 A3 0 0 t.co.length c7 t.rw.length q3 _).mono ?_
          rintro e w4 ⟨rfl, hb⟩
          have H4 := Lib.hid (MSt.tbl (H3.out.later hb))
          clear hb
          obtain ⟨fR0, fR1, fR2, fR3, fR4, fR5, fR6, fRlt⟩ := box7 (MSt.box (MSt.nth (L1 := [_, _]) H4.out))
          obtain ⟨zR0, zR1, zR2, zR3, zR4, zR5, zR6⟩ := box7z (MSt.box (MSt.nth (L1 := [_, _]) H4.out))
          go_wp2_with fail
          obtain ⟨W7, hW, hg, y0, y1, y2, y3, y4, y5, y6⟩ := MSt.put (MSt.nth (L1 := [_, _]) H4.out) (.int .i64 5) (.int .i64 0) (.int .i64 0) (.string ⟨#[]⟩) (.slice none 0 0) (.slice A7 t.co.length c7) (.slice A3 t.rw.length q3)
          rw [← hW]
          refine bodyPost_ret (v := .agg #[.int .i64 5, .int .i64 0, .int .i64 0, .string ⟨#[]⟩, .slice none 0 0, .slice A7 t.co.length c7, .slice A3 t.rw.length q3]) (by simp [results, Tryz.results20, go_sem, y0, y1, y2, y3, y4, y5, y6]) rfl ((MSt.nth (L1 := [_]) hg).give)

end Go.Proofs.YtdnneilbgekccabGreat

/-
  A table that is owned, taken apart and put together. (Written by gentab.py.)
-/

namespace Go.Proofs.YtdnneilbgekccabGreat
open Go.RowKit Go.Maps
set_option linter.unusedVariables false
set_option linter.unusedSimpArgs false

theorem Objs.part {B : Nat} {w : World} {a b c : Asn} {L : List Asn} (h : Objs B w (c :: L)) (h1 : a.holds w) (h2 : b.holds w) (l1 : a.Loc) (l2 : b.Loc) (fa : ∀ k, a.foot k → c.foot k) (fb : ∀ k, b.foot k → c.foot k) (ap : ∀ k, a.foot k → ¬ b.foot k) : Objs B w (a :: b :: L) := by
  have hc := List.pairwise_cons.1 h.2
  have hcc := h.1 c (by simp)
  refine ⟨fun x hx => ?_, List.pairwise_cons.2 ⟨fun x hx => ?_, List.pairwise_cons.2 ⟨fun x hx k hk => hc.1 x hx k (fb k hk), hc.2⟩⟩⟩
  · rcases List.mem_cons.1 hx with rfl | hx
    · exact ⟨h1, l1, fun k hk => hcc.2.2 k (fa k hk)⟩
    · rcases List.mem_cons.1 hx with rfl | hx
      · exact ⟨h2, l2, fun k hk => hcc.2.2 k (fb k hk)⟩
      · exact h.1 x (List.mem_cons_of_mem _ hx)
  · rcases List.mem_cons.1 hx with rfl | hx
    · exact ap
    · exact fun k hk => hc.1 x hx k (fa k hk)
theorem owl_cons {w : World} {x : Dt} {xs : List Dt} {cs : List Value} {fp : List Nat} : OwL w (x :: xs) cs fp ↔ ∃ c1 c2 f1 f2, cs = c1 ++ c2 ∧ fp = f1 ++ f2 ∧ Ow w x c1 f1 ∧ OwL w xs c2 f2 := by rw [OwL]
/-- The first of some trees is a thing of its own. -/
theorem MSt.uncons {w wx : World} {L : List Asn} {x : Dt} {xs : List Dt} {cs : List Value} {fp : List Nat} (h : MSt w (owLA (x :: xs) cs fp :: L) wx) : ∃ c1 c2 f1 f2, cs = c1 ++ c2 ∧ fp = f1 ++ f2 ∧ Ow wx x c1 f1 ∧ MSt w (owA x c1 f1 :: owLA xs c2 f2 :: L) wx := by
  obtain ⟨hh, hnd⟩ := h.1.head
  obtain ⟨c1, c2, f1, f2, rfl, rfl, h1, h2⟩ := owl_cons.1 hh
  have hn := List.nodup_append.1 hnd
  exact ⟨c1, c2, f1, f2, rfl, rfl, h1, h.alter fun o => o.part ⟨h1, hn.1⟩ ⟨h2, hn.2.1⟩ (owA_loc _ _ _) (owLA_loc _ _ _) (fun k hk => List.mem_append.2 (.inl hk)) (fun k hk => List.mem_append.2 (.inr hk)) (fun k hk hk2 => hn.2.2 k hk k hk2 rfl)⟩
theorem MSt.unnil {w wx : World} {L : List Asn} {cs : List Value} {fp : List Nat} (h : MSt w (owLA [] cs fp :: L) wx) : cs = [] ∧ MSt w L wx := by
  obtain ⟨hh, -⟩ := h.1.head
  simp only [OwL] at hh
  exact ⟨hh.1, h.drop⟩
theorem MSt.unagg {w wx : World} {L : List Asn} {fs : List Dt} {cs : List Value} {fp : List Nat} (h : MSt w (owA (.agg fs) cs fp :: L) wx) : MSt w (owLA fs cs fp :: L) wx :=
  h.alter fun o => o.weak (fun h => ⟨by have h1 := h.1; simp only [Ow] at h1; exact h1, h.2⟩) (owLA_loc _ _ _) (fun _ h => h)
theorem ow_lst1 {w : World} {xs : List Dt} {cs : List Value} {fp : List Nat} (h : Ow w (.lst xs) cs fp) : ∃ A c, cs = [.slice A xs.length c] := by
  simp only [Ow] at h
  obtain ⟨A, c, e, k, cells, fp', rfl, -⟩ := h
  exact ⟨A, c, rfl⟩
/-- A list is a row and trees. -/
theorem MSt.unlst {w wx : World} {L : List Asn} {xs : List Dt} {v : Value} {fp : List Nat} (h : MSt w (owA (.lst xs) [v] fp :: L) wx) : ∃ A c e k cells f, v = .slice A xs.length c ∧ MSt w (rowA e k (.slice A xs.length c) xs.length cells :: owLA xs cells f :: L) wx := by
  obtain ⟨hh, hnd⟩ := h.1.head
  simp only [Ow] at hh
  obtain ⟨A, c, e, k, cells, f, he, h1, h2, rfl⟩ := hh
  injection he with he
  have hn := List.nodup_append.1 hnd
  exact ⟨A, c, e, k, cells, f, he, h.alter fun o => o.part h1 ⟨h2, hn.2.1⟩ (rowA_loc _ _ _ _ _) (owLA_loc _ _ _) (fun k hk => List.mem_append.2 (.inl (by have hk : (Value.slice A xs.length c).ownBlock = some k := hk; rw [hk]; simp))) (fun k hk => List.mem_append.2 (.inr hk))
    (fun k hk hk2 => hn.2.2 k (by have hk : (Value.slice A xs.length c).ownBlock = some k := hk; rw [hk]; simp) k hk2 rfl)⟩
/-- A row of a table: its cells stay, its origins are given up. -/
theorem MSt.unrow {w wx : World} {L : List Asn} {a b : List Dt} {cs : List Value} {fp : List Nat} (h : MSt w (owA (.agg [.lst a, .lst b]) cs fp :: L) wx) : ∃ A c s1 f0, cs = [.slice A a.length c, s1] ∧ MSt w (owA (.lst a) [.slice A a.length c] f0 :: L) wx := by
  obtain ⟨c1, c2, f1, f2, rfl, rfl, h1, h2⟩ := h.unagg.uncons
  obtain ⟨A, c, rfl⟩ := ow_lst1 h1
  obtain ⟨c3, c4, f3, f4, rfl, rfl, h3, h4⟩ := h2.swap.uncons
  obtain ⟨A', c', rfl⟩ := ow_lst1 h3
  obtain ⟨rfl, h5⟩ := h4.swap.unnil
  exact ⟨A, c, _, _, rfl, h5.drop⟩
/-- A table taken apart. -/
theorem MSt.untab {w wx : World} {L : List Asn} {t : Dt} {co : List ByteArray} {rs : List Dt} (ht : t = tblD co rs) {cs : List Value} {fp : List Nat} (h : MSt w (owA t cs fp :: L) wx) : ∃ s4 s5 s6 f4 f5 f6, cs = [.int .i64 5, .int .i64 0, .int .i64 0, .string ⟨#[]⟩, s4, s5, s6] ∧ MSt w (owA (.lst rs) [s6] f6 :: owA (.lst (co.map .str)) [s5] f5 :: owA (.lst []) [s4] f4 :: L) wx := by
  subst ht
  obtain ⟨c0, r0, f0, g0, rfl, rfl, h0, k0⟩ := h.unagg.uncons
  simp only [Ow] at h0
  obtain ⟨rfl, rfl⟩ := h0
  obtain ⟨c1, r1, f1, g1, rfl, rfl, h1, k1⟩ := k0.drop.uncons
  simp only [Ow] at h1
  obtain ⟨rfl, rfl⟩ := h1
  obtain ⟨c2, r2, f2, g2, rfl, rfl, h2, k2⟩ := k1.drop.uncons
  simp only [Ow] at h2
  obtain ⟨rfl, rfl⟩ := h2
  obtain ⟨c3, r3, f3, g3, rfl, rfl, h3, k3⟩ := k2.drop.uncons
  simp only [Ow] at h3
  obtain ⟨rfl, rfl⟩ := h3
  obtain ⟨c4, r4, f4, g4, rfl, rfl, h4, k4⟩ := k3.drop.uncons
  obtain ⟨A4, q4, rfl⟩ := ow_lst1 h4
  obtain ⟨c5, r5, f5, g5, rfl, rfl, h5, k5⟩ := k4.swap.uncons
  obtain ⟨A5, q5, rfl⟩ := ow_lst1 h5
  obtain ⟨c6, r6, f6, g6, rfl, rfl, h6, k6⟩ := k5.swap.uncons
  obtain ⟨A6, q6, rfl⟩ := ow_lst1 h6
  obtain ⟨rfl, k7⟩ := k6.swap.unnil
  exact ⟨_, _, _, _, _, _, rfl, k7⟩
/-- A table put together. -/
theorem MSt.retab {w wx : World} {L : List Asn} {co : List ByteArray} {rs : List Dt} {s4 s5 s6 : Value} {f4 f5 f6 : List Nat} (h : MSt w (owA (.lst []) [s4] f4 :: owA (.lst (co.map .str)) [s5] f5 :: owA (.lst rs) [s6] f6 :: L) wx) :
    ∃ fp, MSt w (owA (tblD co rs) [.int .i64 5, .int .i64 0, .int .i64 0, .string ⟨#[]⟩, s4, s5, s6] fp :: L) wx := by
  refine ⟨f4 ++ (f5 ++ f6), h.alter fun o => ?_⟩
  have o1 := Objs.pair (Objs.single (Objs.nth (L1 := [_, _]) (Objs.single (Objs.nth (L1 := [_, _]) o))))
  have o2 := Objs.pair (Objs.single (Objs.swap o1))
  refine Objs.agg (o2.weak (fun h => ⟨?_, h.2⟩) (owLA_loc _ _ _) (fun _ h => h))
  have h1 := h.1
  exact owl_cons.2 ⟨[_], _, [], _, rfl, rfl, by simp [Ow], owl_cons.2 ⟨[_], _, [], _, rfl, rfl, by simp [Ow], owl_cons.2 ⟨[_], _, [], _, rfl, rfl, by simp [Ow], owl_cons.2 ⟨[_], _, [], _, rfl, rfl, by simp [Ow], h1⟩⟩⟩⟩
theorem tbl_eq {t : Dt} (ht : IsVal t) (hk : t.kd = 5) (hs : t.SV) : t = tblD t.co t.rw := by
  have hf : Fine t := ⟨hs, by rw [hk]; decide⟩
  obtain ⟨k, n, s, x, l, c, r, hl, hr⟩ := ht
  obtain ⟨-, rfl, rfl, rfl, rfl⟩ := tab_fine hf hk
  rw [co_mk, rw_mk]
  have hk5 : k = 5 := hk
  subst hk5
  rfl
theorem own_cellAt {w : World} {base : Nat} {e : TypeId} {k g n c : Nat} {xs : List Value} (h : w.ownsRow base e k (.slice (some ⟨g, 0, none⟩) n c) n xs) {p : Nat} {u : Value} (hu : xs[p]? = some u) : w.cell? ⟨g, p, none⟩ = some u ∧ w.frozen? ⟨g, p, none⟩ = false ∧ g < w.heap.size := by
  have h1 := h.cells (g := g) rfl p u hu
  rw [show (⟨g, 0, none⟩ : Addr).add p = ⟨g, 0 + p, none⟩ by unfold Addr.add; split <;> simp_all, Nat.zero_add] at h1
  exact ⟨h1, h.frozenAt p, (h.lt g rfl).2⟩
theorem mid_get {cl cr : List Value} {a b : Value} {j : Nat} (h : cl.length = j * 2) : (cl ++ ([a, b] ++ cr))[j * 2 + 1]? = some b := by
  rw [List.getElem?_append_right (by omega), h, show j * 2 + 1 - j * 2 = 1 by omega]
  rfl
theorem mid_set {cl cr : List Value} {a b u : Value} {j : Nat} (h : cl.length = j * 2) : setsAt (cl ++ ([a, b] ++ cr)) (j * 2 + 1) [u] = (cl ++ [a, u]) ++ cr := by
  have h1 := setsAt_mid [u] [b] (cl ++ [a]) cr rfl
  rw [List.length_append, h] at h1
  simpa using h1

end Go.Proofs.YtdnneilbgekccabGreat
