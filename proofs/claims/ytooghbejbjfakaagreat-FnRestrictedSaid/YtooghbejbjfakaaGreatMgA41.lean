/-
  Texts that the proof rests on, put together: SrcS, ResI, OrgA, ResMath, OrgsS.
-/
import Derived.Test.YtooghbejbjfakaaGreatMgA40
import Derived.Test.YtooghbejbjfakaaGreatMgA35
import Derived.Test.YtooghbejbjfakaaGreatMgA37
import Derived.Test.YtooghbejbjfakaaGreatMgA34
import Derived.Test.YtooghbejbjfakaaGreatMgA32
import Derived.Test.YtooghbejbjfakaaGreatMgA19
import Derived.Test.YtooghbejbjfakaaGreatMgA14
import Derived.Maps.Views
import Derived.Deep.RegionLaw
import Derived.Deep.RegionHeld3
import Derived.Outline
import Derived.Test.YtooghbejbjfakaaGreatMgA28
import Derived.Test.YtooghbejbjfakaaGreatMgA25
import Derived.Test.YtooghbejbjfakaaGreatMgA5
/-
  SourceTable, the model's. (Written by gentab.py.)
-/

namespace Go.Proofs.YtooghbejbjfakaaGreat
open Go.RowKit Go.Maps
set_option linter.unusedVariables false
set_option linter.unusedSimpArgs false

set_option maxHeartbeats 6400000 in
set_option maxRecDepth 100000 in
theorem specSource_any {t : Dt} (ht : IsVal t) (hw : t.wt ≤ 1048576) (c : Int) (cs : List Value) (w : World) (h : Rd w w.heap.size t cs) (D : Dt) (hD : D = srcD c t) :
    Calls Tryz.prog 39 #[.int .i64 c, .agg cs.toArray] w (ToA w D) := by
  have HDD := Lib.hid hD
  obtain ⟨y0, y1, y2, y3, y4, n4, c4, y5, n5, c5, y6, n6, c6, rfl⟩ := ht.form h
  have hkk := kd_cell ht h
  have HKD := Lib.hid hkk.1
  have HT := Lib.hid (TabR.of ht h (Nat.le_refl _))
  obtain ⟨hn6, hq6, hx6⟩ := HT.out.2.lst_len
  subst hn6
  obtain ⟨hn5, hq5, -⟩ := HT.out.1.lst_len
  rw [List.length_map] at hn5
  subst hn5
  have hwp := wt_parts8 ht
  have hr12 : t.rw.length ≤ 1048576 := by omega
  have hc12 : t.co.length ≤ 1048576 := by simp only [Dt.wt, List.length_map] at hwp; omega
  clear hwp hx6
  have HV := Lib.hid (And.intro ht (And.intro hw h))
  have h0 := ((MSt.start w).new 28 7 #[.int .i64 y0, .int .i64 y1, .int .i64 y2, .string y3, .slice y4 n4 c4, .slice y5 t.co.length c5, .slice y6 t.rw.length c6] rfl).new 28 7 #[.int .i64 0, .int .i64 0, .int .i64 0, .string ⟨#[]⟩, .slice none 0 0, .slice none 0 0, .slice none 0 0] rfl
  simp only [World.size_alloc] at h0
  have H0 := Lib.hid h0
  clear h0 ht hw h hD hkk
  go_enter Tryz.func39, Tryz.ntmps39
  by_cases h5 : y0 = 5
  rotate_left
  · have hne : (y0 != 5) = true := by simpa using h5
    obtain rfl : D = errD 4 := HDD.out.trans (srcD_no (fun hh => h5 (by rw [← HKD.out]; exact hh.1.1)))
    obtain ⟨fA0, fA1, fA2, fA3, fA4, fA5, fA6, fAlt⟩ := box7 (MSt.box (MSt.nth (L1 := [_]) H0.out))
    go_wp2_with fail
    refine (specErrorValue_any 4 _).mono ?_
    rintro e w1 ⟨rfl, hb⟩
    have H1 := Lib.hid (H0.out.later hb)
    clear hb
    clear fA0 fA1 fA2 fA3 fA4 fA5 fA6 fAlt
    obtain ⟨fR0, fR1, fR2, fR3, fR4, fR5, fR6, fRlt⟩ := box7 (MSt.box H1.out)
    obtain ⟨zR0, zR1, zR2, zR3, zR4, zR5, zR6⟩ := box7z (MSt.box H1.out)
    go_wp2_with fail
    obtain ⟨W7, hW, hg, y0, y1, y2, y3, y4, y5, y6⟩ := MSt.put H1.out (.int .i64 6) (.int .i64 4) (.int .i64 0) (.string ⟨#[]⟩) (.slice none 0 0) (.slice none 0 0) (.slice none 0 0)
    rw [← hW]
    refine bodyPost_ret (v := .agg #[.int .i64 6, .int .i64 4, .int .i64 0, .string ⟨#[]⟩, .slice none 0 0, .slice none 0 0, .slice none 0 0]) (by simp [results, Tryz.results39, go_sem, y0, y1, y2, y3, y4, y5, y6]) rfl (toA_flat0 rfl hg.bel)
  subst h5
  obtain ⟨fA0, fA1, fA2, fA3, fA4, fA5, fA6, fAlt⟩ := box7 (MSt.box (MSt.nth (L1 := [_]) H0.out))
  go_wp2_with fail
  clear fA0 fA1 fA2 fA3 fA4 fA5 fA6 fAlt
  refine (specValidV HV.out.1 HV.out.2.1 _ _ ((HV.out.2.2.below H0.out.bel).more H0.out.size)).mono ?_
  rintro e w1 ⟨bv, rfl, hbv, hb⟩
  have H1 := Lib.hid (H0.out.later hb)
  clear hb
  have HBV := Lib.hid hbv
  clear hbv
  cases bv
  · obtain rfl : D = errD 4 := HDD.out.trans (srcD_no (fun hh => absurd (HBV.out.2 hh.1.2) (by simp)))
    obtain ⟨fA0, fA1, fA2, fA3, fA4, fA5, fA6, fAlt⟩ := box7 (MSt.box (MSt.nth (L1 := [_]) H1.out))
    go_wp2_with fail
    refine (specErrorValue_any 4 _).mono ?_
    rintro e w2 ⟨rfl, hb⟩
    have H2 := Lib.hid (H1.out.later hb)
    clear hb
    clear fA0 fA1 fA2 fA3 fA4 fA5 fA6 fAlt
    obtain ⟨fR0, fR1, fR2, fR3, fR4, fR5, fR6, fRlt⟩ := box7 (MSt.box H2.out)
    obtain ⟨zR0, zR1, zR2, zR3, zR4, zR5, zR6⟩ := box7z (MSt.box H2.out)
    go_wp2_with fail
    obtain ⟨W7, hW, hg, y0, y1, y2, y3, y4, y5, y6⟩ := MSt.put H2.out (.int .i64 6) (.int .i64 4) (.int .i64 0) (.string ⟨#[]⟩) (.slice none 0 0) (.slice none 0 0) (.slice none 0 0)
    rw [← hW]
    refine bodyPost_ret (v := .agg #[.int .i64 6, .int .i64 4, .int .i64 0, .string ⟨#[]⟩, .slice none 0 0, .slice none 0 0, .slice none 0 0]) (by simp [results, Tryz.results39, go_sem, y0, y1, y2, y3, y4, y5, y6]) rfl (toA_flat0 rfl hg.bel)
  · by_cases hc : c < 0
    · obtain rfl : D = errD 4 := HDD.out.trans (srcD_no (fun hh => hh.2 hc))
      obtain ⟨fA0, fA1, fA2, fA3, fA4, fA5, fA6, fAlt⟩ := box7 (MSt.box (MSt.nth (L1 := [_]) H1.out))
      go_wp2_with fail
      refine (specErrorValue_any 4 _).mono ?_
      rintro e w2 ⟨rfl, hb⟩
      have H2 := Lib.hid (H1.out.later hb)
      clear hb
      clear fA0 fA1 fA2 fA3 fA4 fA5 fA6 fAlt
      obtain ⟨fR0, fR1, fR2, fR3, fR4, fR5, fR6, fRlt⟩ := box7 (MSt.box H2.out)
      obtain ⟨zR0, zR1, zR2, zR3, zR4, zR5, zR6⟩ := box7z (MSt.box H2.out)
      go_wp2_with fail
      obtain ⟨W7, hW, hg, y0, y1, y2, y3, y4, y5, y6⟩ := MSt.put H2.out (.int .i64 6) (.int .i64 4) (.int .i64 0) (.string ⟨#[]⟩) (.slice none 0 0) (.slice none 0 0) (.slice none 0 0)
      rw [← hW]
      refine bodyPost_ret (v := .agg #[.int .i64 6, .int .i64 4, .int .i64 0, .string ⟨#[]⟩, .slice none 0 0, .slice none 0 0, .slice none 0 0]) (by simp [results, Tryz.results39, go_sem, y0, y1, y2, y3, y4, y5, y6]) rfl (toA_flat0 rfl hg.bel)
    · obtain rfl : D = tblD t.co (srcF c 0 t.rw) := HDD.out.trans (srcD_yes ⟨HKD.out, HBV.out.1 (by trivial)⟩ hc)
      obtain ⟨fA0, fA1, fA2, fA3, fA4, fA5, fA6, fAlt⟩ := box7 (MSt.box (MSt.nth (L1 := [_]) H1.out))
      go_wp2_with fail
      clear fA0 fA1 fA2 fA3 fA4 fA5 fA6 fAlt
      refine (l3Copy_any HV.out.1 HV.out.2.1 _ _ ((HV.out.2.2.below H1.out.bel).more H1.out.size)).mono ?_
      rintro e wS ⟨csT, fpT, rfl, how, hnf, hb⟩
      have h2 := H1.out.add hb (owA_at how hnf)
      obtain ⟨s4, s5, s6, f4, f5, f6, rfl, h3⟩ := h2.untab (tbl_eq HV.out.1 HKD.out (HBV.out.1 (by trivial)))
      obtain ⟨A5, q5, e5⟩ := ow_lst1 (MSt.nth (L1 := [_]) h3).1.head.1
      obtain ⟨A4, q4, e4⟩ := ow_lst1 (MSt.nth (L1 := [_, _]) h3).1.head.1
      obtain ⟨A6, q6, eR, kR, cl, fR, rfl, h4⟩ := h3.unlst
      injection e5 with e5 _
      injection e4 with e4 _
      rw [List.length_map] at e5
      rw [List.length_nil] at e4
      subst e4 e5
      have h5 := MSt.nth (L1 := [_, _]) (MSt.nth (L1 := [_, _]) (MSt.drop ((h4.new 28 7 #[.int .i64 5, .int .i64 0, .int .i64 0, .string ⟨#[]⟩, .slice A4 0 q4, .slice A5 t.co.length q5, .slice A6 t.rw.length q6] rfl).nilRow 0 0)))
      have hwS := MSt.size h4
      clear h2 h3 h4 how hnf hb
      have HS : Hid (MSt w [boxA 28 7 wS.heap.size [.int .i64 5, .int .i64 0, .int .i64 0, .string ⟨#[]⟩, .slice A4 0 q4, .slice A5 t.co.length q5, .slice A6 t.rw.length q6], rowA eR kR (.slice A6 t.rw.length q6) t.rw.length ([] ++ cl), owLA (srcF c 0 (t.rw.take 0)) [] [], owLA (t.rw.drop 0) cl fR, owA (.lst (t.co.map .str)) [.slice A5 t.co.length q5] f5, owA (.lst []) [.slice A4 0 q4] f4, boxA 28 7 (w.heap.size + 1) [.int .i64 0, .int .i64 0, .int .i64 0, .string ⟨#[]⟩, .slice none 0 0, .slice none 0 0, .slice none 0 0], boxA 28 7 w.heap.size [.int .i64 5, .int .i64 y1, .int .i64 y2, .string y3, .slice y4 n4 c4, .slice y5 t.co.length c5, .slice y6 t.rw.length c6]] _) := Lib.hid h5
      clear h5
      go_wp2_with fail
      go_loopw [6] (fun i wr => ∃ (j : Nat) (clD clT : List Value) (fpD fpT : List Nat), j ≤ t.rw.length ∧ i = .int .i64 (j : Int) ∧ Hid (clD.length = j * 2) ∧ Hid (MSt w [boxA 28 7 wS.heap.size [.int .i64 5, .int .i64 0, .int .i64 0, .string ⟨#[]⟩, .slice A4 0 q4, .slice A5 t.co.length q5, .slice A6 t.rw.length q6], rowA eR kR (.slice A6 t.rw.length q6) t.rw.length (clD ++ clT), owLA (srcF c 0 (t.rw.take j)) clD fpD, owLA (t.rw.drop j) clT fpT, owA (.lst (t.co.map .str)) [.slice A5 t.co.length q5] f5, owA (.lst []) [.slice A4 0 q4] f4, boxA 28 7 (w.heap.size + 1) [.int .i64 0, .int .i64 0, .int .i64 0, .string ⟨#[]⟩, .slice none 0 0, .slice none 0 0, .slice none 0 0], boxA 28 7 w.heap.size [.int .i64 5, .int .i64 y1, .int .i64 y2, .string y3, .slice y4 n4 c4, .slice y5 t.co.length c5, .slice y6 t.rw.length c6]] wr)) (fun i _ => t.rw.length - (intOf i).toNat)
      case atStart => exact ⟨0, [], cl, [], fR, Nat.zero_le _, rfl, Lib.hid rfl, HS⟩
      case round =>
        obtain ⟨j, clD, clT, fpD, fpT, hj, rfl, HCD, H1⟩ := hrel
        by_cases hlt : j < t.rw.length
        · have hxr := rw_val HV.out.1 _ (List.getElem_mem hlt)
          have hnx := srcF_next (c := c) hlt
          have hdr := List.drop_eq_getElem_cons hlt
          obtain ⟨x, hx⟩ : ∃ x, x = t.rw[j] := ⟨_, rfl⟩
          rw [← hx] at hxr hnx hdr
          obtain ⟨ns, os, rfl, hos⟩ := hxr
          rw [srcRow_mk] at hnx
          have h1 := MSt.nth (L1 := [_, _, _]) H1.out
          rw [hdr] at h1
          obtain ⟨c1, clR, f1, fpR, rfl, rfl, -, h2⟩ := h1.uncons
          obtain ⟨A0, c0, s1, f0, rfl, h3⟩ := h2.unrow
          have hrow := MSt.row (MSt.nth (L1 := [_, _, _]) h3)
          obtain ⟨gR, cR, he, -, -⟩ := hrow.form (by omega)
          injection he with e1 e2 e3
          subst e1 e3
          obtain ⟨fC, zC, hgl⟩ := own_cellAt hrow (mid_get HCD.out)
          have h4 := MSt.row2s ((MSt.close0 (MSt.row_lit h3 56 2 1 #[.int .i64 c, .int .i64 (j : Int)] (by unfold maxLen; omega) rfl) (xs := orgsD [(c, (j : Int))]) (fun w' => orgs_owl w' [(c, (j : Int))]) rfl).swap)
          have h5 := MSt.rowSet (MSt.nth (L1 := [_, _, _]) h4) (j * 2 + 1) [.slice (some ⟨wr.heap.size, 0, none⟩) 1 1]
          rw [mid_set HCD.out] at h5
          simp only [World.setCells] at h5
          have h6 := MSt.nth (L1 := [_, _, _]) (MSt.push (MSt.nth (L1 := [_, _]) (MSt.nth (L1 := [_, _]) (MSt.nth (L1 := [_, _, _, _]) h5))))
          rw [← hnx, World.setCell_alloc_past _ _ _ _ hgl] at h6
          have H6 := Lib.hid h6
          have hj2 : (j : Int) < (t.rw.length : Int) := by omega
          have hws := H1.out.size
          clear h1 h2 h3 h4 h5 h6 hrow hnx hdr hx hos
          obtain ⟨fX0, fX1, fX2, fX3, fX4, fX5, fX6, fXlt⟩ := box7 (MSt.box H1.out)
          go_wp2_with fail
          exact ⟨⟨j + 1, _, clR, _, fpR, by omega, by simp, Lib.hid (by rw [List.length_append, HCD.out]; simp only [List.length_cons, List.length_nil]; omega), H6⟩, by simp [intOf]; omega⟩
        · obtain rfl : j = t.rw.length := by omega
          have h1 := MSt.nth (L1 := [_, _, _]) H1.out
          rw [List.take_length, List.drop_length] at h1
          obtain ⟨rfl, h2⟩ := h1.unnil
          rw [List.append_nil] at h2
          have h3 := MSt.close (MSt.nth (L1 := [_, _]) (MSt.nth (L1 := [_, _]) h2)) (srcF_len c 0 t.rw).symm
          obtain ⟨fp, h4⟩ := MSt.retab (MSt.nth (L1 := [_, _, _]) (MSt.nth (L1 := [_, _]) h3))
          have H2 := Lib.hid h4
          clear h1 h2 h3 h4 H1 HCD
          obtain ⟨fX0, fX1, fX2, fX3, fX4, fX5, fX6, fXlt⟩ := box7 (MSt.box (MSt.nth (L1 := [_]) H2.out))
          obtain ⟨fR0, fR1, fR2, fR3, fR4, fR5, fR6, fRlt⟩ := box7 (MSt.box (MSt.nth (L1 := [_, _]) H2.out))
          obtain ⟨zR0, zR1, zR2, zR3, zR4, zR5, zR6⟩ := box7z (MSt.box (MSt.nth (L1 := [_, _]) H2.out))
          go_wp2_with fail
          obtain ⟨W7, hW, hg, y0, y1, y2, y3, y4, y5, y6⟩ := MSt.put (MSt.nth (L1 := [_, _]) H2.out) (.int .i64 5) (.int .i64 0) (.int .i64 0) (.string ⟨#[]⟩) (.slice A4 0 q4) (.slice A5 t.co.length q5) (.slice A6 t.rw.length q6)
          rw [← hW]
          refine bodyPost_ret (v := .agg #[.int .i64 5, .int .i64 0, .int .i64 0, .string ⟨#[]⟩, .slice A4 0 q4, .slice A5 t.co.length q5, .slice A6 t.rw.length q6]) (by simp [results, Tryz.results39, go_sem, y0, y1, y2, y3, y4, y5, y6]) rfl (MSt.nth (L1 := [_]) hg).give

end Go.Proofs.YtooghbejbjfakaaGreat

/-
  RestrictTable, the program's. (Written by gentab.py.)
-/

namespace Go.Proofs.YtooghbejbjfakaaGreat
open Go.RowKit Go.Maps
set_option linter.unusedVariables false
set_option linter.unusedSimpArgs false

set_option maxHeartbeats 1600000 in
set_option maxRecDepth 100000 in
theorem restrict1_any (s : List (Int × Int)) (hs : s.Pairwise OLt) (hsl : s.length ≤ 1048576) (gk : Nat) (A : Option Addr) (n c : Nat) (hn : n = s.length) (ns : List Int) (os : List Dt) (hos : ∀ x ∈ os, IsOrg x) (hol : os.length ≤ 1048576) (cs : List Value) (W : World) (B : Nat) (hB : B ≤ W.heap.size) (h : Rd W B (.agg [.lst (ns.map .int), .lst os]) cs)
    (fk0 : W.cell? ⟨gk, 0, none⟩ = some (.func (.func 20) #[] #[])) (fk1 : W.cell? ⟨gk, 1, none⟩ = some (.slice A n c)) (hgk : gk < W.heap.size) (hA : OrgsR W W.heap.size A s) :
    Calls Tryz.prog 22 #[.agg cs.toArray, .pointer (some ⟨gk, 0, none⟩)] W fun e W' => e = .returned (.bool (keepP s (.agg [.lst (ns.map .int), .lst os]))) ∧ Below W.heap.size W W' := by
  obtain ⟨B0, d0, B1, d1, rfl, r0, r1⟩ := Rd.ofRow h
  simp only [List.length_map]
  have hor := rd_orgs (l := os.map pr) (by rw [orgsD_pr hos]; exact r1)
  have HO := Lib.hid hor.2.2.2
  have HA := Lib.hid hA
  have HS := Lib.hid hs
  have HN := Lib.hid hn
  have H0 := Lib.hid ((MSt.start W).new 38 2 #[.slice B0 ns.length d0, .slice B1 os.length d1] rfl)
  obtain ⟨bq, hbq⟩ : ∃ bq, bq = keepP s (.agg [.lst (ns.map .int), .lst os]) := ⟨_, rfl⟩
  rw [← hbq]
  have HB := Lib.hid hbq
  have hn1 : ¬ gk = W.heap.size := by omega
  clear h r0 r1 hor hA hs hbq hn
  go_enter Tryz.func22, Tryz.ntmps22
  go_wp2_with fail
  refine (containsAll_any s (os.map pr) HS.out hsl (by simpa using hol) A B1 n os.length c d1 HN.out (by simp) _ ((HA.out.below (MSt.bel H0.out)).more (MSt.size H0.out)) (((HO.out.more hB).below (MSt.bel H0.out)).more (MSt.size H0.out))).mono ?_
  rintro e w1 ⟨rb, rfl, hb, hbel⟩
  have he : bq = rb := by
    rw [HB.out]
    have h1 := keepP_iff s (.agg [.lst (ns.map .int), .lst os])
    rw [fr_mk, ← hb] at h1
    cases rb <;> cases h2 : keepP s (.agg [.lst (ns.map .int), .lst os]) <;> simp_all
  subst he
  have H1 := Lib.hid (H0.out.later hbel)
  clear hb hbel
  go_wp2_with fail
  go_ret
  exact ⟨rfl, MSt.bel H1.out⟩

set_option maxHeartbeats 6400000 in
set_option maxRecDepth 100000 in
theorem implRestrict_any {t : Dt} (ht : IsVal t) (hw : t.wt ≤ 1048576) (ks : List (Int × Int)) (hkl : ks.length ≤ 1048576) (Ak : Option Addr) (nk ck : Nat) (cs : List Value) (w : World) (h : Rd w w.heap.size t cs) (hk : Rd w w.heap.size (.lst (orgsD ks)) [.slice Ak nk ck]) (D : Dt) (hD : D = resD t ks) :
    Calls Tryz.prog 6 #[.agg cs.toArray, .slice Ak nk ck] w (ToA w D) := by
  have HK := Lib.hid hk
  obtain ⟨hnk, -, -, hok⟩ := rd_orgs hk
  have HKL := Lib.hid (And.intro hnk hok)
  clear hnk hok
  have HDD := Lib.hid hD
  obtain ⟨y0, y1, y2, y3, y4, n4, c4, y5, n5, c5, y6, n6, c6, rfl⟩ := ht.form h
  have hkk := kd_cell ht h
  have HKD := Lib.hid hkk.1
  have HT := Lib.hid (TabR.of ht h (Nat.le_refl _))
  have HV := Lib.hid (And.intro ht (And.intro hw h))
  have h0 := ((MSt.start w).new 28 7 #[.int .i64 y0, .int .i64 y1, .int .i64 y2, .string y3, .slice y4 n4 c4, .slice y5 n5 c5, .slice y6 n6 c6] rfl).new 28 7 #[.int .i64 0, .int .i64 0, .int .i64 0, .string ⟨#[]⟩, .slice none 0 0, .slice none 0 0, .slice none 0 0] rfl
  simp only [World.size_alloc] at h0
  have H0 := Lib.hid h0
  clear h0 ht hw h hk hD hkk
  go_enter Tryz.func6, Tryz.ntmps6
  obtain ⟨fA0, fA1, fA2, fA3, fA4, fA5, fA6, fAlt⟩ := box7 (MSt.box (MSt.nth (L1 := [_]) H0.out))
  go_wp2_with fail
  clear fA0 fA1 fA2 fA3 fA4 fA5 fA6 fAlt
  refine (validTableI_any HV.out.1 HV.out.2.1 _ _ _ _ _ _ _ _ _ _ _ _ _ _ ((HV.out.2.2.below H0.out.bel).more H0.out.size)).mono ?_
  rintro e w2 ⟨v, b, rfl, hv, hb⟩
  have H1 := Lib.hid (H0.out.later hb)
  have HVT := Lib.hid hv
  clear hb hv
  cases b
  · obtain ⟨hno, A7, n7, c7, A8, n8, c8, rfl⟩ := HVT.out.ff
    obtain rfl : D = t := HDD.out.trans (resD_no hno _)
    clear hno HVT
    obtain ⟨fA0, fA1, fA2, fA3, fA4, fA5, fA6, fAlt⟩ := box7 (MSt.box (MSt.nth (L1 := [_]) H1.out))
    go_wp2_with fail
    have H2 := Lib.hid (H1.out.new 47 2 #[.slice A7 n7 c7, .slice A8 n8 c8] rfl)
    clear fA0 fA1 fA2 fA3 fA4 fA5 fA6 fAlt
    refine (cloneValue_any HV.out.1 HV.out.2.1 _ _ ((HV.out.2.2.below H2.out.bel).more H2.out.size)).mono ?_
    rintro e w3 ⟨csT, fpT, rfl, how, hnf, hb⟩
    obtain ⟨vy0, vy1, vy2, vy3, vy4, vn4, vc4, vy5, vn5, vc5, vy6, vn6, vc6, rfl⟩ := IsVal.form (HV.out.1) how.read
    have H3 := Lib.hid (H2.out.add hb (owA_at how hnf))
    clear how hnf hb
    obtain ⟨fR0, fR1, fR2, fR3, fR4, fR5, fR6, fRlt⟩ := box7 (MSt.box (MSt.nth (L1 := [_, _]) H3.out))
    obtain ⟨zR0, zR1, zR2, zR3, zR4, zR5, zR6⟩ := box7z (MSt.box (MSt.nth (L1 := [_, _]) H3.out))
    go_wp2_with fail
    obtain ⟨W7, hW, hg, y0, y1, y2, y3, y4, y5, y6⟩ := MSt.put (MSt.nth (L1 := [_, _]) H3.out) (.int .i64 vy0) (.int .i64 vy1) (.int .i64 vy2) (.string vy3) (.slice vy4 vn4 vc4) (.slice vy5 vn5 vc5) (.slice vy6 vn6 vc6)
    rw [← hW]
    refine bodyPost_ret (v := .agg #[.int .i64 vy0, .int .i64 vy1, .int .i64 vy2, .string vy3, .slice vy4 vn4 vc4, .slice vy5 vn5 vc5, .slice vy6 vn6 vc6]) (by simp [results, Tryz.results6, go_sem, y0, y1, y2, y3, y4, y5, y6]) rfl ((MSt.nth (L1 := [_]) hg).give)
  · obtain ⟨hyes, rfl⟩ := HVT.out.tt
    obtain rfl : D = tblD t.co (t.rw.filter (keepP (setO ks))) := HDD.out.trans ((resD_yes hyes _).trans (by rw [keepP_set]))
    have HYS := Lib.hid hyes
    clear hyes HVT
    obtain ⟨fA0, fA1, fA2, fA3, fA4, fA5, fA6, fAlt⟩ := box7 (MSt.box (MSt.nth (L1 := [_]) H1.out))
    go_wp2_with fail
    have H2 := Lib.hid (H1.out.new 47 2 #[.slice y5 n5 c5, .slice y6 n6 c6] rfl)
    clear fA0 fA1 fA2 fA3 fA4 fA5 fA6 fAlt
    have H3 := Lib.hid (MSt.row_lit H2.out 29 1 1 #[.slice Ak nk ck] (by unfold maxLen; omega) rfl)
    have hrd : Rd (World.alloc (World.alloc w2 (.cells #[.slice y5 n5 c5, .slice y6 n6 c6] 47)) (.cells #[.slice Ak nk ck] 29)) (World.alloc (World.alloc w2 (.cells #[.slice y5 n5 c5, .slice y6 n6 c6] 47)) (.cells #[.slice Ak nk ck] 29)).heap.size (.lst (lstsD [ks])) [.slice (some ⟨(w2.alloc (.cells #[.slice y5 n5 c5, .slice y6 n6 c6] 47)).heap.size, 0, none⟩) 1 1] := by
      simp only [Rd, lstsD, List.map_cons, List.map_nil, RdL]
      have hr := own_row (MSt.row H3.out) fun b hb => ((MSt.row H3.out).lt b hb).2
      have h1 := (HK.out.below (MSt.bel H3.out)).more (MSt.size H3.out)
      simp only [Rd] at h1
      exact ⟨_, _, _, rfl, by simp, by unfold maxLen; omega, hr, _, _, rfl, h1, rfl⟩
    rw [show (World.alloc w2 (.cells #[.slice y5 n5 c5, .slice y6 n6 c6] 47)).heap.size = w2.heap.size + 1 from World.size_alloc _ _] at hrd
    have HRD := Lib.hid hrd
    clear hrd
    refine (setOf_any [ks] (by simp) (by simpa using hkl) _ 1 1 rfl _ HRD.out).mono ?_
    rintro e w3 ⟨v, rfl, h2⟩
    have ek : [ks].flatten = ks := by simp
    rw [ek] at h2
    have hsl := Nat.le_trans (setO_len ks) hkl
    have hsa := (setO_is ks).1
    obtain ⟨S, hS⟩ : ∃ S, S = setO ks := ⟨_, rfl⟩
    rw [← hS] at h2 hsl hsa ⊢
    obtain ⟨AS, cS, rfl, -, -⟩ := MSt.orgV h2
    have hor := h2.orgR rfl
    have h3 := MSt.trans H3.out h2
    have H4 := Lib.hid h3
    have HOR := Lib.hid hor
    have HSE := Lib.hid hS
    clear h2 h3 hor HRD hS ek
    have hb2 := MSt.box (MSt.nth (L1 := [_, _]) H4.out)
    have fC0 := hb2.cellAt 0 (by decide)
    have fC1 := hb2.cellAt 1 (by decide)
    have fClt := (hb2.lt _ rfl).2
    simp only [List.getElem?_cons_zero, List.getElem?_cons_succ] at fC0 fC1
    clear hb2
    go_wp2_with fail
    clear fC0 fC1 fClt
    have H5 := Lib.hid (H4.out.new 53 2 #[.func (.func 20) #[] #[], .slice AS S.length cS] rfl)
    refine (withRowsR_any HV.out.1 HV.out.2.1 (keepP S) _ _ y5 n5 c5 y6 n6 c6 (HT.out.later H5.out.bel) (fun x hx W cs hb hr => ?_)).mono ?_
    · have hxr := rw_val8 HV.out.1 x hx
      have hwx := wts_mem hx
      have hwp := wt_parts8 HV.out.1
      have hwv := HV.out.2.1
      obtain ⟨ns, os, rfl, hos⟩ := hxr
      have hol := size_in8 hwx
      have hsz := hb.size
      have kK := MSt.box H5.out
      have lK := (kK.lt _ rfl).2
      have f0 := (hb.cell (p := ⟨w3.heap.size, 0, none⟩) lK).trans (kK.cellAt 0 (by decide))
      have f1 := (hb.cell (p := ⟨w3.heap.size, 1, none⟩) lK).trans (kK.cellAt 1 (by decide))
      exact restrict1_any S hsa hsl w3.heap.size AS _ cS rfl ns os hos (by omega) cs W _ hsz hr f0 f1 (Nat.lt_of_lt_of_le lK hsz) ((HOR.out.below ((Below.refl _ _).alloc (Nat.le_refl _) _ |>.trans (hb.mono (by simp)))).more (by simp at hsz; omega))
    rintro e w4 ⟨csT, fpT, rfl, how, hnf, hb⟩
    obtain ⟨vy0, vy1, vy2, vy3, vy4, vn4, vc4, vy5, vn5, vc5, vy6, vn6, vc6, rfl⟩ := IsVal.form (isVal_tblD _ _ (fun x hx => rw_val HV.out.1 x (List.mem_filter.1 hx).1)) how.read
    have H6 := Lib.hid (H5.out.add hb (owA_at how hnf))
    clear how hnf hb
    obtain ⟨fR0, fR1, fR2, fR3, fR4, fR5, fR6, fRlt⟩ := box7 (MSt.box (MSt.nth (L1 := [_, _, _, _, _]) H6.out))
    obtain ⟨zR0, zR1, zR2, zR3, zR4, zR5, zR6⟩ := box7z (MSt.box (MSt.nth (L1 := [_, _, _, _, _]) H6.out))
    go_wp2_with fail
    obtain ⟨W7, hW, hg, y0, y1, y2, y3, y4, y5, y6⟩ := MSt.put (MSt.nth (L1 := [_, _, _, _, _]) H6.out) (.int .i64 vy0) (.int .i64 vy1) (.int .i64 vy2) (.string vy3) (.slice vy4 vn4 vc4) (.slice vy5 vn5 vc5) (.slice vy6 vn6 vc6)
    rw [← hW]
    refine bodyPost_ret (v := .agg #[.int .i64 vy0, .int .i64 vy1, .int .i64 vy2, .string vy3, .slice vy4 vn4 vc4, .slice vy5 vn5 vc5, .slice vy6 vn6 vc6]) (by simp [results, Tryz.results6, go_sem, y0, y1, y2, y3, y4, y5, y6]) rfl (by rw [← HSE.out]; exact (MSt.nth (L1 := [_]) hg).give)

end Go.Proofs.YtooghbejbjfakaaGreat

/-
  The origins of rows, the program's. (Written by gen8.py.)
-/

namespace Go.Proofs.YtooghbejbjfakaaGreat
open Go.RowKit Go.Lib Go.Sort
set_option linter.unusedVariables false
set_option linter.unusedSimpArgs false

/-- The origins of rows, list by list. -/
def frs (rs : List Dt) : List (List (Int × Int)) := rs.map fun r => r.fr.map pr
theorem frs_wt : ∀ rs : List Dt, (∀ x ∈ rs, IsRow x) → (frs rs).flatten.length ≤ wts rs
  | [], _ => by simp [frs, wts]
  | x :: rs, h => by
    have ih := frs_wt rs fun y hy => h y (List.mem_cons_of_mem _ hy)
    obtain ⟨ns, os, rfl, -⟩ := h x (by simp)
    unfold frs at *
    simp only [List.map_cons, List.flatten_cons, List.length_append, List.length_map, wts, Dt.wt, fr_mk]
    omega
theorem frs_next {rs : List Dt} {j : Nat} (hj : j < rs.length) : frs (rs.take (j + 1)) = frs (rs.take j) ++ [rs[j].fr.map pr] := by
  unfold frs
  rw [List.take_succ_eq_append_getElem hj, List.map_append]
  rfl
end Go.Proofs.YtooghbejbjfakaaGreat

/-
  Tables restricted: plain mathematics (for FnRestricted).
-/

namespace Go.Proofs.YtooghbejbjfakaaGreat
open Go.RowKit
set_option linter.unusedVariables false

theorem co_tblD (cc : List ByteArray) (rs : List Dt) : (tblD cc rs).co = cc := co_mk _ _ _ _ _ _ _
theorem rw_tblD (cc : List ByteArray) (rs : List Dt) : (tblD cc rs).rw = rs := rw_mk _ _ _ _ _ _ _
theorem resD_resD (t : Dt) (ks : List (Int × Int)) : resD (resD t ks) ks = resD t ks := by
  by_cases h : t.kd = 5 ∧ t.SV
  · rw [resD_yes h]
    by_cases h2 : (tblD t.co (t.rw.filter (keepP ks))).kd = 5 ∧ (tblD t.co (t.rw.filter (keepP ks))).SV
    · rw [resD_yes h2, co_tblD, rw_tblD, List.filter_filter]
      simp
    · rw [resD_no h2]
  · rw [resD_no h, resD_no h]
theorem resD_rows {t : Dt} (h : t.kd = 5 ∧ t.SV) (ks : List (Int × Int)) : ∀ x ∈ (resD t ks).rw, x ∈ t.rw := by
  intro x hx
  rw [resD_yes h, rw_tblD] at hx
  exact (List.mem_filter.1 hx).1
theorem resD_all {t : Dt} (ht : IsVal t) (h : t.kd = 5 ∧ t.SV) : resD t (setO (frs t.rw).flatten) = t := by
  rw [resD_yes h]
  have e : t.rw.filter (keepP (setO (frs t.rw).flatten)) = t.rw := by
    refine List.filter_eq_self.2 fun x hx => (keepP_iff _ _).2 fun o ho => setO_mem.2 ?_
    exact List.mem_flatten.2 ⟨_, List.mem_map.2 ⟨x, hx, rfl⟩, ho⟩
  rw [e]
  exact (tbl_eq ht h.1 h.2).symm
end Go.Proofs.YtooghbejbjfakaaGreat

/-
  OriginsOf, the model's. (Written by gen8.py.)
-/

namespace Go.Proofs.YtooghbejbjfakaaGreat
open Go.RowKit Go.Lib Go.Sort
set_option linter.unusedVariables false
set_option linter.unusedSimpArgs false

theorem wts_take_le : ∀ (rs : List Dt) (j : Nat), wts (rs.take j) ≤ wts rs
  | [], j => by simp [wts]
  | x :: rs, 0 => by simp [wts]
  | x :: rs, j + 1 => by
    have := wts_take_le rs j
    simp only [List.take_succ_cons, wts]
    omega
set_option maxHeartbeats 3200000 in
set_option maxRecDepth 100000 in
theorem specOrigins_any {a : Dt} (ha : IsVal a) (hwt : a.wt ≤ 1048576) (U : List (Int × Int)) (hU : U = setO (frs a.rw).flatten) (cs : List Value) (w : World) (h : Rd w w.heap.size a cs) :
    Calls Tryz.prog 11 #[.agg cs.toArray] w fun e w' => ∃ v, e = .returned v ∧ MSt w [orgA v U] w' := by
  have hwp := wt_parts8 ha
  have hrv := rw_val8 ha
  have HR := Lib.hid (And.intro hrv (And.intro (frs_wt a.rw hrv) hU))
  obtain ⟨y0, y1, y2, y3, y4, n4, c4, y5, n5, c5, y6, n6, c6, rfl⟩ := ha.form h
  have hr6 := rd_rows8 ha h
  obtain ⟨hn6, -, -⟩ := hr6.lst_len
  subst hn6
  have HRD := Lib.hid hr6
  have hlen : a.rw.length ≤ 1048576 := by omega
  have hwr : wts a.rw ≤ 1048576 := by omega
  have H0 := Lib.hid ((MSt.start w).new 28 7 #[.int .i64 y0, .int .i64 y1, .int .i64 y2, .string y3, .slice y4 n4 c4, .slice y5 n5 c5, .slice y6 a.rw.length c6] rfl)
  clear ha h hwt hwp hrv hr6 hU
  go_enter Tryz.func11, Tryz.ntmps11
  have h1 := MSt.row_lit H0.out 56 2 0 #[] (by unfold maxLen; omega) rfl
  simp only [World.size_alloc] at h1
  have H1 : Hid (MSt w [orgA (.slice (some ⟨w.heap.size + 1, 0, none⟩) 0 0) (setO (frs (a.rw.take 0)).flatten), boxA 28 7 w.heap.size [.int .i64 y0, .int .i64 y1, .int .i64 y2, .string y3, .slice y4 n4 c4, .slice y5 n5 c5, .slice y6 a.rw.length c6]] _) := Lib.hid h1
  clear H0 h1
  go_wp2_with fail
  go_loopw [3, 4] (fun v i wr => ∃ (j : Nat), j ≤ a.rw.length ∧ i = .int .i64 (j : Int) ∧ Hid (MSt w [orgA v (setO (frs (a.rw.take j)).flatten), boxA 28 7 w.heap.size [.int .i64 y0, .int .i64 y1, .int .i64 y2, .string y3, .slice y4 n4 c4, .slice y5 n5 c5, .slice y6 a.rw.length c6]] wr)) (fun _ i _ => a.rw.length - (intOf i).toNat)
  case atStart => exact ⟨0, Nat.zero_le _, rfl, H1⟩
  case round =>
    clear H1
    obtain ⟨j, hj, rfl, H1⟩ := hrel
    obtain ⟨A3, q3, rfl, -, -⟩ := MSt.orgV H1.out
    obtain ⟨fB0, fB1, fB2, fB3, fB4, fB5, fB6, fBlt⟩ := box7 (MSt.box (MSt.nth (L1 := [_]) H1.out))
    by_cases hlt : j < a.rw.length
    · obtain ⟨b, o, cs, hA6, hbB, hrd, hlen2, hcell⟩ := HRD.out.at (k := 2) (fun x hx' => (HR.out.1 x hx').width) (by omega) j hlt
      have hxr := HR.out.1 _ (List.getElem_mem hlt)
      have hwx := wts_mem (List.getElem_mem hlt)
      have hnx := frs_next hlt
      generalize a.rw[j] = x at hrd hxr hnx hwx
      obtain ⟨ns, os, rfl, hos⟩ := hxr
      obtain ⟨B0, d0, B1, d1, rfl, r0, r1⟩ := Rd.ofRow hrd
      have h00 := (H1.out.bel.cell (p := ⟨b, o + j * 2 + 0, none⟩) hbB).trans (hcell 0 (by omega))
      have h01 := (H1.out.bel.cell (p := ⟨b, o + j * 2 + 1, none⟩) hbB).trans (hcell 1 (by omega))
      simp only [List.getElem?_cons_zero, List.getElem?_cons_succ, Nat.add_zero, List.length_map] at h00 h01
      rw [fr_mk] at hnx
      have hsl := setO_len (frs (a.rw.take j)).flatten
      have hfl := frs_wt (a.rw.take j) (fun y hy => HR.out.1 y (List.mem_of_mem_take hy))
      have hwl := wts_take_le a.rw j
      have hosl := size_in8 hwx
      have hnn : setO (frs (a.rw.take (j + 1))).flatten = setO (setO (frs (a.rw.take j)).flatten ++ os.map pr) := by rw [hnx, List.flatten_append, setO_app]; simp
      have HN := Lib.hid hnn
      have hor := rd_orgs (l := os.map pr) (by rw [orgsD_pr hos]; exact r1)
      have HO := Lib.hid hor.2.2.2
      have hsz := MSt.size H1.out
      have hbw := Nat.lt_of_lt_of_le hbB hsz
      have hli : (j : Int) < (a.rw.length : Int) := by omega
      have hSl : (setO (frs (a.rw.take j)).flatten).length ≤ 1048576 := by omega
      generalize hS : setO (frs (a.rw.take j)).flatten = S at *
      subst hA6
      clear hrd hlen2 hcell hnx r0 r1 hnn hor hS hwx hsl hfl hwl
      go_wp2_with fail
      refine (specUnion_any S (os.map pr) (by simp; omega) A3 B1 S.length os.length q3 d1 rfl (by simp) _ (MSt.orgR H1.out rfl) ((HO.out.below (MSt.bel H1.out)).more hsz)).mono ?_
      rintro e w1 ⟨v, rfl, h2⟩
      rw [← HN.out] at h2
      have H2 := Lib.hid (MSt.subB (M := [orgA v (setO (frs (a.rw.take (j + 1))).flatten), _]) (MSt.trans H1.out h2) (.cons_cons _ (.cons _ (List.Sublist.refl _))))
      clear h2 h00 h01 fB0 fB1 fB2 fB3 fB4 fB5 fB6 fBlt
      go_wp2_with fail
      exact ⟨⟨j + 1, by omega, by simp, H2⟩, by simp [intOf]; omega⟩
    · obtain rfl : j = a.rw.length := by omega
      go_wp2_with fail
      go_ret
      refine ⟨_, rfl, ?_⟩
      rw [show U = setO (frs (a.rw.take a.rw.length)).flatten by rw [List.take_length]; exact HR.out.2.2]
      exact MSt.drop (MSt.nth (L1 := [_]) H1.out)
end Go.Proofs.YtooghbejbjfakaaGreat
