/-
  Texts that the proof rests on, put together: ResI.
-/
import Derived.Test.YtdnneilbgekccabGreatMgR49
import Derived.Test.YtdnneilbgekccabGreatMgR48
import Derived.Test.YtdnneilbgekccabGreatMgR46
import Derived.Test.YtdnneilbgekccabGreatMgR45
import Derived.Maps.Views
import Derived.Deep.RegionLaw
import Derived.Deep.RegionHeld3
import Derived.Outline
/-
  RestrictTable, the program's. (Written by gentab.py.)
-/

namespace Go.Proofs.YtdnneilbgekccabGreat
open Go.RowKit Go.Maps
set_option linter.unusedVariables false
set_option linter.unusedSimpArgs false

set_option maxHeartbeats 1600000 in
set_option maxRecDepth 100000 in
theorem restrict1_any (s : List (Int × Int)) (hs : s.Pairwise OLt) (hsl : s.length ≤ 1048576) (gk : Nat) (A : Option Addr) (n c : Nat) (hn : n = s.length) (ns : List Int) (os : List Dt) (hos : ∀ x ∈ os, IsOrg x) (hol : os.length ≤ 1048576) (cs : List Value) (W : World) (B : Nat) (hB : B ≤ W.heap.size) (h : Rd W B (.agg [.lst (ns.map .int), .lst os]) cs)
    (fk0 : W.cell? ⟨gk, 0, none⟩ = some (.func (.func 47) #[] #[])) (fk1 : W.cell? ⟨gk, 1, none⟩ = some (.slice A n c)) (hgk : gk < W.heap.size) (hA : OrgsR W W.heap.size A s) :
    Calls Tryz.prog 49 #[.agg cs.toArray, .pointer (some ⟨gk, 0, none⟩)] W fun e W' => e = .returned (.bool (keepP s (.agg [.lst (ns.map .int), .lst os]))) ∧ Below W.heap.size W W' := by
  obtain ⟨B0, d0, B1, d1, rfl, r0, r1⟩ := Rd.ofRow h
  simp only [List.length_map]
  have hor := rd_orgs (l := os.map pr) (by rw [orgsD_pr hos]; exact r1)
  have HO := Lib.hid hor.2.2.2
  have HA := Lib.hid hA
  have HS := Lib.hid hs
  have HN := Lib.hid hn
  have H0 := Lib.hid ((MSt.start W).new 38 2 #[.slice B0 ns.length d0, .slice B1 os.length d1] rfl)
  obtain ⟨bq, hbq⟩ : ∃ bq, bq = keepP s (.agg [.lst (ns.map .int), .lst os]) := ⟨_, rfl⟩
  rw [← hbq]
  have HB := Lib.hid hbq
  have hn1 : ¬ gk = W.heap.size := by omega
  clear h r0 r1 hor hA hs hbq hn
  go_enter Tryz.func49, Tryz.ntmps49
  go_wp2_with fail
  refine (containsAll_any s (os.map pr) HS.out hsl (by simpa using hol) A B1 n os.length c d1 HN.out (by simp) _ ((HA.out.below (MSt.bel H0.out)).more (MSt.size H0.out)) (((HO.out.more hB).below (MSt.bel H0.out)).more (MSt.size H0.out))).mono ?_
  rintro e w1 ⟨rb, rfl, hb, hbel⟩
  have he : bq = rb := by
    rw [HB.out]
    have h1 := keepP_iff s (.agg [.lst (ns.map .int), .lst os])
    rw [fr_mk, ← hb] at h1
    cases rb <;> cases h2 : keepP s (.agg [.lst (ns.map .int), .lst os]) <;> simp_all
  subst he
  have H1 := Lib.hid (H0.out.later hbel)
  clear hb hbel
  go_wp2_with fail
  go_ret
  exact ⟨rfl, MSt.bel H1.out⟩

set_option maxHeartbeats 6400000 in
set_option maxRecDepth 100000 in
theorem implRestrict_any {t : Dt} (ht : IsVal t) (hw : t.wt ≤ 1048576) (ks : List (Int × Int)) (hkl : ks.length ≤ 1048576) (Ak : Option Addr) (nk ck : Nat) (cs : List Value) (w : World) (h : Rd w w.heap.size t cs) (hk : Rd w w.heap.size (.lst (orgsD ks)) [.slice Ak nk ck]) (D : Dt) (hD : D = resD t ks) :
    Calls Tryz.prog 11 #[.agg cs.toArray, .slice Ak nk ck] w (ToA w D) := by
  have HK := Lib.hid hk
  obtain ⟨hnk, -, -, hok⟩ := rd_orgs hk
  have HKL := Lib.hid (And.intro hnk hok)
  clear hnk hok
  have HDD := Lib.hid hD
  obtain ⟨y0, y1, y2, y3, y4, n4, c4, y5, n5, c5, y6, n6, c6, rfl⟩ := ht.form h
  have hkk := kd_cell ht h
  have HKD := Lib.hid hkk.1
  have HT := Lib.hid (TabR.of ht h (Nat.le_refl _))
  have HV := Lib.hid (And.intro ht (And.intro hw h))
  have h0 := ((MSt.start w).new 28 7 #[.int .i64 y0, .int .i64 y1, .int .i64 y2, .string y3, .slice y4 n4 c4, .slice y5 n5 c5, .slice y6 n6 c6] rfl).new 28 7 #[.int .i64 0, .int .i64 0, .int .i64 0, .string ⟨#[]⟩, .slice none 0 0, .slice none 0 0, .slice none 0 0] rfl
  simp only [World.size_alloc] at h0
  have H0 := Lib.hid h0
  clear h0 ht hw h hk hD hkk
  go_enter Tryz.func11, Tryz.ntmps11
  obtain ⟨fA0, fA1, fA2, fA3, fA4, fA5, fA6, fAlt⟩ := box7 (MSt.box (MSt.nth (L1 := [_]) H0.out))
  go_wp2_with fail
  clear fA0 fA1 fA2 fA3 fA4 fA5 fA6 fAlt
  refine (validTableI_any HV.out.1 HV.out.2.1 _ _ _ _ _ _ _ _ _ _ _ _ _ _ ((HV.out.2.2.below H0.out.bel).more H0.out.size)).mono ?_
  rintro e w2 ⟨v, b, rfl, hv, hb⟩
  have H1 := Lib.hid (H0.out.later hb)
  have HVT := Lib.hid hv
  clear hb hv
  cases b
  · obtain ⟨hno, A7, n7, c7, A8, n8, c8, rfl⟩ := HVT.out.ff
    obtain rfl : D = t := HDD.out.trans (resD_no hno _)
    clear hno HVT
    obtain ⟨fA0, fA1, fA2, fA3, fA4, fA5, fA6, fAlt⟩ := box7 (MSt.box (MSt.nth (L1 := [_]) H1.out))
    go_wp2_with fail
    have H2 := Lib.hid (H1.out.new 69 2 #[.slice A7 n7 c7, .slice A8 n8 c8] rfl)
    clear fA0 fA1 fA2 fA3 fA4 fA5 fA6 fAlt
    refine (cloneValue_any HV.out.1 HV.out.2.1 _ _ ((HV.out.2.2.below H2.out.bel).more H2.out.size)).mono ?_
    rintro e w3 ⟨csT, fpT, rfl, how, hnf, hb⟩
    obtain ⟨vy0, vy1, vy2, vy3, vy4, vn4, vc4, vy5, vn5, vc5, vy6, vn6, vc6, rfl⟩ := IsVal.form (HV.out.1) how.read
    have H3 := Lib.hid (H2.out.add hb (owA_at how hnf))
    clear how hnf hb
    obtain ⟨fR0, fR1, fR2, fR3, fR4, fR5, fR6, fRlt⟩ := box7 (MSt.box (MSt.nth (L1 := [_, _]) H3.out))
    obtain ⟨zR0, zR1, zR2, zR3, zR4, zR5, zR6⟩ := box7z (MSt.box (MSt.nth (L1 := [_, _]) H3.out))
    go_wp2_with fail
    obtain ⟨W7, hW, hg, y0, y1, y2, y3, y4, y5, y6⟩ := MSt.put (MSt.nth (L1 := [_, _]) H3.out) (.int .i64 vy0) (.int .i64 vy1) (.int .i64 vy2) (.string vy3) (.slice vy4 vn4 vc4) (.slice vy5 vn5 vc5) (.slice vy6 vn6 vc6)
    rw [← hW]
    refine bodyPost_ret (v := .agg #[.int .i64 vy0, .int .i64 vy1, .int .i64 vy2, .string vy3, .slice vy4 vn4 vc4, .slice vy5 vn5 vc5, .slice vy6 vn6 vc6]) (by simp [results, Tryz.results11, go_sem, y0, y1, y2, y3, y4, y5, y6]) rfl ((MSt.nth (L1 := [_]) hg).give)
  · obtain ⟨hyes, rfl⟩ := HVT.out.tt
    obtain rfl : D = tblD t.co (t.rw.filter (keepP (setO ks))) := HDD.out.trans ((resD_yes hyes _).trans (by rw [keepP_set]))
    have HYS := Lib.hid hyes
    clear hyes HVT
    obtain ⟨fA0, fA1, fA2, fA3, fA4, fA5, fA6, fAlt⟩ := box7 (MSt.box (MSt.nth (L1 := [_]) H1.out))
    go_wp2_with fail
    have H2 := Lib.hid (H1.out.new 69 2 #[.slice y5 n5 c5, .slice y6 n6 c6] rfl)
    clear fA0 fA1 fA2 fA3 fA4 fA5 fA6 fAlt
    have H3 := Lib.hid (MSt.row_lit H2.out 29 1 1 #[.slice Ak nk ck] (by unfold maxLen; omega) rfl)
    have hrd : Rd (World.alloc (World.alloc w2 (.cells #[.slice y5 n5 c5, .slice y6 n6 c6] 69)) (.cells #[.slice Ak nk ck] 29)) (World.alloc (World.alloc w2 (.cells #[.slice y5 n5 c5, .slice y6 n6 c6] 69)) (.cells #[.slice Ak nk ck] 29)).heap.size (.lst (lstsD [ks])) [.slice (some ⟨(w2.alloc (.cells #[.slice y5 n5 c5, .slice y6 n6 c6] 69)).heap.size, 0, none⟩) 1 1] := by
      simp only [Rd, lstsD, List.map_cons, List.map_nil, RdL]
      have hr := own_row (MSt.row H3.out) fun b hb => ((MSt.row H3.out).lt b hb).2
      have h1 := (HK.out.below (MSt.bel H3.out)).more (MSt.size H3.out)
      simp only [Rd] at h1
      exact ⟨_, _, _, rfl, by simp, by unfold maxLen; omega, hr, _, _, rfl, h1, rfl⟩
    rw [show (World.alloc w2 (.cells #[.slice y5 n5 c5, .slice y6 n6 c6] 69)).heap.size = w2.heap.size + 1 from World.size_alloc _ _] at hrd
    have HRD := Lib.hid hrd
    clear hrd
    refine (setOf_any [ks] (by simp) (by simpa using hkl) _ 1 1 rfl _ HRD.out).mono ?_
    rintro e w3 ⟨v, rfl, h2⟩
    have ek : [ks].flatten = ks := by simp
    rw [ek] at h2
    have hsl := Nat.le_trans (setO_len ks) hkl
    have hsa := (setO_is ks).1
    obtain ⟨S, hS⟩ : ∃ S, S = setO ks := ⟨_, rfl⟩
    rw [← hS] at h2 hsl hsa ⊢
    obtain ⟨AS, cS, rfl, -, -⟩ := MSt.orgV h2
    have hor := h2.orgR rfl
    have h3 := MSt.trans H3.out h2
    have H4 := Lib.hid h3
    have HOR := Lib.hid hor
    have HSE := Lib.hid hS
    clear h2 h3 hor HRD hS ek
    have hb2 := MSt.box (MSt.nth (L1 := [_, _]) H4.out)
    have fC0 := hb2.cellAt 0 (by decide)
    have fC1 := hb2.cellAt 1 (by decide)
    have fClt := (hb2.lt _ rfl).2
    simp only [List.getElem?_cons_zero, List.getElem?_cons_succ] at fC0 fC1
    clear hb2
    go_wp2_with fail
    clear fC0 fC1 fClt
    have H5 := Lib.hid (H4.out.new 74 2 #[.func (.func 47) #[] #[], .slice AS S.length cS] rfl)
    refine (withRowsR_any HV.out.1 HV.out.2.1 (keepP S) _ _ y5 n5 c5 y6 n6 c6 (HT.out.later H5.out.bel) (fun x hx W cs hb hr => ?_)).mono ?_
    · have hxr := rw_val8 HV.out.1 x hx
      have hwx := wts_mem hx
      have hwp := wt_parts8 HV.out.1
      have hwv := HV.out.2.1
      obtain ⟨ns, os, rfl, hos⟩ := hxr
      have hol := size_in8 hwx
      have hsz := hb.size
      have kK := MSt.box H5.out
      have lK := (kK.lt _ rfl).2
      have f0 := (hb.cell (p := ⟨w3.heap.size, 0, none⟩) lK).trans (kK.cellAt 0 (by decide))
      have f1 := (hb.cell (p := ⟨w3.heap.size, 1, none⟩) lK).trans (kK.cellAt 1 (by decide))
      exact restrict1_any S hsa hsl w3.heap.size AS _ cS rfl ns os hos (by omega) cs W _ hsz hr f0 f1 (Nat.lt_of_lt_of_le lK hsz) ((HOR.out.below ((Below.refl _ _).alloc (Nat.le_refl _) _ |>.trans (hb.mono (by simp)))).more (by simp at hsz; omega))
    rintro e w4 ⟨csT, fpT, rfl, how, hnf, hb⟩
    obtain ⟨vy0, vy1, vy2, vy3, vy4, vn4, vc4, vy5, vn5, vc5, vy6, vn6, vc6, rfl⟩ := IsVal.form (isVal_tblD _ _ (fun x hx => rw_val HV.out.1 x (List.mem_filter.1 hx).1)) how.read
    have H6 := Lib.hid (H5.out.add hb (owA_at how hnf))
    clear how hnf hb
    obtain ⟨fR0, fR1, fR2, fR3, fR4, fR5, fR6, fRlt⟩ := box7 (MSt.box (MSt.nth (L1 := [_, _, _, _, _]) H6.out))
    obtain ⟨zR0, zR1, zR2, zR3, zR4, zR5, zR6⟩ := box7z (MSt.box (MSt.nth (L1 := [_, _, _, _, _]) H6.out))
    go_wp2_with fail
    obtain ⟨W7, hW, hg, y0, y1, y2, y3, y4, y5, y6⟩ := MSt.put (MSt.nth (L1 := [_, _, _, _, _]) H6.out) (.int .i64 vy0) (.int .i64 vy1) (.int .i64 vy2) (.string vy3) (.slice vy4 vn4 vc4) (.slice vy5 vn5 vc5) (.slice vy6 vn6 vc6)
    rw [← hW]
    refine bodyPost_ret (v := .agg #[.int .i64 vy0, .int .i64 vy1, .int .i64 vy2, .string vy3, .slice vy4 vn4 vc4, .slice vy5 vn5 vc5, .slice vy6 vn6 vc6]) (by simp [results, Tryz.results11, go_sem, y0, y1, y2, y3, y4, y5, y6]) rfl (by rw [← HSE.out]; exact (MSt.nth (L1 := [_]) hg).give)

end Go.Proofs.YtdnneilbgekccabGreat
