/-
  Texts that the proof rests on, put together: SrcM, ResM, ResS.
-/
import Derived.Test.YtabcmnlmmpbmnaaGreatMgS33
import Derived.Test.YtabcmnlmmpbmnaaGreatMgS29
import Derived.Test.YtabcmnlmmpbmnaaGreatMgS28
import Derived.Test.YtabcmnlmmpbmnaaGreatMgS42
import Derived.Maps.Views
import Derived.Deep.RegionLaw
import Derived.Deep.RegionHeld3
import Derived.Outline
import Derived.Test.YtabcmnlmmpbmnaaGreatMgS43
import Derived.Test.YtabcmnlmmpbmnaaGreatMgS14
import Derived.Test.YtabcmnlmmpbmnaaGreatMgS35
import Derived.Test.YtabcmnlmmpbmnaaGreatMgS17
/-
  What SourceTable answers. (Written by gentab.py.)
-/

namespace Go.Proofs.YtabcmnlmmpbmnaaGreat
open Go.RowKit Go.Maps
set_option linter.unusedVariables false
set_option linter.unusedSimpArgs false

/-- A row with one origin. -/
def srcRow (c i : Int) (r : Dt) : Dt := .agg [.lst (r.ce.map .int), .lst (orgsD [(c, i)])]
theorem srcRow_mk (c i : Int) (ns : List Int) (o : Dt) : srcRow c i (.agg [.lst (ns.map .int), o]) = .agg [.lst (ns.map .int), .lst (orgsD [(c, i)])] := by rw [srcRow, ce_mk]
theorem isRow_srcRow (c i : Int) (r : Dt) : IsRow (srcRow c i r) := ⟨r.ce, orgsD [(c, i)], rfl, orgsD_org _⟩
/-- Rows, each with its place as origin. -/
def srcF (c : Int) : Nat → List Dt → List Dt
  | _, [] => []
  | i, r :: rs => srcRow c (i : Int) r :: srcF c (i + 1) rs
theorem srcF_len (c : Int) : ∀ (i : Nat) (l : List Dt), (srcF c i l).length = l.length
  | _, [] => rfl
  | i, r :: rs => by simp [srcF, srcF_len c (i + 1) rs]
theorem srcF_snoc (c : Int) : ∀ (i : Nat) (l : List Dt) (x : Dt), srcF c i (l ++ [x]) = srcF c i l ++ [srcRow c ((i + l.length : Nat) : Int) x]
  | i, [], x => by simp [srcF]
  | i, r :: rs, x => by
    simp only [List.cons_append, srcF, srcF_snoc c (i + 1) rs x, List.length_cons]
    rw [show i + 1 + rs.length = i + (rs.length + 1) by omega]
theorem srcF_next {c : Int} {rs : List Dt} {j : Nat} (hj : j < rs.length) : srcF c 0 (rs.take (j + 1)) = srcF c 0 (rs.take j) ++ [srcRow c (j : Int) rs[j]] := by
  rw [List.take_succ_eq_append_getElem hj, srcF_snoc, List.length_take, Nat.min_eq_left (by omega), Nat.zero_add]
theorem srcF_row (c : Int) : ∀ (i : Nat) (l : List Dt), ∀ x ∈ srcF c i l, IsRow x
  | _, [], x, h => by simp [srcF] at h
  | i, r :: rs, x, h => by
    rcases List.mem_cons.1 h with rfl | h
    · exact isRow_srcRow _ _ _
    · exact srcF_row c (i + 1) rs x h
open Classical in
/-- What SourceTable answers. -/
noncomputable def srcD (c : Int) (t : Dt) : Dt := if (t.kd = 5 ∧ t.SV) ∧ ¬ c < 0 then tblD t.co (srcF c 0 t.rw) else errD 4
theorem srcD_yes {t : Dt} {c : Int} (h : t.kd = 5 ∧ t.SV) (hc : ¬ c < 0) : srcD c t = tblD t.co (srcF c 0 t.rw) := if_pos ⟨h, hc⟩
theorem srcD_no {t : Dt} {c : Int} (h : ¬ ((t.kd = 5 ∧ t.SV) ∧ ¬ c < 0)) : srcD c t = errD 4 := if_neg h
theorem isVal_srcD {t : Dt} (c : Int) : IsVal (srcD c t) := by
  unfold srcD
  split
  · exact isVal_tblD _ _ (fun x hx => srcF_row c 0 t.rw x hx)
  · exact isVal_flatD _ _ _
theorem MSt.row2s {w wx : World} {L : List Asn} {a b : List Dt} {va vb : Value} {fa fb : List Nat} (h : MSt w (owA (.lst a) [va] fa :: owA (.lst b) [vb] fb :: L) wx) : MSt w (owA (.agg [.lst a, .lst b]) [va, vb] (fa ++ fb) :: L) wx :=
  h.alter fun o => (Objs.pair ((Objs.single o).swap.single.swap)).agg

end Go.Proofs.YtabcmnlmmpbmnaaGreat

/-
  What RestrictTable answers. (Written by gentab.py.)
-/

namespace Go.Proofs.YtabcmnlmmpbmnaaGreat
open Go.RowKit Go.Maps
set_option linter.unusedVariables false
set_option linter.unusedSimpArgs false

open Classical in
/-- A row all of whose origins are among these. -/
noncomputable def keepP (ks : List (Int × Int)) (x : Dt) : Bool := decide (∀ o ∈ x.fr.map pr, o ∈ ks)
theorem keepP_iff (ks : List (Int × Int)) (x : Dt) : keepP ks x = true ↔ ∀ o ∈ x.fr.map pr, o ∈ ks := by simp [keepP]
theorem keepP_set (ks : List (Int × Int)) : keepP (setO ks) = keepP ks := by
  funext x
  have h : keepP (setO ks) x = true ↔ keepP ks x = true := by rw [keepP_iff, keepP_iff]; simp only [setO_mem]
  cases h1 : keepP (setO ks) x <;> cases h2 : keepP ks x <;> simp_all
open Classical in
/-- What RestrictTable answers. -/
noncomputable def resD (t : Dt) (ks : List (Int × Int)) : Dt := if t.kd = 5 ∧ t.SV then tblD t.co (t.rw.filter (keepP ks)) else t
theorem resD_yes {t : Dt} (h : t.kd = 5 ∧ t.SV) (ks : List (Int × Int)) : resD t ks = tblD t.co (t.rw.filter (keepP ks)) := if_pos h
theorem resD_no {t : Dt} (h : ¬ (t.kd = 5 ∧ t.SV)) (ks : List (Int × Int)) : resD t ks = t := if_neg h
theorem isVal_resD {t : Dt} (ht : IsVal t) (ks : List (Int × Int)) : IsVal (resD t ks) := by
  unfold resD
  split
  · exact isVal_tblD _ _ (fun x hx => rw_val ht x (List.mem_filter.1 hx).1)
  · exact ht
theorem wt_resD {t : Dt} (ht : IsVal t) (ks : List (Int × Int)) : (resD t ks).wt ≤ t.wt := by
  unfold resD
  split
  · have h1 := wt_parts8 ht
    have h2 := wts_filter (keepP ks) t.rw
    have h3 := List.length_filter_le (keepP ks) t.rw
    rw [wt_tblD]
    omega
  · exact Nat.le_refl _

end Go.Proofs.YtabcmnlmmpbmnaaGreat

/-
  RestrictTable, the model's. (Written by gentab.py.)
-/

namespace Go.Proofs.YtabcmnlmmpbmnaaGreat
open Go.RowKit Go.Maps
set_option linter.unusedVariables false
set_option linter.unusedSimpArgs false

set_option maxHeartbeats 6400000 in
set_option maxRecDepth 100000 in
theorem specRestrict_any {t : Dt} (ht : IsVal t) (hw : t.wt ≤ 1048576) (ks : List (Int × Int)) (hkl : ks.length ≤ 1048576) (Ak : Option Addr) (nk ck : Nat) (cs : List Value) (w : World) (h : Rd w w.heap.size t cs) (hk : Rd w w.heap.size (.lst (orgsD ks)) [.slice Ak nk ck]) (D : Dt) (hD : D = resD t ks) :
    Calls Tryz.prog 40 #[.agg cs.toArray, .slice Ak nk ck] w (ToA w D) := by
  have HK := Lib.hid hk
  obtain ⟨hnk, -, -, hok⟩ := rd_orgs hk
  have HKL := Lib.hid (And.intro hnk hok)
  clear hnk hok
  have HDD := Lib.hid hD
  obtain ⟨y0, y1, y2, y3, y4, n4, c4, y5, n5, c5, y6, n6, c6, rfl⟩ := ht.form h
  have hkk := kd_cell ht h
  have HKD := Lib.hid hkk.1
  have HT := Lib.hid (TabR.of ht h (Nat.le_refl _))
  obtain ⟨hn6, hq6, hx6⟩ := HT.out.2.lst_len
  subst hn6
  obtain ⟨hn5, hq5, -⟩ := HT.out.1.lst_len
  rw [List.length_map] at hn5
  subst hn5
  have hwp := wt_parts8 ht
  have hr12 : t.rw.length ≤ 1048576 := by omega
  have hc12 : t.co.length ≤ 1048576 := by simp only [Dt.wt, List.length_map] at hwp; omega
  clear hwp hx6
  have HV := Lib.hid (And.intro ht (And.intro hw h))
  have h0 := ((MSt.start w).new 28 7 #[.int .i64 y0, .int .i64 y1, .int .i64 y2, .string y3, .slice y4 n4 c4, .slice y5 t.co.length c5, .slice y6 t.rw.length c6] rfl).new 28 7 #[.int .i64 0, .int .i64 0, .int .i64 0, .string ⟨#[]⟩, .slice none 0 0, .slice none 0 0, .slice none 0 0] rfl
  simp only [World.size_alloc] at h0
  have H0 := Lib.hid h0
  clear h0 ht hw h hk hD hkk
  go_enter Tryz.func40, Tryz.ntmps40
  by_cases h5 : y0 = 5
  rotate_left
  · have hne : (y0 != 5) = true := by simpa using h5
    obtain rfl : D = t := HDD.out.trans (resD_no (fun hh => h5 (by rw [← HKD.out]; exact hh.1)) _)
    obtain ⟨fA0, fA1, fA2, fA3, fA4, fA5, fA6, fAlt⟩ := box7 (MSt.box (MSt.nth (L1 := [_]) H0.out))
    go_wp2_with fail
    clear fA0 fA1 fA2 fA3 fA4 fA5 fA6 fAlt
    refine (l3Copy_any HV.out.1 HV.out.2.1 _ _ ((HV.out.2.2.below H0.out.bel).more H0.out.size)).mono ?_
    rintro e w1 ⟨csT, fpT, rfl, how, hnf, hb⟩
    obtain ⟨vy0, vy1, vy2, vy3, vy4, vn4, vc4, vy5, vn5, vc5, vy6, vn6, vc6, rfl⟩ := IsVal.form (HV.out.1) how.read
    have H1 := Lib.hid (H0.out.add hb (owA_at how hnf))
    clear how hnf hb
    obtain ⟨fR0, fR1, fR2, fR3, fR4, fR5, fR6, fRlt⟩ := box7 (MSt.box (MSt.nth (L1 := [_]) H1.out))
    obtain ⟨zR0, zR1, zR2, zR3, zR4, zR5, zR6⟩ := box7z (MSt.box (MSt.nth (L1 := [_]) H1.out))
    go_wp2_with fail
    obtain ⟨W7, hW, hg, y0, y1, y2, y3, y4, y5, y6⟩ := MSt.put (MSt.nth (L1 := [_]) H1.out) (.int .i64 vy0) (.int .i64 vy1) (.int .i64 vy2) (.string vy3) (.slice vy4 vn4 vc4) (.slice vy5 vn5 vc5) (.slice vy6 vn6 vc6)
    rw [← hW]
    refine bodyPost_ret (v := .agg #[.int .i64 vy0, .int .i64 vy1, .int .i64 vy2, .string vy3, .slice vy4 vn4 vc4, .slice vy5 vn5 vc5, .slice vy6 vn6 vc6]) (by simp [results, Tryz.results40, go_sem, y0, y1, y2, y3, y4, y5, y6]) rfl ((MSt.nth (L1 := [_]) hg).give)
  subst h5
  obtain ⟨fA0, fA1, fA2, fA3, fA4, fA5, fA6, fAlt⟩ := box7 (MSt.box (MSt.nth (L1 := [_]) H0.out))
  go_wp2_with fail
  clear fA0 fA1 fA2 fA3 fA4 fA5 fA6 fAlt
  refine (specValidV HV.out.1 HV.out.2.1 _ _ ((HV.out.2.2.below H0.out.bel).more H0.out.size)).mono ?_
  rintro e w1 ⟨bv, rfl, hbv, hb⟩
  have H1 := Lib.hid (H0.out.later hb)
  clear hb
  have HBV := Lib.hid hbv
  clear hbv
  cases bv
  · obtain rfl : D = t := HDD.out.trans (resD_no (fun hh => absurd (HBV.out.2 hh.2) (by simp)) _)
    obtain ⟨fA0, fA1, fA2, fA3, fA4, fA5, fA6, fAlt⟩ := box7 (MSt.box (MSt.nth (L1 := [_]) H1.out))
    go_wp2_with fail
    clear fA0 fA1 fA2 fA3 fA4 fA5 fA6 fAlt
    refine (l3Copy_any HV.out.1 HV.out.2.1 _ _ ((HV.out.2.2.below H1.out.bel).more H1.out.size)).mono ?_
    rintro e w2 ⟨csT, fpT, rfl, how, hnf, hb⟩
    obtain ⟨vy0, vy1, vy2, vy3, vy4, vn4, vc4, vy5, vn5, vc5, vy6, vn6, vc6, rfl⟩ := IsVal.form (HV.out.1) how.read
    have H2 := Lib.hid (H1.out.add hb (owA_at how hnf))
    clear how hnf hb
    obtain ⟨fR0, fR1, fR2, fR3, fR4, fR5, fR6, fRlt⟩ := box7 (MSt.box (MSt.nth (L1 := [_]) H2.out))
    obtain ⟨zR0, zR1, zR2, zR3, zR4, zR5, zR6⟩ := box7z (MSt.box (MSt.nth (L1 := [_]) H2.out))
    go_wp2_with fail
    obtain ⟨W7, hW, hg, y0, y1, y2, y3, y4, y5, y6⟩ := MSt.put (MSt.nth (L1 := [_]) H2.out) (.int .i64 vy0) (.int .i64 vy1) (.int .i64 vy2) (.string vy3) (.slice vy4 vn4 vc4) (.slice vy5 vn5 vc5) (.slice vy6 vn6 vc6)
    rw [← hW]
    refine bodyPost_ret (v := .agg #[.int .i64 vy0, .int .i64 vy1, .int .i64 vy2, .string vy3, .slice vy4 vn4 vc4, .slice vy5 vn5 vc5, .slice vy6 vn6 vc6]) (by simp [results, Tryz.results40, go_sem, y0, y1, y2, y3, y4, y5, y6]) rfl ((MSt.nth (L1 := [_]) hg).give)
  · obtain rfl : D = tblD t.co (t.rw.filter (keepP ks)) := HDD.out.trans (resD_yes ⟨HKD.out, HBV.out.1 (by trivial)⟩ _)
    obtain ⟨fA0, fA1, fA2, fA3, fA4, fA5, fA6, fAlt⟩ := box7 (MSt.box (MSt.nth (L1 := [_]) H1.out))
    have HS0 := Lib.hid H1.out
    have hs0 := HS0.out.size
    go_wp2_with (at_builtin; refine appT _ rfl (.tmp 17) (.tmp 19) rfl w.heap.size _ 0 [] rfl (((HS0.out.row_lit 9 1 0 #[] (by unfold maxLen; omega) rfl)).row) y5 t.co.length c5 w.heap.size (strV t.co) rfl (by simp [strV]) ((HT.out.1.strs.keep HS0.out.bel.block).keep (fun k hk => ((Below.refl _ _).alloc (Nat.le_refl _) _).block k (Nat.lt_of_lt_of_le hk HS0.out.size))) (strV_one1 t.co) (by omega) (by simp; omega) ?_; intro v3 w3 hown3 hgr3 hn3; obtain ⟨AC, qC, rfl, hown3⟩ := own_slice0 hown3; have h3 := (((HS0.out.row_lit 9 1 0 #[] (by unfold maxLen; omega) rfl)).app hgr3 hown3 hn3.2); simp only [Nat.zero_add, List.nil_append] at h3; have H3 := Lib.hid h3; clear h3 hown3 hgr3 hn3 fA0 fA1 fA2 fA3 fA4 fA5 fA6 fAlt; obtain ⟨fA0, fA1, fA2, fA3, fA4, fA5, fA6, fAlt⟩ := box7 (MSt.box (MSt.nth (L1 := [_, _]) H3.out)))
    clear fA0 fA1 fA2 fA3 fA4 fA5 fA6 fAlt
    obtain ⟨wS, rfl⟩ : ∃ wo : World, wo = w3 := ⟨_, rfl⟩
    have h2 := (H3.out.nilRow 99 2).new 28 7 #[.int .i64 5, .int .i64 0, .int .i64 0, .string ⟨#[]⟩, .slice none 0 0, .slice AC t.co.length qC, .slice none 0 0] rfl
    have HS : Hid (MSt w [boxA 28 7 wS.heap.size [.int .i64 5, .int .i64 0, .int .i64 0, .string ⟨#[]⟩, .slice none 0 0, .slice AC t.co.length qC, (.slice none 0 0)], rowA 99 2 (.slice none 0 0) 0 [], owLA [] [] [], rowA 9 1 (.slice AC t.co.length qC) t.co.length (strV t.co), boxA 28 7 (w.heap.size + 1) [.int .i64 0, .int .i64 0, .int .i64 0, .string ⟨#[]⟩, .slice none 0 0, .slice none 0 0, .slice none 0 0], boxA 28 7 (w.heap.size) [.int .i64 5, .int .i64 y1, .int .i64 y2, .string y3, .slice y4 n4 c4, .slice y5 t.co.length c5, .slice y6 t.rw.length c6]] _) := Lib.hid h2
    clear h2 H3 HS0
    go_loopw [6] (fun i wr => ∃ (j m : Nat) (v : Value) (cl : List Value) (fp : List Nat), j ≤ t.rw.length ∧ i = .int .i64 (j : Int) ∧ m ≤ j ∧ Hid (m = ((t.rw.take j).filter (keepP ks)).length) ∧ Hid (MSt w [boxA 28 7 wS.heap.size [.int .i64 5, .int .i64 0, .int .i64 0, .string ⟨#[]⟩, .slice none 0 0, .slice AC t.co.length qC, v], rowA 99 2 v m cl, owLA ((t.rw.take j).filter (keepP ks)) cl fp, rowA 9 1 (.slice AC t.co.length qC) t.co.length (strV t.co), boxA 28 7 (w.heap.size + 1) [.int .i64 0, .int .i64 0, .int .i64 0, .string ⟨#[]⟩, .slice none 0 0, .slice none 0 0, .slice none 0 0], boxA 28 7 (w.heap.size) [.int .i64 5, .int .i64 y1, .int .i64 y2, .string y3, .slice y4 n4 c4, .slice y5 t.co.length c5, .slice y6 t.rw.length c6]] wr)) (fun i _ => t.rw.length - (intOf i).toNat)
    case atStart => exact ⟨0, 0, _, _, _, Nat.zero_le _, rfl, Nat.le_refl _, Lib.hid rfl, HS⟩
    case round =>
      obtain ⟨j, m, v, cl, fp, hj, rfl, hmj, HF, H1⟩ := hrel
      obtain ⟨A3, q3, rfl⟩ := own_slice (MSt.row (MSt.nth (L1 := [_]) H1.out))
      by_cases hlt : j < t.rw.length
      · obtain ⟨b, o, cs, hA6, hbB, hrd, hlen, hcell⟩ := HT.out.2.at (k := 2) (fun x hx' => (rw_val HV.out.1 x hx').width) (by omega) j hlt
        subst hA6
        obtain ⟨x, hx⟩ : ∃ x, x = t.rw[j] := ⟨_, rfl⟩
        have hxr := rw_val HV.out.1 _ (List.getElem_mem hlt)
        have hwx := wts_mem (List.getElem_mem hlt)
        have hnx := filter_next (p := keepP ks) hlt
        rw [← hx] at hrd hxr hwx hnx
        have hwp := wt_parts8 HV.out.1
        have hwv := HV.out.2.1
        have hxw : x.wt ≤ 1048576 := by omega
        have HXW := Lib.hid (And.intro hxr hxw)
        obtain ⟨ns, os, rfl, hos⟩ := hxr
        have hol := size_in8 hxw
        obtain ⟨B0, d0, B1, d1, rfl, r0, r1⟩ := Rd.ofRow hrd
        have hor := rd_orgs (l := os.map pr) (by rw [orgsD_pr hos]; exact r1)
        have HO := Lib.hid hor.2.2.2
        simp only [List.length_map] at hrd
        have HRD := Lib.hid hrd
        have HNX := Lib.hid hnx
        have h00 := (H1.out.bel.cell (p := ⟨b, o + j * 2 + 0, none⟩) hbB).trans (hcell 0 (by omega))
        have h01 := (H1.out.bel.cell (p := ⟨b, o + j * 2 + 1, none⟩) hbB).trans (hcell 1 (by omega))
        simp only [List.getElem?_cons_zero, List.getElem?_cons_succ, Nat.add_zero, List.length_map] at h00 h01
        have hws := H1.out.size
        have hbl : b < wr.heap.size := by omega
        have hj2 : (j : Int) < (t.rw.length : Int) := by omega
        clear hrd hnx hx hlen hcell r0 r1 hor hwx hwp hwv hxw
        obtain ⟨fA0, fA1, fA2, fA3, fA4, fA5, fA6, fAlt⟩ := box7 (MSt.box (MSt.nth (L1 := [_, _, _, _, _]) H1.out))
        go_wp2_with fail
        clear fA0 fA1 fA2 fA3 fA4 fA5 fA6 fAlt
        refine (l8Beneath_any (os.map pr) ks (by simp; omega) (by omega) B1 Ak os.length nk d1 ck (by simp) HKL.out.1 _ ((HO.out.below H1.out.bel).more H1.out.size) ((HKL.out.2.below H1.out.bel).more H1.out.size)).mono ?_
        rintro e w2 ⟨rb, rfl, hrb, hb⟩
        have c00 := (hb.cell (p := ⟨b, o + j * 2, none⟩) hbl).trans h00
        have c01 := (hb.cell (p := ⟨b, o + j * 2 + 1, none⟩) hbl).trans h01
        have hblq : b < w2.heap.size := Nat.lt_of_lt_of_le hbl hb.size
        have HRB : Hid (keepP ks (.agg [.lst (ns.map .int), .lst os]) = rb) := Lib.hid (by
          have h1 := keepP_iff ks (.agg [.lst (ns.map .int), .lst os])
          rw [fr_mk, ← hrb] at h1
          cases rb <;> cases h2 : keepP ks (.agg [.lst (ns.map .int), .lst os]) <;> simp_all)
        have H2 := Lib.hid (H1.out.later hb)
        clear hb
        clear hrb h00 h01
        have hwsq := H2.out.size
        cases rb
        · obtain ⟨fA0, fA1, fA2, fA3, fA4, fA5, fA6, fAlt⟩ := box7 (MSt.box (MSt.nth (L1 := [_, _, _, _, _]) H2.out))
          go_wp2_with fail
          have hnx := HNX.out
          rw [if_neg (by rw [HRB.out]; simp), List.append_nil] at hnx
          rw [← hnx] at H2
          exact ⟨⟨j + 1, m, _, cl, fp, by omega, by simp, by omega, Lib.hid (by rw [hnx]; exact HF.out), H2⟩, by simp [intOf]; omega⟩
        · have HRQ := Lib.hid ((HRD.out.below H2.out.bel))
          obtain ⟨fX0, fX1, fX2, fX3, fX4, fX5, fX6, fXlt⟩ := box7 (MSt.box H2.out)
          obtain ⟨fA0, fA1, fA2, fA3, fA4, fA5, fA6, fAlt⟩ := box7 (MSt.box (MSt.nth (L1 := [_, _, _, _, _]) H2.out))
          go_wp2_with fail
          go_region_law (first
            | (
              go_simp
              go_at_call 99
              refine (l3Row_any HXW.out.1 HXW.out.2 _ _ ((HRQ.out.below (Below.refl _ _).drew).more (by simp; omega))).mono ?_
              rintro e1 w4 ⟨csN, fN, rfl, how, hnf, hb⟩
              obtain ⟨qy0, qn0, qc0, qy1, qn1, qc1, rfl⟩ := HXW.out.1.form how.read
              have HON := Lib.hid how.read.one
              have h4 := H2.out.drew.add hb (owA_at how hnf)
              have H4 := Lib.hid h4
              have hs4 := H4.out.size
              clear how hnf hb h4
              obtain ⟨fX0, fX1, fX2, fX3, fX4, fX5, fX6, fXlt⟩ := box7 (MSt.box (MSt.nth (L1 := [_]) H4.out)))
            | (
              refine stepR _ (by rfl) (.tmp 38) (.tmp 45) (by rfl) w.heap.size (.slice A3 m q3) m cl (by rfl) (by exact (MSt.row (MSt.nth (L1 := [_, _]) (H4.out.alloc _)))) (some ⟨w4.heap.size, 0, none⟩) 1 1 (w4.heap.size + 1) [.slice qy0 qn0 qc0, .slice qy1 qn1 qc1] (by rfl) rfl (row_new w4 #[.slice qy0 qn0 qc0, .slice qy1 qn1 qc1] 99) HON.out (by omega) (by simp; omega) ?_
              intro v5 w5 hown5 hgr5 hn5
              obtain ⟨A9, q9, rfl⟩ := own_slice hown5
              have h5 := MSt.nth (L1 := [_, _]) (MSt.push (MSt.nth (L1 := [_, _]) (MSt.nth (L1 := [_, _]) (MSt.nth (L1 := [_, _, _]) (MSt.app (MSt.nth (L1 := [_, _]) (H4.out.alloc (.cells #[.slice qy0 qn0 qc0, .slice qy1 qn1 qc1] 99))) hgr5 hown5 hn5.2)))))
              have H5 := Lib.hid h5
              clear h5 hown5 hgr5 hn5
              obtain ⟨fX0, fX1, fX2, fX3, fX4, fX5, fX6, fXlt⟩ := box7 (MSt.box H5.out)
              obtain ⟨zX0, zX1, zX2, zX3, zX4, zX5, zX6⟩ := box7z (MSt.box H5.out))
            | fail)
          all_goals
            go_wp2_with fail
            have h6 := H5.out.set1 6 (.slice A9 (m + 1) q9)
            have hnx := HNX.out
            rw [if_pos HRB.out] at hnx
            rw [← hnx] at h6
            have H6 := Lib.hid h6
            clear h6
            exact ⟨⟨j + 1, m + 1, _, _, _, by omega, by simp, by omega, Lib.hid (by rw [hnx, List.length_append, ← HF.out]; rfl), H6⟩, by simp [intOf]; omega⟩
      · obtain rfl : j = t.rw.length := by omega
        rw [List.take_length] at HF H1
        obtain ⟨fX0, fX1, fX2, fX3, fX4, fX5, fX6, fXlt⟩ := box7 (MSt.box H1.out)
        obtain ⟨fA0, fA1, fA2, fA3, fA4, fA5, fA6, fAlt⟩ := box7 (MSt.box (MSt.nth (L1 := [_, _, _, _, _]) H1.out))
        obtain ⟨fR0, fR1, fR2, fR3, fR4, fR5, fR6, fRlt⟩ := box7 (MSt.box (MSt.nth (L1 := [_, _, _, _]) H1.out))
        obtain ⟨zR0, zR1, zR2, zR3, zR4, zR5, zR6⟩ := box7z (MSt.box (MSt.nth (L1 := [_, _, _, _]) H1.out))
        go_wp2_with fail
        obtain ⟨W7, hW, hg, y0, y1, y2, y3, y4, y5, y6⟩ := MSt.put (MSt.nth (L1 := [_, _, _, _]) H1.out) (.int .i64 5) (.int .i64 0) (.int .i64 0) (.string ⟨#[]⟩) (.slice none 0 0) (.slice AC t.co.length qC) (.slice A3 m q3)
        rw [← hW]
        refine bodyPost_ret (v := .agg #[.int .i64 5, .int .i64 0, .int .i64 0, .string ⟨#[]⟩, .slice none 0 0, .slice AC t.co.length qC, .slice A3 m q3]) (by simp [results, Tryz.results40, go_sem, y0, y1, y2, y3, y4, y5, y6]) rfl (MSt.give (MSt.tbl ((MSt.nth (L1 := [_, _, _]) ((MSt.nth (L1 := [_, _, _]) (MSt.nth (L1 := [_, _, _]) hg)).close HF.out)).close0 (fun w' => OwL.strs w' t.co) (by simp))))

end Go.Proofs.YtabcmnlmmpbmnaaGreat
