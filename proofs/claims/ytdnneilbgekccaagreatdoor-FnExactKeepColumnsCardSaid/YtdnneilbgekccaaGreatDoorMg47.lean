/-
  Texts that the proof rests on, put together: KeepMath, KeepI.
-/
import Derived.Test.YtdnneilbgekccaaGreatDoorMg43
import Derived.Test.YtdnneilbgekccaaGreatDoorMg39
import Derived.Test.YtdnneilbgekccaaGreatDoorMg37
import Derived.Test.YtdnneilbgekccaaGreatDoorMg46
import Derived.Maps.Views
import Derived.Deep.RegionLaw
import Derived.Deep.RegionHeld3
import Derived.Outline
import Derived.Test.YtdnneilbgekccaaGreatDoorMg44
/-
  Columns kept: plain mathematics. (Written by gentab.py.)
-/

namespace Go.Proofs.YtdnneilbgekccaaGreatDoor
open Go.RowKit Go.Maps
set_option linter.unusedVariables false
set_option linter.unusedSimpArgs false

theorem nb_inj7 {a b : ByteArray} (h : nb a = nb b) : a = b := by
  obtain ⟨⟨a⟩⟩ := a
  obtain ⟨⟨b⟩⟩ := b
  have h : a = b := h
  rw [h]
/-- One row with some of its columns. -/
def keepRow (co cc : List ByteArray) (r : Dt) : Dt := .agg [.lst ((cc.map fun s => r.at (pos co s)).map .int), .lst r.fr]
def KeepOk (cc co : List ByteArray) : Prop := (cc.map nb).Nodup ∧ ∀ s ∈ cc, s ∈ co
open Classical in
noncomputable def keepD (a t : Dt) : Dt := if KeepOk (colsOf a) t.co then tblD (colsOf a) (t.rw.map (keepRow t.co (colsOf a))) else errD 7
theorem keep_no {a t : Dt} (h : ¬ KeepOk (colsOf a) t.co) : keepD a t = errD 7 := if_neg h
theorem keep_yes {a t : Dt} (h : KeepOk (colsOf a) t.co) : keepD a t = tblD (colsOf a) (t.rw.map (keepRow t.co (colsOf a))) := if_pos h
theorem row_orgs7 {a : Dt} {os : List Dt} (h : IsRow (.agg [a, .lst os])) : ∀ x ∈ os, IsOrg x := by
  obtain ⟨ns', os', e, ho⟩ := h
  simp only [Dt.agg.injEq, List.cons.injEq, Dt.lst.injEq, and_true] at e
  obtain ⟨-, rfl⟩ := e
  exact ho
theorem isRow_keep {co cc : List ByteArray} {r : Dt} (h : IsRow r) : IsRow (keepRow co cc r) := by
  obtain ⟨ns, os, rfl, ho⟩ := h
  exact ⟨_, os, rfl, ho⟩
theorem isVal_keepD (a : Dt) {t : Dt} (ht : IsVal t) : IsVal (keepD a t) := by
  unfold keepD
  split
  · exact isVal_tblD _ _ fun x hx => by obtain ⟨y, hy, rfl⟩ := List.mem_map.1 hx; exact isRow_keep (rw_val ht y hy)
  · exact isVal_flatD _ _ _
theorem sum_sub (f : ByteArray → Nat) : ∀ (cc co : List ByteArray), cc.Nodup → (∀ s ∈ cc, s ∈ co) → (cc.map f).sum ≤ (co.map f).sum
  | [], co, _, _ => by simp
  | s :: cc, co, hn, h => by
    obtain ⟨l1, l2, rfl⟩ := List.append_of_mem (h s (by simp))
    have hn' := List.nodup_cons.1 hn
    have ih := sum_sub f cc (l1 ++ l2) hn'.2 (fun x hx => by
      have h1 := h x (by simp [hx])
      have h2 : x ≠ s := fun e => hn'.1 (e ▸ hx)
      simp only [List.mem_append, List.mem_cons] at h1 ⊢
      rcases h1 with h1 | h1 | h1
      · exact .inl h1
      · exact (h2 h1).elim
      · exact .inr h1)
    simp only [List.map_append, List.map_cons, List.sum_append, List.sum_cons] at ih ⊢
    omega
theorem strs_wt (l : List ByteArray) : (Dt.lst (l.map .str)).wt = (l.map fun s => s.size + 1).sum := by
  simp only [Dt.wt, List.length_map]
  induction l with
  | nil => rfl
  | cons s l ih => simp only [List.map_cons, wts, Dt.wt, List.length_cons, List.sum_cons]; omega
theorem len_sum : ∀ l : List ByteArray, (l.map fun _ => 1).sum = l.length
  | [] => rfl
  | x :: l => by have := len_sum l; simp only [List.map_cons, List.sum_cons, List.length_cons]; omega
theorem wts_ints7 : ∀ l : List Int, wts (l.map .int) = 0
  | [] => rfl
  | x :: l => by simp only [List.map_cons, wts, Dt.wt, wts_ints7 l]
theorem keep_wt {co cc : List ByteArray} {r : Dt} (hr : RowOk co.length r) (hc : cc.length ≤ co.length) : (keepRow co cc r).wt ≤ r.wt := by
  obtain ⟨ns, os, rfl, h1, -, -⟩ := hr
  simp only [keepRow, fr_mk, Dt.wt, wts, wts_ints7, List.length_map]
  omega
theorem keeps_wt {co cc : List ByteArray} (hc : cc.length ≤ co.length) : ∀ rs : List Dt, (∀ x ∈ rs, RowOk co.length x) → wts (rs.map (keepRow co cc)) ≤ wts rs
  | [], _ => by simp [wts]
  | x :: rs, h => by
    have h1 := keeps_wt hc rs fun y hy => h y (by simp [hy])
    have h2 := keep_wt (h x (by simp)) hc
    simp only [List.map_cons, wts]
    omega
theorem keepOk_le {cc co : List ByteArray} (h : KeepOk cc co) : cc.length ≤ co.length ∧ (Dt.lst (cc.map .str)).wt ≤ (Dt.lst (co.map .str)).wt := by
  have hn : cc.Nodup := (List.pairwise_map.1 h.1).imp fun hne e => hne (by rw [e])
  have h1 := sum_sub (fun _ => 1) cc co hn h.2
  have h2 := sum_sub (fun s => s.size + 1) cc co hn h.2
  rw [len_sum, len_sum] at h1
  rw [strs_wt, strs_wt]
  exact ⟨h1, h2⟩
theorem wt_keepD (a : Dt) {t : Dt} (ht : IsVal t) (hok : TblOk t.co t.rw) : (keepD a t).wt ≤ t.wt := by
  by_cases h : KeepOk (colsOf a) t.co
  · rw [keep_yes h, wt_tblD, List.length_map]
    have h1 := wt_parts ht
    have h2 := keepOk_le h
    have h3 := keeps_wt h2.1 t.rw hok.2.2
    omega
  · rw [keep_no h, wt_err]; omega
theorem wo_none {ss rs : List ByteArray} : (wo ss rs).length = 0 ↔ ∀ s ∈ ss, s ∈ rs := by
  unfold wo
  rw [List.length_eq_zero_iff, List.filter_eq_nil_iff]
  constructor
  · intro h s hs
    have h1 := h s hs
    simp only [Bool.not_eq_true', decide_eq_false_iff_not, Classical.not_not] at h1
    obtain ⟨r, hr, he⟩ := List.mem_map.1 h1
    rw [← nb_inj7 he]
    exact hr
  · intro h s hs
    simp only [Bool.not_eq_true', decide_eq_false_iff_not, Classical.not_not]
    exact List.mem_map.2 ⟨s, h s hs, rfl⟩
theorem keeps_next {co cc : List ByteArray} {rs : List Dt} {j : Nat} (hj : j < rs.length) : (rs.take (j + 1)).map (keepRow co cc) = (rs.take j).map (keepRow co cc) ++ [keepRow co cc rs[j]] := by
  rw [List.take_succ_eq_append_getElem hj, List.map_append, List.map_cons, List.map_nil]
theorem MSt.row2 {w wx : World} {L : List Asn} {a b : List Dt} {va vb : Value} {fa fb : List Nat} (h : MSt w (owA (.lst a) [va] fa :: owA (.lst b) [vb] fb :: L) wx) : MSt w (owA (.agg [.lst a, .lst b]) [va, vb] (fa ++ fb) :: L) wx :=
  h.alter fun o => (Objs.pair ((Objs.single o).swap.single.swap)).agg
theorem size_in {os : List Dt} {a : Dt} {m : Nat} (h : (Dt.agg [a, .lst os]).wt ≤ m) : os.length ≤ m := by
  simp only [Dt.wt, wts] at h
  omega

end Go.Proofs.YtdnneilbgekccaaGreatDoor

/-
  KeepColumns, the program's. (Written by gentab.py.)
-/

namespace Go.Proofs.YtdnneilbgekccaaGreatDoor
open Go.RowKit Go.Maps
set_option linter.unusedVariables false
set_option linter.unusedSimpArgs false

set_option maxHeartbeats 6400000 in
set_option maxRecDepth 100000 in
theorem keepColumns_any {a t : Dt} (hv : ∀ y ∈ [a, t], IsVal y) (hw : ∀ y ∈ [a, t], y.wt ≤ 1048576) (ok : OpOk [a, t] ([2] ++ [5])) (w : World) (A : Option Addr) (c : Nat) (A5 : Option Addr) (n5 c5 : Nat) (A6 : Option Addr) (n6 c6 : Nat) (tr : TabR w t A5 n5 c5 A6 n6 c6)
    (hM : MaxL w) (ro : Rd w w.heap.size (.lst [a]) [.slice A 1 c]) : Calls Tryz.prog 118 #[.agg #[.slice A5 n5 c5, .slice A6 n6 c6], .slice A 1 c] w (ToA w (keepD a t)) := by
  obtain ⟨hn6, hq6, hx6⟩ := tr.2.lst_len
  subst hn6
  obtain ⟨hn5, hq5, -⟩ := tr.1.lst_len
  rw [List.length_map] at hn5
  subst hn5
  obtain ⟨-, hcA, hcB⟩ := ro.lst_len
  unfold maxLen at hx6 hcB
  have hkk := ok.2
  simp only [List.map_cons, List.map_nil, List.cons_append, List.nil_append, List.cons.injEq, and_true] at hkk
  obtain ⟨ka, kt⟩ := hkk
  have htb := tbl_of (hv t (by simp)) (ok.1 t (by simp)) kt
  have HB := Lib.hid htb
  have hr12 := htb.2.1
  have hc4 := htb.1.1.2
  obtain ⟨ba, oa, csa, hAa, hba, hrda, -, hca⟩ := ro.at (k := 7) (fun y hy => (hv y (List.mem_append_left [t] hy)).width) (by omega) 0 (by simp)
  simp only [List.getElem_cons_zero, List.getElem_cons_zero, List.getElem_cons_succ] at hrda
  subst hAa
  obtain ⟨ay0, ay1, ay2, ay3, ay4, an4, ac4, ay5, an5, ac5, ay6, an6, ac6, rfl⟩ := (hv a (by simp)).form hrda
  have HKa := Lib.hid (And.intro (kd_cell (hv a (by simp)) hrda) (tx_cell (hv a (by simp)) hrda))
  have ha0 := hca 0 (by omega)
  have ha1 := hca 1 (by omega)
  have ha2 := hca 2 (by omega)
  have ha3 := hca 3 (by omega)
  have ha4 := hca 4 (by omega)
  have ha5 := hca 5 (by omega)
  have ha6 := hca 6 (by omega)
  simp only [List.getElem?_cons_zero, List.getElem?_cons_succ, Nat.add_zero, Nat.zero_mul, Nat.one_mul, Nat.reduceMul] at ha0 ha1 ha2 ha3 ha4 ha5 ha6
  clear hca
  have HTR := Lib.hid tr
  have HRO := Lib.hid ro
  have HV := Lib.hid (And.intro hv (And.intro hw ok))
  clear hv hw ok tr ro htb ka kt hrda
  have h0 := ((MSt.start w).new 113 2 #[.slice A5 t.co.length c5, .slice A6 t.rw.length c6] rfl).new 28 7 #[.int .i64 0, .int .i64 0, .int .i64 0, .string ⟨#[]⟩, .slice none 0 0, .slice none 0 0, .slice none 0 0] rfl
  simp only [World.size_alloc] at h0
  have H0 := Lib.hid h0
  clear h0
  have HMX := Lib.hid hM
  clear hM
  obtain ⟨d, hd⟩ : ∃ d, d = keepD a t := ⟨_, rfl⟩
  rw [← hd]
  have HDD := Lib.hid hd
  clear hd
  have hts := txt_size (HV.out.1 a (by simp)) (HV.out.2.2.1 a (by simp)) (by have h := HV.out.2.2.2; simp only [List.map_cons, List.map_nil, List.cons_append, List.nil_append, List.cons.injEq, and_true] at h; exact h.1)
  rw [HKa.out.2] at hts
  obtain ⟨cc, hcc⟩ : ∃ cc, pcsB 32 ay3.data.toList = cc := ⟨_, rfl⟩
  have hcn : cc.length ≤ 21 := by rw [← hcc]; have h1 := pcsB_len 32 ay3.data.toList; have h2 : ay3.data.toList.length ≤ 20 := hts; omega
  have HCS : Hid (∀ s ∈ cc, s.size ≤ 1048576) := Lib.hid (by rw [← hcc]; intro s hs; have h1 := pcsB_size 32 _ s hs; have h2 : ay3.data.toList.length ≤ 20 := hts; omega)
  have HCC := Lib.hid (And.intro hcc (show colsOf a = cc by rw [colsOf_eq HKa.out.2, hcc]))
  clear hcc
  have HCT : Hid (∀ s ∈ t.co, s.size ≤ 1048576) := Lib.hid (by intro s hs; have h1 := wts_in (List.mem_map.2 ⟨s, hs, rfl⟩ : Dt.str s ∈ t.co.map .str); have h2 := wt_parts (HV.out.1 t (by simp)); have h3 := HV.out.2.1 t (by simp); simp only [Dt.wt] at h1 h2; omega)
  have hts2 : ay3.size ≤ 1048576 := by omega
  have hz0 : (0 : Int) < 1 := by omega
  go_enter Tryz.func118, Tryz.ntmps118
  have hb2 := MSt.box (MSt.nth (L1 := [_]) H0.out)
  have fO0 := hb2.cellAt 0 (by decide)
  have fO1 := hb2.cellAt 1 (by decide)
  have fOlt := (hb2.lt _ rfl).2
  simp only [List.getElem?_cons_zero, List.getElem?_cons_succ] at fO0 fO1
  clear hb2
  go_wp2_with fail
  clear fO0 fO1 fOlt
  refine (splitNames_any _ _ _ ay3 _ _ _ hts2 cc HCC.out.1 _ (HMX.out.below H0.out.bel)).mono ?_
  rintro e w1 ⟨gC, rfl, hown, hb⟩
  obtain ⟨AC, hAC⟩ : ∃ A : Option Addr, A = some ⟨gC, 0, none⟩ := ⟨_, rfl⟩
  rw [← hAC] at hown ⊢
  clear hAC
  have H1 := Lib.hid (H0.out.add hb (rowA_at hown))
  clear hown hb ha0 ha1 ha2 ha3 ha4 ha5 ha6
  go_wp2_with fail
  refine (implDist_any AC cc.length cc _ _ (own_row (MSt.row H1.out) (fun b hb => ((MSt.row H1.out).lt b hb).2)) (by omega)).mono ?_
  rintro e w2 ⟨bd, rfl, hbd, hb⟩
  have H2 := Lib.hid (H1.out.later hb)
  clear hb
  have HBD := Lib.hid hbd
  clear hbd
  cases bd
  · obtain rfl : d = errD 7 := HDD.out.trans (keep_no (fun hh => absurd (HBD.out.2 (by rw [← HCC.out.2]; exact hh.1)) (by simp)))
    go_wp2_with fail
    first | go_quiet (fail) | skip
    refine (implErrorValue_any 7 _).mono ?_
    rintro e w3 ⟨rfl, hb⟩
    have H3 := Lib.hid (H2.out.later hb)
    clear hb
    obtain ⟨fR0, fR1, fR2, fR3, fR4, fR5, fR6, fRlt⟩ := box7 (MSt.box (MSt.nth (L1 := [_]) H3.out))
    obtain ⟨zR0, zR1, zR2, zR3, zR4, zR5, zR6⟩ := box7z (MSt.box (MSt.nth (L1 := [_]) H3.out))
    go_wp2_with fail
    obtain ⟨W7, hW, hg, y0, y1, y2, y3, y4, y5, y6⟩ := MSt.put (MSt.nth (L1 := [_]) H3.out) (.int .i64 6) (.int .i64 7) (.int .i64 0) (.string ⟨#[]⟩) (.slice none 0 0) (.slice none 0 0) (.slice none 0 0)
    rw [← hW]
    refine bodyPost_ret (v := .agg #[.int .i64 6, .int .i64 7, .int .i64 0, .string ⟨#[]⟩, .slice none 0 0, .slice none 0 0, .slice none 0 0]) (by simp [results, Tryz.results118, go_sem, y0, y1, y2, y3, y4, y5, y6]) rfl (toA_flat0 rfl hg.bel)
  · have hb2 := MSt.box (MSt.nth (L1 := [_, _]) H2.out)
    have fO0 := hb2.cellAt 0 (by decide)
    have fO1 := hb2.cellAt 1 (by decide)
    have fOlt := (hb2.lt _ rfl).2
    simp only [List.getElem?_cons_zero, List.getElem?_cons_succ] at fO0 fO1
    clear hb2
    go_wp2_with fail
    clear fO0 fO1 fOlt
    refine (implWithout_any AC A5 cc.length c5 cc t.co _ (own_row (MSt.row H2.out) (fun b hb => ((MSt.row H2.out).lt b hb).2)) (HTR.out.1.strs.keep H2.out.bel.block |>.more H2.out.size) (by omega) (by omega) (fun k hk => HCS.out _ (List.getElem_mem hk)) (fun k hk => HCT.out _ (List.getElem_mem hk))).mono ?_
    rintro e w3 ⟨vW, rfl, hown, hb⟩
    obtain ⟨nW, hnW⟩ : ∃ n, n = (wo cc t.co).length := ⟨_, rfl⟩
    rw [← hnW] at hown
    obtain ⟨AW, qW, rfl⟩ := own_slice hown
    have HNW := Lib.hid hnW
    have H3 := Lib.hid (H2.out.later hb)
    clear hb hown hnW
    by_cases h0 : nW = 0
    rotate_left
    · have h0p : 0 < nW := by omega
      have h0q : (0 : Int) < (nW : Int) := by omega
      obtain rfl : d = errD 7 := HDD.out.trans (keep_no (fun hh => h0 (by rw [HNW.out, wo_none, ← HCC.out.2]; exact hh.2)))
      go_wp2_with fail
      refine (implErrorValue_any 7 _).mono ?_
      rintro e w4 ⟨rfl, hb⟩
      have H4 := Lib.hid (H3.out.later hb)
      clear hb
      obtain ⟨fR0, fR1, fR2, fR3, fR4, fR5, fR6, fRlt⟩ := box7 (MSt.box (MSt.nth (L1 := [_]) H4.out))
      obtain ⟨zR0, zR1, zR2, zR3, zR4, zR5, zR6⟩ := box7z (MSt.box (MSt.nth (L1 := [_]) H4.out))
      go_wp2_with fail
      obtain ⟨W7, hW, hg, y0, y1, y2, y3, y4, y5, y6⟩ := MSt.put (MSt.nth (L1 := [_]) H4.out) (.int .i64 6) (.int .i64 7) (.int .i64 0) (.string ⟨#[]⟩) (.slice none 0 0) (.slice none 0 0) (.slice none 0 0)
      rw [← hW]
      refine bodyPost_ret (v := .agg #[.int .i64 6, .int .i64 7, .int .i64 0, .string ⟨#[]⟩, .slice none 0 0, .slice none 0 0, .slice none 0 0]) (by simp [results, Tryz.results118, go_sem, y0, y1, y2, y3, y4, y5, y6]) rfl (toA_flat0 rfl hg.bel)
    have HKO : Hid (KeepOk cc t.co) := Lib.hid ⟨HBD.out.1 (by trivial), wo_none.1 (by rw [← HNW.out]; exact h0)⟩
    subst h0
    obtain rfl : d = tblD cc (t.rw.map (keepRow t.co cc)) := by rw [← HCC.out.2] at HKO ⊢; exact HDD.out.trans (keep_yes HKO.out)
    have hb2 := MSt.box (MSt.nth (L1 := [_, _]) H3.out)
    have fO0 := hb2.cellAt 0 (by decide)
    have fO1 := hb2.cellAt 1 (by decide)
    have fOlt := (hb2.lt _ rfl).2
    simp only [List.getElem?_cons_zero, List.getElem?_cons_succ] at fO0 fO1
    clear hb2
    go_wp2_with fail
    clear fO0 fO1 fOlt
    obtain ⟨wS, rfl⟩ : ∃ wo : World, wo = w3 := ⟨_, rfl⟩
    have HS := Lib.hid (H3.out.nilRow 38 2)
    go_loopw [6, 31] (fun v i wr => ∃ (j : Nat) (cl : List Value) (fp : List Nat), j ≤ t.rw.length ∧ i = .int .i64 (j : Int) ∧ Hid (MSt w [rowA 38 2 v j cl, owLA ((t.rw.take j).map (keepRow t.co cc)) cl fp, rowA 9 1 (.slice AC cc.length cc.length) cc.length (strV cc), boxA 28 7 (w.heap.size + 1) [.int .i64 0, .int .i64 0, .int .i64 0, .string ⟨#[]⟩, .slice none 0 0, .slice none 0 0, .slice none 0 0], boxA 113 2 w.heap.size [.slice A5 t.co.length c5, .slice A6 t.rw.length c6]] wr)) (fun _ i _ => t.rw.length - (intOf i).toNat)
    case atStart => exact ⟨0, _, _, Nat.zero_le _, rfl, HS⟩
    case round =>
      obtain ⟨j, cl, fp, hj, rfl, H1⟩ := hrel
      obtain ⟨A3, q3, rfl⟩ := own_slice H1.out.row
      by_cases hlt : j < t.rw.length
      · obtain ⟨b, o, cs, hA6, hbB, hrd, hlen, hcell⟩ := (HTR.out.2.below H1.out.bel).at (k := 2) (fun x hx' => (rw_val (HV.out.1 t (by simp)) x hx').width) (by omega) j hlt
        subst hA6
        obtain ⟨x, hx⟩ : ∃ x, x = t.rw[j] := ⟨_, rfl⟩
        have hxr := HB.out.2.2 _ (List.getElem_mem hlt)
        rw [← hx] at hrd hxr
        obtain ⟨ns, os, rfl, hns, hos, hnn⟩ := hxr
        obtain ⟨B0, d0, B1, d1, rfl, r0, r1⟩ := Rd.ofRow hrd
        have HX := Lib.hid (And.intro hx (And.intro hns (And.intro hos (And.intro hnn (And.intro r0 r1)))))
        have h00 := hcell 0 (by omega)
        have h01 := hcell 1 (by omega)
        simp only [List.getElem?_cons_zero, List.getElem?_cons_succ, Nat.add_zero, List.length_map] at h00 h01
        have hws := H1.out.size
        have hbl : b < wr.heap.size := by omega
        have hj2 : (j : Int) < (t.rw.length : Int) := by omega
        have hr0 := hrd.keep (w' := w) (fun k hk => (H1.out.bel.block k hk).symm)
        simp only [List.length_map] at hr0
        have hi0 := r0.keep (w' := w) (fun k hk => (H1.out.bel.block k hk).symm)
        have HRX := Lib.hid (And.intro hr0 hi0)
        have hxw : (t.rw[j]).wt ≤ 1048576 := by have h1 := wts_in (List.getElem_mem hlt); have h2 := wt_parts (HV.out.1 t (by simp)); have h3 := HV.out.2.1 t (by simp); omega
        have hxi := rw_val (HV.out.1 t (by simp)) _ (List.getElem_mem hlt)
        rw [← HX.out.1] at hxw hxi
        have HXW := Lib.hid (And.intro (size_in hxw) (row_orgs7 hxi))
        obtain ⟨ks, hks⟩ : ∃ ks : List Int, ks = cc.map fun s => Dt.at (.agg [.lst (ns.map .int), .lst os]) (pos t.co s) := ⟨_, rfl⟩
        have hnx := keeps_next (co := t.co) (cc := cc) hlt
        rw [← HX.out.1, keepRow, fr_mk, ← hks] at hnx
        have HNX := Lib.hid hnx
        have HKS := Lib.hid (And.intro hks (show ks.length = cc.length by rw [hks, List.length_map]))
        have hkl : cc.length ≤ ks.length := by have := HKS.out.2; omega
        clear hrd hr0 hi0 hcell hlen r0 r1 hns hos hnn hx hxw hxi hnx hks
        go_wp2_with fail
        clear h00 h01
        have H2 := Lib.hid (H1.out.new 38 2 #[.slice B0 ns.length d0, .slice B1 os.length d1] rfl)
        obtain ⟨wo, hwo⟩ : ∃ wo : World, wo = wr := ⟨_, rfl⟩
        have HS2 := Lib.hid (MSt.nilRow0 H2.out 3 1)
        obtain ⟨gB, hgB⟩ : ∃ gB, gB = wr.heap.size := ⟨_, rfl⟩
        rw [← hgB] at HS2 H2 ⊢
        clear hgB hwo
        go_loopw [9, 37] (fun v i wr => ∃ k : Nat, k ≤ cc.length ∧ i = .int .i64 (k : Int) ∧ Hid (MSt w [rowA 3 1 v k (intV (ks.take k)), boxA 38 2 gB [.slice B0 ns.length d0, .slice B1 os.length d1], rowA 38 2 (.slice A3 j q3) j cl, owLA ((t.rw.take j).map (keepRow t.co cc)) cl fp, rowA 9 1 (.slice AC cc.length cc.length) cc.length (strV cc), boxA 28 7 (w.heap.size + 1) [.int .i64 0, .int .i64 0, .int .i64 0, .string ⟨#[]⟩, .slice none 0 0, .slice none 0 0, .slice none 0 0], boxA 113 2 w.heap.size [.slice A5 t.co.length c5, .slice (some ⟨b, o, none⟩) t.rw.length c6]] wr)) (fun _ i _ => cc.length - (intOf i).toNat)
        case atStart => exact ⟨0, Nat.zero_le _, rfl, HS2⟩
        case round =>
          obtain ⟨i, hi, rfl, H3⟩ := hrel
          obtain ⟨A4, q4, rfl⟩ := own_slice H3.out.row
          by_cases hlt2 : i < cc.length
          · have hi2 : (i : Int) < (cc.length : Int) := by omega
            obtain ⟨b', o', rfl, hb', hc'⟩ := (own_row (MSt.row (MSt.nth (L1 := [_, _, _, _]) H3.out)) (fun b hb => ((MSt.row (MSt.nth (L1 := [_, _, _, _]) H3.out)).lt b hb).2)) i _ (strV_get cc i hlt2)
            obtain ⟨s, hs⟩ : ∃ s, s = cc[i] := ⟨_, rfl⟩
            rw [← hs] at hc'
            rcases idx_or t.co s with ⟨_, hno⟩ | ⟨k, hk, hix, _⟩
            · exact absurd (HKO.out.2 _ (List.getElem_mem hlt2)) (by rw [← hs]; exact hno)
            have hks : ks[i]'(by omega) = Dt.at (.agg [.lst (ns.map .int), .lst os]) k := by
              have h9 := HKS.out.1
              subst h9
              rw [List.getElem_map, ← hs, pos_of hix]
            obtain ⟨b0, o0, rfl, hb0, hc0⟩ := (HRX.out.2.below H3.out.bel).ints k _ (intV_get ns k (by rw [HX.out.2.1]; exact hk))
            obtain ⟨q, hq⟩ : ∃ q, q = ns[k]'(by rw [HX.out.2.1]; exact hk) := ⟨_, rfl⟩
            rw [← hq] at hc0
            rw [at_mk (by rw [HX.out.2.1]; exact hk), ← hq] at hks
            have hnx := intV_take7 ks i (by omega)
            rw [hks] at hnx
            have HNI := Lib.hid (And.intro hnx (And.intro hix hs))
            have hk2 : (k : Int) < (ns.length : Int) := by rw [HX.out.2.1]; omega
            have hws3 := H3.out.size
            have hbl0 : b0 < wr.heap.size := by omega
            have hbl' : b' < wr.heap.size := by omega
            clear hq hks hnx hix hs hk
            have hcl : ∀ W, Below w.heap.size w W → Calls Tryz.prog 73 #[.slice A5 t.co.length c5, .string s] W fun e w' => e = .returned (.int .i64 (k : Int)) ∧ Below W.heap.size W w' := fun W hW => by
              have h := implIndex_any A5 c5 t.co s w.heap.size W (HTR.out.1.strs.keep hW.block) (by omega)
              rw [HNI.out.2.1] at h
              exact h.mono (by rintro e w' ⟨h1, rfl⟩; exact ⟨h1, Below.refl _ _⟩)
            have HCL := Lib.hid hcl
            clear hcl
            have hb2 := MSt.box (MSt.nth (L1 := [_, _, _, _, _, _]) H3.out)
            have fO0 := hb2.cellAt 0 (by decide)
            have fO1 := hb2.cellAt 1 (by decide)
            have fOlt := (hb2.lt _ rfl).2
            simp only [List.getElem?_cons_zero, List.getElem?_cons_succ] at fO0 fO1
            clear hb2
            have hb2 := MSt.box (MSt.nth (L1 := [_]) H3.out)
            have fB0 := hb2.cellAt 0 (by decide)
            have fB1 := hb2.cellAt 1 (by decide)
            have fBlt := (hb2.lt _ rfl).2
            simp only [List.getElem?_cons_zero, List.getElem?_cons_succ] at fB0 fB1
            clear hb2
            go_wp2_with fail
            go_region_law (first
              | (
                go_simp
                go_at_call 73
                refine (HCL.out _ H3.out.drew.bel).mono ?_
                rintro e1 w4 ⟨rfl, hb⟩
                have H4 := Lib.hid (H3.out.drew.later hb)
                have hs4 := H4.out.size
                have hc4 : w4.cell? ⟨b0, o0 + k, none⟩ = some (.int .i64 q) := (hb.cell (p := ⟨b0, o0 + k, none⟩) (show b0 < wr.heap.size from hbl0)).trans hc0
                clear hb
                have hb2 := MSt.box (MSt.nth (L1 := [_, _, _, _, _, _]) H4.out)
                have fO0 := hb2.cellAt 0 (by decide)
                have fO1 := hb2.cellAt 1 (by decide)
                have fOlt := (hb2.lt _ rfl).2
                simp only [List.getElem?_cons_zero, List.getElem?_cons_succ] at fO0 fO1
                clear hb2
                have hb2 := MSt.box (MSt.nth (L1 := [_]) H4.out)
                have fB0 := hb2.cellAt 0 (by decide)
                have fB1 := hb2.cellAt 1 (by decide)
                have fBlt := (hb2.lt _ rfl).2
                simp only [List.getElem?_cons_zero, List.getElem?_cons_succ] at fB0 fB1
                clear hb2)
              | (
                refine stepI _ (by rfl) (.tmp 41) (.tmp 50) (by rfl) w.heap.size (.slice A4 i q4) i (intV (ks.take i)) (by rfl) (by exact (MSt.row (H4.out.alloc _))) (some ⟨w4.heap.size, 0, none⟩) 1 1 (w4.heap.size + 1) [.int .i64 q] (by rfl) rfl (row_new w4 #[.int .i64 q] 3) (by intro u hu; simp at hu; subst hu; rfl) (by omega) (by simp; omega) ?_
                intro v5 w5 hown5 hgr5 hn5
                have h5 := MSt.app (H4.out.alloc (.cells #[.int .i64 q] 3)) hgr5 hown5 hn5.2
                rw [HNI.out.1] at h5
                have H5 := Lib.hid h5
                clear h5 hown5 hgr5 hn5)
              | fail)
            all_goals
              go_wp2_with fail
              exact ⟨⟨i + 1, by omega, by simp, H5⟩, by simp [intOf]; omega⟩
          · obtain rfl : i = cc.length := by omega
            have h3 := H3.out
            rw [List.take_of_length_le (by have := HKS.out.2; omega)] at h3
            have h4 := h3.close0 (xs := ks.map .int) (fun w' => OwL.ints w' ks) (by rw [List.length_map]; exact HKS.out.2.symm)
            have H4 := Lib.hid h4
            clear h3 h4 H3
            have hb2 := MSt.box (MSt.nth (L1 := [_]) H4.out)
            have fB0 := hb2.cellAt 0 (by decide)
            have fB1 := hb2.cellAt 1 (by decide)
            have fBlt := (hb2.lt _ rfl).2
            simp only [List.getElem?_cons_zero, List.getElem?_cons_succ] at fB0 fB1
            clear hb2
            go_wp2_with fail
            clear fB0 fB1 fBlt
            have h5 := H4.out.row_lit 38 2 1 #[.slice B0 ns.length d0, .slice B1 os.length d1] (by unfold maxLen; omega) rfl
            have H5 := Lib.hid h5
            clear h5
            have hrd := rd_ownk (MSt.row H5.out) rfl (rdl_1 ((HRX.out.1.below H5.out.bel).more H5.out.size))
            refine (originsOne_any ⟨HX.out.2.1, HX.out.2.2.1, HX.out.2.2.2.1⟩ HXW.out.2 HXW.out.1 _ _ _ hrd).mono ?_
            rintro e w6 ⟨AO, cO, fO, rfl, how, hnf, hb⟩
            clear hrd
            have h6 := (MSt.drop H5.out).add hb (owA_at how hnf)
            have H6 := Lib.hid (MSt.row2 h6.swap)
            have HO6 := Lib.hid (MSt.read H6.out).one
            clear h6 how hnf hb H4 H5
            go_wp2_with (at_builtin; refine appR _ rfl (.tmp 53) (.tmp 59) rfl w.heap.size (.slice A3 j q3) j cl rfl (((MSt.nth (L1 := [_, _]) H6.out).alloc _).row) (some ⟨w6.heap.size, 0, none⟩) 1 1 (w6.heap.size + 1) [.slice A4 cc.length q4, .slice AO os.length cO] rfl rfl (row_new w6 #[.slice A4 cc.length q4, .slice AO os.length cO] 38) HO6.out (by omega) (by have := H6.out.size; simp; omega) ?_; intro v7 w7 hown7 hgr7 hn7; have h7 := MSt.push (MSt.subB (MSt.app ((MSt.nth (L1 := [_, _]) H6.out).alloc (.cells #[.slice A4 cc.length q4, .slice AO os.length cO] 38)) hgr7 hown7 hn7.2) (.cons_cons _ (.cons_cons _ (.cons _ (List.Sublist.refl _))))); rw [← HNX.out] at h7; have H7 := Lib.hid h7; clear h7 hown7 hgr7 hn7)
            exact ⟨⟨j + 1, _, _, by omega, by simp, H7⟩, by simp [intOf]; omega⟩
      · obtain rfl : j = t.rw.length := by omega
        have h1 := H1.out
        rw [List.take_length] at h1
        have h2 := MSt.nth (L1 := [_]) (h1.close (by rw [List.length_map]))
        have h3 := h2.close0 (xs := cc.map .str) (fun w' => OwL.strs w' cc) (by simp)
        have H2 := Lib.hid (MSt.tbl h3)
        clear h1 h2 h3 H1
        go_wp2_with fail
        refine (value5_any 0 0 ⟨#[]⟩ none AC A3 0 0 cc.length cc.length t.rw.length q3 _).mono ?_
        rintro e w4 ⟨rfl, hb⟩
        have H3 := Lib.hid (H2.out.later hb)
        clear hb
        obtain ⟨fR0, fR1, fR2, fR3, fR4, fR5, fR6, fRlt⟩ := box7 (MSt.box (MSt.nth (L1 := [_]) H3.out))
        obtain ⟨zR0, zR1, zR2, zR3, zR4, zR5, zR6⟩ := box7z (MSt.box (MSt.nth (L1 := [_]) H3.out))
        go_wp2_with fail
        obtain ⟨W7, hW, hg, y0, y1, y2, y3, y4, y5, y6⟩ := MSt.put (MSt.nth (L1 := [_]) H3.out) (.int .i64 5) (.int .i64 0) (.int .i64 0) (.string ⟨#[]⟩) (.slice none 0 0) (.slice AC cc.length cc.length) (.slice A3 t.rw.length q3)
        rw [← hW]
        refine bodyPost_ret (v := .agg #[.int .i64 5, .int .i64 0, .int .i64 0, .string ⟨#[]⟩, .slice none 0 0, .slice AC cc.length cc.length, .slice A3 t.rw.length q3]) (by simp [results, Tryz.results118, go_sem, y0, y1, y2, y3, y4, y5, y6]) rfl ((MSt.nth (L1 := [_]) hg).give)

set_option maxHeartbeats 6400000 in
set_option maxRecDepth 100000 in
theorem implKeepColumns_any {a t : Dt} (ha : IsVal a) (ht : IsVal t) (hwt : a.wt + t.wt ≤ 1048576) (csa cst : List Value) (w : World) (ra : Rd w w.heap.size a csa) (rt : Rd w w.heap.size t cst) (hM : MaxL w) (d : Dt) (hd : Nary ([2] ++ [5]) [a, t] (keepD a t) d) :
    Calls Tryz.prog 27 #[.agg csa.toArray, .agg cst.toArray] w (ToA w d) := by
  have HV := Lib.hid (And.intro (show ∀ y ∈ [a, t], IsVal y by simp; exact ⟨ha, ht⟩) (show ∀ y ∈ [a, t], y.wt ≤ 1048576 by simp; omega))
  have HD := Lib.hid hd
  have HMX := Lib.hid hM
  clear hM
  obtain ⟨ay0, ay1, ay2, ay3, ay4, an4, ac4, ay5, an5, ac5, ay6, an6, ac6, rfl⟩ := ha.form ra
  obtain ⟨ty0, ty1, ty2, ty3, ty4, tn4, tc4, ty5, tn5, tc5, ty6, tn6, tc6, rfl⟩ := ht.form rt
  have HRL : Hid (RdL w w.heap.size [a, t] [.int .i64 ay0, .int .i64 ay1, .int .i64 ay2, .string ay3, .slice ay4 an4 ac4, .slice ay5 an5 ac5, .slice ay6 an6 ac6, .int .i64 ty0, .int .i64 ty1, .int .i64 ty2, .string ty3, .slice ty4 tn4 tc4, .slice ty5 tn5 tc5, .slice ty6 tn6 tc6]) := Lib.hid (rdl_2 ra (rdl_1 rt))
  have HM : Hid (∀ (w1 : World) (A : Option Addr) (c : Nat) (A5 : Option Addr) (n5 c5 : Nat) (A6 : Option Addr) (n6 c6 : Nat), MaxL w1 → OpOk [a, t] ([2] ++ [5]) → TabR w1 t A5 n5 c5 A6 n6 c6 → Rd w1 w1.heap.size (.lst ([a, t].take 1)) [.slice A 1 c] → Calls Tryz.prog 118 #[.agg #[.slice A5 n5 c5, .slice A6 n6 c6], .slice A 1 c] w1 (ToA w1 (keepD a t))) := Lib.hid fun w1 A c A5 n5 c5 A6 n6 c6 hM ok tr ro => keepColumns_any HV.out.1 HV.out.2 ok w1 A c A5 n5 c5 A6 n6 c6 tr hM ro
  have h0 := (((MSt.start w).new 28 7 #[.int .i64 ay0, .int .i64 ay1, .int .i64 ay2, .string ay3, .slice ay4 an4 ac4, .slice ay5 an5 ac5, .slice ay6 an6 ac6] rfl).new 28 7 #[.int .i64 ty0, .int .i64 ty1, .int .i64 ty2, .string ty3, .slice ty4 tn4 tc4, .slice ty5 tn5 tc5, .slice ty6 tn6 tc6] rfl).new 28 7 #[.int .i64 0, .int .i64 0, .int .i64 0, .string ⟨#[]⟩, .slice none 0 0, .slice none 0 0, .slice none 0 0] rfl
  simp only [World.size_alloc] at h0
  have H0 := Lib.hid h0
  clear h0 hd hwt ha ra ht rt
  go_enter Tryz.func27, Tryz.ntmps27
  obtain ⟨fA0, fA1, fA2, fA3, fA4, fA5, fA6, fAlt⟩ := box7 (MSt.box (MSt.nth (L1 := [_, _]) H0.out))
  obtain ⟨fT0, fT1, fT2, fT3, fT4, fT5, fT6, fTlt⟩ := box7 (MSt.box (MSt.nth (L1 := [_]) H0.out))
  go_wp2_with fail
  go_region_law (first
    | (
      go_simp
      go_at_call 62
      refine (tabOp_keep _).mono ?_
      rintro e w2 ⟨gk, rfl, hrk, hb⟩
      first | (have HL := Lib.hid (H0.out.drew.later hb)) | (have hx0 := (H0.out.drew.row_lit 28 7 2 #[.int .i64 ay0, .int .i64 ay1, .int .i64 ay2, .string ay3, .slice ay4 an4 ac4, .slice ay5 an5 ac5, .slice ay6 an6 ac6, .int .i64 ty0, .int .i64 ty1, .int .i64 ty2, .string ty3, .slice ty4 tn4 tc4, .slice ty5 tn5 tc5, .slice ty6 tn6 tc6] (by unfold maxLen; omega) rfl).later hb; simp only [World.size_drew, World.size_alloc] at hx0; have HX := Lib.hid hx0; clear hx0) | fail
      have hws2 := hb.size
      first | simp at hws2 | skip
      clear hb
      have HK := Lib.hid hrk
      clear hrk
      first | have hbm := MSt.hasB HL.out (a := boxA 28 7 (w.heap.size) [.int .i64 ay0, .int .i64 ay1, .int .i64 ay2, .string ay3, .slice ay4 an4 ac4, .slice ay5 an5 ac5, .slice ay6 an6 ac6]) (by simp) | have hbm := MSt.hasB HX.out (a := boxA 28 7 (w.heap.size) [.int .i64 ay0, .int .i64 ay1, .int .i64 ay2, .string ay3, .slice ay4 an4 ac4, .slice ay5 an5 ac5, .slice ay6 an6 ac6]) (by simp) | fail
      obtain ⟨fA0, fA1, fA2, fA3, fA4, fA5, fA6, fAlt⟩ := box7 hbm
      clear hbm
      first | have hbm := MSt.hasB HL.out (a := boxA 28 7 (w.heap.size + 1) [.int .i64 ty0, .int .i64 ty1, .int .i64 ty2, .string ty3, .slice ty4 tn4 tc4, .slice ty5 tn5 tc5, .slice ty6 tn6 tc6]) (by simp) | have hbm := MSt.hasB HX.out (a := boxA 28 7 (w.heap.size + 1) [.int .i64 ty0, .int .i64 ty1, .int .i64 ty2, .string ty3, .slice ty4 tn4 tc4, .slice ty5 tn5 tc5, .slice ty6 tn6 tc6]) (by simp) | fail
      obtain ⟨fT0, fT1, fT2, fT3, fT4, fT5, fT6, fTlt⟩ := box7 hbm
      clear hbm)
    | (
      go_simp
      go_at_call 63
      first | (have HY := HX) | (have HY := Lib.hid (HL.out.row_lit 28 7 2 #[.int .i64 ay0, .int .i64 ay1, .int .i64 ay2, .string ay3, .slice ay4 an4 ac4, .slice ay5 an5 ac5, .slice ay6 an6 ac6, .int .i64 ty0, .int .i64 ty1, .int .i64 ty2, .string ty3, .slice ty4 tn4 tc4, .slice ty5 tn5 tc5, .slice ty6 tn6 tc6] (by unfold maxLen; omega) rfl)) | fail
      have hrd := lst_read HY.out (xs := [a, t]) rfl HRL.out
      have hrk : RowOf _ _ _ _ := HK.out
      refine (onB_any [2] _ _ 118 (enters_of Tryz.func118 (by kernel_rfl) rfl) [a, t] 1 rfl t rfl HV.out.1 HV.out.2 rfl _ _ _ hrd (by first | exact hrk | exact (hrk.keep fun k hk => ((Below.refl _ _).alloc (Nat.le_refl _) _).block k hk).more (by simp)) (keepD a t) d HD.out (fun _ => isVal_keepD a (HV.out.1 t (by simp))) (fun w1 A5 n5 c5 A6 n6 c6 hbl ok tr ro => HM.out w1 _ _ A5 n5 c5 A6 n6 c6 ((HMX.out.below HY.out.bel).below hbl) ok tr ro)).mono ?_
      rintro e w3 ⟨csT, fpT, rfl, how, hnf, hb⟩
      obtain ⟨vy0, vy1, vy2, vy3, vy4, vn4, vc4, vy5, vn5, vc5, vy6, vn6, vc6, rfl⟩ := IsVal.form (HD.out.val (fun _ => isVal_keepD a (HV.out.1 t (by simp)))) how.read
      have HZ := Lib.hid (HY.out.add hb (owA_at how hnf))
      clear how hnf hb hrd hrk
      have hbm := MSt.hasB HZ.out (a := boxA 28 7 (w.heap.size + 1 + 1) [.int .i64 0, .int .i64 0, .int .i64 0, .string ⟨#[]⟩, .slice none 0 0, .slice none 0 0, .slice none 0 0]) (by simp)
      obtain ⟨fR0, fR1, fR2, fR3, fR4, fR5, fR6, fRlt⟩ := box7 hbm
      obtain ⟨zR0, zR1, zR2, zR3, zR4, zR5, zR6⟩ := box7z hbm
      clear hbm)
    | fail)
  all_goals
    go_wp2_with fail
    obtain ⟨W7, hW, hg, y0, y1, y2, y3, y4, y5, y6⟩ := MSt.put (MSt.nth (L1 := [_, _]) HZ.out) (.int .i64 vy0) (.int .i64 vy1) (.int .i64 vy2) (.string vy3) (.slice vy4 vn4 vc4) (.slice vy5 vn5 vc5) (.slice vy6 vn6 vc6)
    rw [← hW]
    refine bodyPost_ret (v := .agg #[.int .i64 vy0, .int .i64 vy1, .int .i64 vy2, .string vy3, .slice vy4 vn4 vc4, .slice vy5 vn5 vc5, .slice vy6 vn6 vc6]) (by simp [results, Tryz.results27, go_sem, y0, y1, y2, y3, y4, y5, y6]) rfl (MSt.give (MSt.nth (L1 := [_]) hg))

end Go.Proofs.YtdnneilbgekccaaGreatDoor
