/-
  Texts that the proof rests on, put together: OrgA, SrcI, OrgsI, UseI.
-/
import Derived.Test.YtooghbejbjfakaaGreatDoorMgO24
import Derived.Test.YtooghbejbjfakaaGreatDoorMgO26
import Derived.Test.YtooghbejbjfakaaGreatDoorMgO33
import Derived.Test.YtooghbejbjfakaaGreatDoorMgO29
import Derived.Test.YtooghbejbjfakaaGreatDoorMgO30
import Derived.Maps.Views
import Derived.Deep.RegionLaw
import Derived.Deep.RegionHeld3
import Derived.Outline
import Derived.Test.YtooghbejbjfakaaGreatDoorMgO7
import Derived.Test.YtooghbejbjfakaaGreatDoorMgO8
/-
  The origins of rows, the program's. (Written by gen8.py.)
-/

namespace Go.Proofs.YtooghbejbjfakaaGreatDoor
open Go.RowKit Go.Lib Go.Sort
set_option linter.unusedVariables false
set_option linter.unusedSimpArgs false

theorem slOInfo : (Tryz.prog.info? 24).map (fun i => (i.zero, i.size, i.bytes)) = some (some (.slice none 0 0), 1, 24) := by kernel_rfl
theorem appLo {ops : Array Oper} {rest : List Oper} {o : Oper} {a : Act} {Q : Exit → Act → World → Prop} (w : World) (hgd : o.guard = none) (s x : Operand)
    (ho : o.op = .call { callee := .builtin .append, args := #[s, x], argTypes := #[108, 108] })
    (base : Nat) (v : Value) (n : Nat) (xs : List Value) (hs : a.eval s = v) (hown : w.ownsRow base 24 1 v n xs)
    (A : Option Addr) (m c B : Nat) (news : List Value) (hx : a.eval x = .slice A m c) (hl : news.length = m * 1) (hrow : RowOf w B A news) (h1 : ∀ u ∈ news, u.oneCell' = true)
    (hb : n + m ≤ 4194304) (hbase : base ≤ w.heap.size)
    (h : ∀ v' w', w'.ownsRow base 24 1 v' (n + m) (xs ++ news) → w.grownBy w' v.ownBlock → ((v' = .slice none 0 0 ↔ v = .slice none 0 0 ∧ m = 0) ∧ (v'.ownBlock = v.ownBlock ∨ v'.ownBlock = some w.heap.size)) → wpList Tryz.prog ops Q rest (a.put o.dst v') w') : wpList Tryz.prog ops Q (o :: rest) a w := by
  obtain ⟨i0, hi, hz0, hz1, hz2⟩ := info_parts slOInfo
  exact wpList_plain hgd fun _ hK => wp_append_src w s x 108 ho base 24 i0 _ 1 24 Tryz.underlying108 hi hz0 hz1 hz2 rfl (by decide) v n xs hs hown A m c B news hx hl hrow h1 (by unfold maxLen; omega) (by omega) hbase fun v' w' h2 h3 h4 => hK _ _ (h v' w' h2 h3 h4)
/-- The origins of rows, list by list. -/
def frs (rs : List Dt) : List (List (Int × Int)) := rs.map fun r => r.fr.map pr
theorem frs_len (rs : List Dt) : (frs rs).length = rs.length := List.length_map _
theorem frs_wt : ∀ rs : List Dt, (∀ x ∈ rs, IsRow x) → (frs rs).flatten.length ≤ wts rs
  | [], _ => by simp [frs, wts]
  | x :: rs, h => by
    have ih := frs_wt rs fun y hy => h y (List.mem_cons_of_mem _ hy)
    obtain ⟨ns, os, rfl, -⟩ := h x (by simp)
    unfold frs at *
    simp only [List.map_cons, List.flatten_cons, List.length_append, List.length_map, wts, Dt.wt, fr_mk]
    omega
theorem lstsD_snoc (ls : List (List (Int × Int))) (l : List (Int × Int)) : lstsD (ls ++ [l]) = lstsD ls ++ [.lst (orgsD l)] := by simp [lstsD]
theorem frs_next {rs : List Dt} {j : Nat} (hj : j < rs.length) : frs (rs.take (j + 1)) = frs (rs.take j) ++ [rs[j].fr.map pr] := by
  unfold frs
  rw [List.take_succ_eq_append_getElem hj, List.map_append]
  rfl
set_option maxHeartbeats 3200000 in
set_option maxRecDepth 100000 in
theorem originsAll_any (rs : List Dt) (hr : ∀ x ∈ rs, IsRow x) (hw : rs.length ≤ 1048576) (hw2 : (frs rs).flatten.length ≤ 1048576) (A : Option Addr) (n c : Nat) (hn : n = rs.length) (w : World) (h : Rd w w.heap.size (.lst rs) [.slice A n c]) :
    Calls Tryz.prog 49 #[.slice A n c] w fun e w' => ∃ v, e = .returned v ∧ MSt w [orgA v (setO (frs rs).flatten)] w' := by
  subst hn
  have H := Lib.hid (And.intro h hr)
  have H0 : Hid (MSt w [rowA 24 1 (.slice none 0 0) 0 []] w) := Lib.hid ((MSt.start w).nilRow0 24 1)
  clear h hr
  go_enter Tryz.func49, Tryz.ntmps49
  go_wp2_with fail
  go_loopw [3, 8] (fun v i wr => ∃ (j : Nat) (cl : List Value), j ≤ rs.length ∧ i = .int .i64 (j : Int) ∧ Hid (RdL w w.heap.size (lstsD (frs (rs.take j))) cl) ∧ Hid (MSt w [rowA 24 1 v j cl] wr)) (fun _ i _ => rs.length - (intOf i).toNat)
  case atStart => exact ⟨0, [], Nat.zero_le _, rfl, Lib.hid (by simp [frs, lstsD, RdL]), H0⟩
  case round =>
    obtain ⟨j, cl, hj, rfl, HL, H1⟩ := hrel
    obtain ⟨A3, q3, rfl⟩ := own_slice (MSt.row H1.out)
    have hws := H1.out.size
    by_cases hlt : j < rs.length
    · obtain ⟨b, o, cs, rfl, hbB, hrd, hlen, hcell⟩ := H.out.1.at (k := 2) (fun x hx' => (H.out.2 x hx').width) (by omega) j hlt
      have hxr := H.out.2 _ (List.getElem_mem hlt)
      have hnx := frs_next hlt
      generalize rs[j] = x at hrd hxr hnx
      obtain ⟨ns, os, rfl, hos⟩ := hxr
      obtain ⟨B0, d0, B1, d1, rfl, r0, r1⟩ := Rd.ofRow hrd
      have h00 := (H1.out.bel.cell (p := ⟨b, o + j * 2 + 0, none⟩) hbB).trans (hcell 0 (by omega))
      have h01 := (H1.out.bel.cell (p := ⟨b, o + j * 2 + 1, none⟩) hbB).trans (hcell 1 (by omega))
      simp only [List.getElem?_cons_zero, List.getElem?_cons_succ, Nat.add_zero, List.length_map] at h00 h01
      rw [fr_mk] at hnx
      have hrl : RdL w w.heap.size (lstsD (frs (rs.take (j + 1)))) (cl ++ [.slice B1 os.length d1]) := by
        rw [hnx, lstsD_snoc, orgsD_pr hos]
        refine HL.out.app ?_
        simp only [RdL]
        exact ⟨_, [], by simp, r1, rfl⟩
      have HRL := Lib.hid hrl
      have hbw : b < wr.heap.size := by omega
      have hnb : ¬ b = wr.heap.size := by omega
      have hli : (j : Int) < (rs.length : Int) := by omega
      clear hrd hlen hcell hnx r0 r1 hrl hos
      go_wp2_with (at_builtin; refine appLo _ rfl (.tmp 12) (.tmp 15) rfl w.heap.size _ _ _ rfl (MSt.row ((H1.out.alloc _).alloc _)) (some ⟨_, 0, none⟩) 1 1 _ [.slice B1 os.length d1] rfl rfl (row_newG8 _ #[.slice B1 os.length d1] 24 _ (by simp)) (by intro u hu; simp only [List.mem_singleton] at hu; subst hu; rfl) (by omega) (by simp; omega) ?_; intro v3 w3 hown3 hgr3 hn3; obtain ⟨A9, q9, rfl⟩ := own_slice hown3; have h3 := MSt.app ((H1.out.alloc (.cells #[.slice B0 ns.length d0, .slice B1 os.length d1] 71)).alloc (.cells #[.slice B1 os.length d1] 24)) hgr3 hown3 hn3.2; have H3 := Lib.hid h3; clear h3 hown3 hgr3 hn3 h00 h01)
      exact ⟨⟨j + 1, _, by omega, by simp, HRL, H3⟩, by simp [intOf]; omega⟩
    · obtain rfl : j = rs.length := by omega
      have hl := HL.out
      rw [List.take_length] at hl
      obtain ⟨hcap, hmx⟩ := own_cap (MSt.row H1.out)
      have hrd : Rd wr wr.heap.size (.lst (lstsD (frs rs))) [.slice A3 rs.length q3] := by
        simp only [Rd]
        exact ⟨A3, q3, cl, by rw [lstsD_len, frs_len], by rw [lstsD_len, frs_len]; exact hcap, hmx, own_row (MSt.row H1.out) fun b hb => ((MSt.row H1.out).lt b hb).2, (hl.below H1.out.bel).more hws⟩
      have HRD := Lib.hid hrd
      clear hrd hl
      go_wp2_with fail
      refine (setOf_any (frs rs) (by rw [frs_len]; exact hw) hw2 A3 rs.length q3 (frs_len rs).symm _ HRD.out).mono ?_
      rintro e w2 ⟨v, rfl, h2⟩
      have H2 := Lib.hid (MSt.subB (M := [orgA v (setO (frs rs).flatten)]) (MSt.trans H1.out h2) (.cons_cons _ (List.nil_sublist _)))
      clear h2
      have hfd := field_set (.func (.func 34) #[] #[]) v
      go_wp2_with fail
      go_ret
      exact ⟨_, rfl, H2.out⟩
end Go.Proofs.YtooghbejbjfakaaGreatDoor

/-
  SourceTable, the program's. (Written by gentab.py.)
-/

namespace Go.Proofs.YtooghbejbjfakaaGreatDoor
open Go.RowKit Go.Maps
set_option linter.unusedVariables false
set_option linter.unusedSimpArgs false

set_option maxHeartbeats 6400000 in
set_option maxRecDepth 100000 in
theorem implSource_any {t : Dt} (ht : IsVal t) (hw : t.wt ≤ 1048576) (c : Int) (cs : List Value) (w : World) (h : Rd w w.heap.size t cs) (D : Dt) (hD : D = srcD c t) :
    Calls Tryz.prog 12 #[.int .i64 c, .agg cs.toArray] w (ToA w D) := by
  have HDD := Lib.hid hD
  obtain ⟨y0, y1, y2, y3, y4, n4, c4, y5, n5, c5, y6, n6, c6, rfl⟩ := ht.form h
  have hkk := kd_cell ht h
  have HKD := Lib.hid hkk.1
  have HT := Lib.hid (TabR.of ht h (Nat.le_refl _))
  obtain ⟨hn6, hq6, hx6⟩ := HT.out.2.lst_len
  subst hn6
  obtain ⟨hn5, hq5, -⟩ := HT.out.1.lst_len
  rw [List.length_map] at hn5
  subst hn5
  have hwp := wt_parts8 ht
  have hr12 : t.rw.length ≤ 1048576 := by omega
  have hc12 : t.co.length ≤ 1048576 := by simp only [Dt.wt, List.length_map] at hwp; omega
  clear hwp hx6
  have HV := Lib.hid (And.intro ht (And.intro hw h))
  have h0 := ((MSt.start w).new 33 7 #[.int .i64 y0, .int .i64 y1, .int .i64 y2, .string y3, .slice y4 n4 c4, .slice y5 t.co.length c5, .slice y6 t.rw.length c6] rfl).new 33 7 #[.int .i64 0, .int .i64 0, .int .i64 0, .string ⟨#[]⟩, .slice none 0 0, .slice none 0 0, .slice none 0 0] rfl
  simp only [World.size_alloc] at h0
  have H0 := Lib.hid h0
  clear h0 ht hw h hD hkk
  go_enter Tryz.func12, Tryz.ntmps12
  obtain ⟨fA0, fA1, fA2, fA3, fA4, fA5, fA6, fAlt⟩ := box7 (MSt.box (MSt.nth (L1 := [_]) H0.out))
  go_wp2_with fail
  clear fA0 fA1 fA2 fA3 fA4 fA5 fA6 fAlt
  refine (validTableI_any HV.out.1 HV.out.2.1 _ _ _ _ _ _ _ _ _ _ _ _ _ _ ((HV.out.2.2.below H0.out.bel).more H0.out.size)).mono ?_
  rintro e w2 ⟨v, b, rfl, hv, hb⟩
  have H1 := Lib.hid (H0.out.later hb)
  have HVT := Lib.hid hv
  clear hb hv
  cases b
  · obtain ⟨hno, A7, n7, c7, A8, n8, c8, rfl⟩ := HVT.out.ff
    obtain rfl : D = errD 4 := HDD.out.trans (srcD_no (fun hh => hno hh.1))
    clear hno HVT
    obtain ⟨fA0, fA1, fA2, fA3, fA4, fA5, fA6, fAlt⟩ := box7 (MSt.box (MSt.nth (L1 := [_]) H1.out))
    go_wp2_with fail
    have H2 := Lib.hid (H1.out.new 67 2 #[.slice A7 n7 c7, .slice A8 n8 c8] rfl)
    clear fA0 fA1 fA2 fA3 fA4 fA5 fA6 fAlt
    refine (implErrorValue_any 4 _).mono ?_
    rintro e w3 ⟨rfl, hb⟩
    have H3 := Lib.hid (H2.out.later hb)
    clear hb
    obtain ⟨fR0, fR1, fR2, fR3, fR4, fR5, fR6, fRlt⟩ := box7 (MSt.box (MSt.nth (L1 := [_]) H3.out))
    obtain ⟨zR0, zR1, zR2, zR3, zR4, zR5, zR6⟩ := box7z (MSt.box (MSt.nth (L1 := [_]) H3.out))
    go_wp2_with fail
    obtain ⟨W7, hW, hg, y0, y1, y2, y3, y4, y5, y6⟩ := MSt.put (MSt.nth (L1 := [_]) H3.out) (.int .i64 6) (.int .i64 4) (.int .i64 0) (.string ⟨#[]⟩) (.slice none 0 0) (.slice none 0 0) (.slice none 0 0)
    rw [← hW]
    refine bodyPost_ret (v := .agg #[.int .i64 6, .int .i64 4, .int .i64 0, .string ⟨#[]⟩, .slice none 0 0, .slice none 0 0, .slice none 0 0]) (by simp [results, Tryz.results12, go_sem, y0, y1, y2, y3, y4, y5, y6]) rfl (toA_flat0 rfl hg.bel)
  · obtain ⟨hyes, rfl⟩ := HVT.out.tt
    have HYS := Lib.hid hyes
    clear hyes HVT
    by_cases hc : c < 0
    · obtain rfl : D = errD 4 := HDD.out.trans (srcD_no (fun hh => hh.2 hc))
      obtain ⟨fA0, fA1, fA2, fA3, fA4, fA5, fA6, fAlt⟩ := box7 (MSt.box (MSt.nth (L1 := [_]) H1.out))
      go_wp2_with fail
      have H2 := Lib.hid (H1.out.new 67 2 #[.slice y5 t.co.length c5, .slice y6 t.rw.length c6] rfl)
      clear fA0 fA1 fA2 fA3 fA4 fA5 fA6 fAlt
      refine (implErrorValue_any 4 _).mono ?_
      rintro e w3 ⟨rfl, hb⟩
      have H3 := Lib.hid (H2.out.later hb)
      clear hb
      obtain ⟨fR0, fR1, fR2, fR3, fR4, fR5, fR6, fRlt⟩ := box7 (MSt.box (MSt.nth (L1 := [_]) H3.out))
      obtain ⟨zR0, zR1, zR2, zR3, zR4, zR5, zR6⟩ := box7z (MSt.box (MSt.nth (L1 := [_]) H3.out))
      go_wp2_with fail
      obtain ⟨W7, hW, hg, y0, y1, y2, y3, y4, y5, y6⟩ := MSt.put (MSt.nth (L1 := [_]) H3.out) (.int .i64 6) (.int .i64 4) (.int .i64 0) (.string ⟨#[]⟩) (.slice none 0 0) (.slice none 0 0) (.slice none 0 0)
      rw [← hW]
      refine bodyPost_ret (v := .agg #[.int .i64 6, .int .i64 4, .int .i64 0, .string ⟨#[]⟩, .slice none 0 0, .slice none 0 0, .slice none 0 0]) (by simp [results, Tryz.results12, go_sem, y0, y1, y2, y3, y4, y5, y6]) rfl (toA_flat0 rfl hg.bel)
    · obtain rfl : D = tblD t.co (srcF c 0 t.rw) := HDD.out.trans (srcD_yes HYS.out hc)
      obtain ⟨fA0, fA1, fA2, fA3, fA4, fA5, fA6, fAlt⟩ := box7 (MSt.box (MSt.nth (L1 := [_]) H1.out))
      have h2 := H1.out.new 67 2 #[.slice y5 t.co.length c5, .slice y6 t.rw.length c6] rfl
      have H2 := Lib.hid h2
      obtain ⟨gC, hgC⟩ : ∃ gC, gC = w2.heap.size := ⟨_, rfl⟩
      rw [← hgC] at h2 H2
      have hb2 := MSt.box h2
      have fC0 := hb2.cellAt 0 (by decide)
      have fC1 := hb2.cellAt 1 (by decide)
      have fClt := (hb2.lt _ rfl).2
      simp only [List.getElem?_cons_zero, List.getElem?_cons_succ] at fC0 fC1
      clear hb2 h2
      rw [hgC] at fC0 fC1 fClt
      go_wp2_with fail
      rw [← hgC] at *
      clear fA0 fA1 fA2 fA3 fA4 fA5 fA6 fAlt
      clear fC0 fC1 fClt
      have HS : Hid (MSt w [rowA 71 2 (.slice none 0 0) 0 [], owLA (srcF c 0 (t.rw.take 0)) [] [], boxA 67 2 gC [.slice y5 t.co.length c5, .slice y6 t.rw.length c6], boxA 33 7 (w.heap.size + 1) [.int .i64 0, .int .i64 0, .int .i64 0, .string ⟨#[]⟩, .slice none 0 0, .slice none 0 0, .slice none 0 0], boxA 33 7 w.heap.size [.int .i64 y0, .int .i64 y1, .int .i64 y2, .string y3, .slice y4 n4 c4, .slice y5 t.co.length c5, .slice y6 t.rw.length c6]] _) := Lib.hid (H2.out.nilRow 71 2)
      clear H2
      go_loopw [7, 25] (fun v i wr => ∃ (j : Nat) (cl : List Value) (fp : List Nat), j ≤ t.rw.length ∧ i = .int .i64 (j : Int) ∧ Hid (MSt w [rowA 71 2 v j cl, owLA (srcF c 0 (t.rw.take j)) cl fp, boxA 67 2 gC [.slice y5 t.co.length c5, .slice y6 t.rw.length c6], boxA 33 7 (w.heap.size + 1) [.int .i64 0, .int .i64 0, .int .i64 0, .string ⟨#[]⟩, .slice none 0 0, .slice none 0 0, .slice none 0 0], boxA 33 7 w.heap.size [.int .i64 y0, .int .i64 y1, .int .i64 y2, .string y3, .slice y4 n4 c4, .slice y5 t.co.length c5, .slice y6 t.rw.length c6]] wr)) (fun _ i _ => t.rw.length - (intOf i).toNat)
      case atStart => exact ⟨0, _, _, Nat.zero_le _, rfl, HS⟩
      case round =>
        obtain ⟨j, cl, fp, hj, rfl, H1⟩ := hrel
        obtain ⟨A3, q3, rfl⟩ := own_slice H1.out.row
        by_cases hlt : j < t.rw.length
        · obtain ⟨b, o, cs, hA6, hbB, hrd, hlen, hcell⟩ := HT.out.2.at (k := 2) (fun x hx' => (rw_val HV.out.1 x hx').width) (by omega) j hlt
          subst hA6
          obtain ⟨x, hx⟩ : ∃ x, x = t.rw[j] := ⟨_, rfl⟩
          have hxr := rw_val HV.out.1 _ (List.getElem_mem hlt)
          have hwx := wts_mem (List.getElem_mem hlt)
          have hnx := srcF_next (c := c) hlt
          rw [← hx] at hrd hxr hwx hnx
          have hwp := wt_parts8 HV.out.1
          have hwv := HV.out.2.1
          have hxw : x.wt ≤ 1048576 := by omega
          obtain ⟨ns, os, rfl, hos⟩ := hxr
          have hnl : ns.length ≤ 1048576 := by simp only [Dt.wt, wts, List.length_map] at hxw; omega
          obtain ⟨B0, d0, B1, d1, rfl, r0, r1⟩ := Rd.ofRow hrd
          simp only [List.length_map] at hrd
          rw [srcRow_mk] at hnx
          have HNX := Lib.hid hnx
          have HR0 := Lib.hid r0.ints
          have h00 := (H1.out.bel.cell (p := ⟨b, o + j * 2 + 0, none⟩) hbB).trans (hcell 0 (by omega))
          have h01 := (H1.out.bel.cell (p := ⟨b, o + j * 2 + 1, none⟩) hbB).trans (hcell 1 (by omega))
          simp only [List.getElem?_cons_zero, List.getElem?_cons_succ, Nat.add_zero, List.length_map] at h00 h01
          have hws := H1.out.size
          have hbl : b < wr.heap.size := by omega
          have hj2 : (j : Int) < (t.rw.length : Int) := by omega
          clear hrd hnx hx hlen hcell r0 r1 hwx hwp hwv hxw
          go_wp2_with fail
          clear h00 h01
          have H2 := Lib.hid (H1.out.new 71 2 #[.slice B0 ns.length d0, .slice B1 os.length d1] rfl)
          have hb2 := MSt.box H2.out
          have fB0 := hb2.cellAt 0 (by decide)
          have fB1 := hb2.cellAt 1 (by decide)
          have fBlt := (hb2.lt _ rfl).2
          simp only [List.getElem?_cons_zero, List.getElem?_cons_succ] at fB0 fB1
          clear hb2
          go_wp2_with fail
          clear fB0 fB1 fBlt
          refine (cloneI B0 ns.length d0 w.heap.size (intV ns) _ (HR0.out.keep H2.out.bel.block) (by simp [intV]) (by intro u hu; simp only [intV, List.mem_map] at hu; obtain ⟨q, -, rfl⟩ := hu; rfl) hnl H2.out.size).mono ?_
          rintro e w3 ⟨vN, rfl, hown, hb⟩
          obtain ⟨AN, qN, rfl⟩ := own_slice hown
          have h3 := (MSt.add H2.out hb (rowA_at hown)).close0 (xs := ns.map .int) (fun w' => OwL.ints w' ns) (List.length_map _).symm
          have h4 := MSt.row2s ((MSt.close0 (MSt.row_lit h3 41 2 1 #[.int .i64 c, .int .i64 (j : Int)] (by unfold maxLen; omega) rfl) (xs := orgsD [(c, (j : Int))]) (fun w' => orgs_owl w' [(c, (j : Int))]) rfl).swap)
          have HO4 := Lib.hid (MSt.read h4).one
          have hs3 : w.heap.size ≤ w3.heap.size := MSt.size h3
          have H4 := Lib.hid h4
          clear h3 h4 hown hb
          go_wp2_with (at_builtin; refine appR _ rfl (.tmp 30) (.tmp 39) rfl w.heap.size (.slice A3 j q3) j cl rfl (((MSt.nth (L1 := [_, _]) H4.out).alloc _).row) (some ⟨w3.heap.size + 1, 0, none⟩) 1 1 (w3.heap.size + 1 + 1) [.slice AN ns.length qN, .slice (some ⟨w3.heap.size, 0, none⟩) 1 1] rfl rfl (row_newG8 _ #[.slice AN ns.length qN, .slice (some ⟨w3.heap.size, 0, none⟩) 1 1] 71 _ (by simp)) HO4.out (by omega) (by simp; omega) ?_; intro v7 w7 hown7 hgr7 hn7; have h7 := MSt.push (MSt.subB (MSt.app ((MSt.nth (L1 := [_, _]) H4.out).alloc (.cells #[.slice AN ns.length qN, .slice (some ⟨w3.heap.size, 0, none⟩) 1 1] 71)) hgr7 hown7 hn7.2) (.cons_cons _ (.cons_cons _ (.cons _ (List.Sublist.refl _))))); rw [← HNX.out] at h7; have H7 := Lib.hid h7; clear h7 hown7 hgr7 hn7)
          exact ⟨⟨j + 1, _, _, by omega, by simp, H7⟩, by simp [intOf]; omega⟩
        · obtain rfl : j = t.rw.length := by omega
          have h1 := H1.out
          rw [List.take_length] at h1
          have h2 := h1.close (srcF_len c 0 t.rw).symm
          have H2 := Lib.hid h2
          clear h1 h2 H1
          have hb2 := MSt.box (MSt.nth (L1 := [_]) H2.out)
          have fC0 := hb2.cellAt 0 (by decide)
          have fC1 := hb2.cellAt 1 (by decide)
          have fClt := (hb2.lt _ rfl).2
          simp only [List.getElem?_cons_zero, List.getElem?_cons_succ] at fC0 fC1
          clear hb2
          go_wp2_with fail
          clear fC0 fC1 fClt
          refine (cloneS_any y5 c5 t.co t.co.length rfl w.heap.size _ (HT.out.1.strs.keep H2.out.bel.block) (by omega)).mono ?_
          rintro e w2 ⟨A7, c7, rfl, hown, hb⟩
          have H3 := Lib.hid ((H2.out.add hb (rowA_at hown)).close0 (xs := t.co.map .str) (fun w' => OwL.strs w' t.co) (by simp))
          clear hown hb
          go_wp2_with fail
          refine (value5_any 0 0 ⟨#[]⟩ none A7 A3 0 0 t.co.length c7 t.rw.length q3 _).mono ?_
          rintro e w4 ⟨rfl, hb⟩
          have H4 := Lib.hid (MSt.tbl (H3.out.later hb))
          clear hb
          obtain ⟨fR0, fR1, fR2, fR3, fR4, fR5, fR6, fRlt⟩ := box7 (MSt.box (MSt.nth (L1 := [_, _]) H4.out))
          obtain ⟨zR0, zR1, zR2, zR3, zR4, zR5, zR6⟩ := box7z (MSt.box (MSt.nth (L1 := [_, _]) H4.out))
          go_wp2_with fail
          obtain ⟨W7, hW, hg, y0, y1, y2, y3, y4, y5, y6⟩ := MSt.put (MSt.nth (L1 := [_, _]) H4.out) (.int .i64 5) (.int .i64 0) (.int .i64 0) (.string ⟨#[]⟩) (.slice none 0 0) (.slice A7 t.co.length c7) (.slice A3 t.rw.length q3)
          rw [← hW]
          refine bodyPost_ret (v := .agg #[.int .i64 5, .int .i64 0, .int .i64 0, .string ⟨#[]⟩, .slice none 0 0, .slice A7 t.co.length c7, .slice A3 t.rw.length q3]) (by simp [results, Tryz.results12, go_sem, y0, y1, y2, y3, y4, y5, y6]) rfl ((MSt.nth (L1 := [_]) hg).give)

end Go.Proofs.YtooghbejbjfakaaGreatDoor

/-
  OriginsOf, the program's. (Written by gen8.py.)
-/

namespace Go.Proofs.YtooghbejbjfakaaGreatDoor
open Go.RowKit Go.Lib Go.Sort
set_option linter.unusedVariables false
set_option linter.unusedSimpArgs false

set_option maxHeartbeats 3200000 in
set_option maxRecDepth 100000 in
theorem implOrigins_any {a : Dt} (ha : IsVal a) (hwt : a.wt ≤ 1048576) (U : List (Int × Int)) (hU : U = setO (frs a.rw).flatten) (cs : List Value) (w : World) (h : Rd w w.heap.size a cs) :
    Calls Tryz.prog 17 #[.agg cs.toArray] w fun e w' => ∃ v, e = .returned v ∧ MSt w [orgA v U] w' := by
  have hwp := wt_parts8 ha
  have hrv := rw_val8 ha
  have HR := Lib.hid (And.intro hrv (And.intro (frs_wt a.rw hrv) hU))
  obtain ⟨y0, y1, y2, y3, y4, n4, c4, y5, n5, c5, y6, n6, c6, rfl⟩ := ha.form h
  have hr6 := rd_rows8 ha h
  obtain ⟨hn6, -, -⟩ := hr6.lst_len
  subst hn6
  have HRD := Lib.hid hr6
  have hlen : a.rw.length ≤ 1048576 := by omega
  have hwr : wts a.rw ≤ 1048576 := by omega
  have H0 := Lib.hid ((MSt.start w).new 33 7 #[.int .i64 y0, .int .i64 y1, .int .i64 y2, .string y3, .slice y4 n4 c4, .slice y5 n5 c5, .slice y6 a.rw.length c6] rfl)
  clear ha h hwt hwp hrv hr6 hU
  go_enter Tryz.func17, Tryz.ntmps17
  go_wp2_with fail
  refine (originsAll_any a.rw HR.out.1 hlen (Nat.le_trans HR.out.2.1 hwr) y6 _ c6 rfl _ ((HRD.out.below (MSt.bel H0.out)).more (MSt.size H0.out))).mono ?_
  rintro e w1 ⟨v, rfl, h1⟩
  rw [← HR.out.2.2] at h1
  have H1 := Lib.hid (MSt.subB (M := [orgA v U]) (MSt.trans H0.out h1) (.cons_cons _ (List.nil_sublist _)))
  clear h1
  go_wp2_with fail
  go_ret
  exact ⟨_, rfl, H1.out⟩
end Go.Proofs.YtooghbejbjfakaaGreatDoor

/-
  RowsUsing, the program's. (Written by gen8.py.)
-/

namespace Go.Proofs.YtooghbejbjfakaaGreatDoor
open Go.RowKit Go.Lib Go.Sort
set_option linter.unusedVariables false
set_option linter.unusedSimpArgs false

set_option maxHeartbeats 3200000 in
set_option maxRecDepth 100000 in
theorem indexO_any (l : List (Int × Int)) (hl : l.length ≤ 2097152) (a0 a1 : Int) (A : Option Addr) (n c : Nat) (hn : n = l.length) (w : World) (h : OrgsR w w.heap.size A l) :
    Calls Tryz.prog 94 #[.slice A n c, .agg #[.int .i64 a0, .int .i64 a1]] w fun e w' => ∃ r : Int, e = .returned (.int .i64 r) ∧ Hid (0 ≤ r ↔ (a0, a1) ∈ l) ∧ Below w.heap.size w w' := by
  subst hn
  have HL := Lib.hid h
  have H0 : Hid (MSt w [boxA 41 2 w.heap.size [.int .i64 a0, .int .i64 a1]] _) := Lib.hid ((MSt.start w).new 41 2 #[.int .i64 a0, .int .i64 a1] rfl)
  clear h
  go_enter Tryz.func94, Tryz.ntmps94
  go_wp2_with fail
  go_loopw [8] (fun i wr => ∃ (j : Nat), j ≤ l.length ∧ i = .int .i64 (j : Int) ∧ Hid ((a0, a1) ∉ l.take j) ∧ Hid (MSt w [boxA 41 2 w.heap.size [.int .i64 a0, .int .i64 a1]] wr)) (fun i _ => l.length - (intOf i).toNat)
  case atStart => exact ⟨0, Nat.zero_le _, rfl, Lib.hid (by simp), H0⟩
  case round =>
    obtain ⟨j, hj, rfl, HE, H1⟩ := hrel
    by_cases hlt : j < l.length
    · obtain ⟨b, o, rfl, hbB, k00, k01⟩ := orgs_at HL.out j hlt
      obtain ⟨x, hx⟩ : ∃ x, x = l[j] := ⟨_, rfl⟩
      rw [← hx] at k00 k01
      obtain ⟨x0, x1⟩ := x
      simp only at k00 k01
      have HX := Lib.hid hx
      have HC0 := Lib.hid (And.intro k00 k01)
      have hli : (j : Int) < (l.length : Int) := by omega
      clear hx k00 k01
      have h00 := ((MSt.bel H1.out).cell (p := ⟨b, o + j * 2, none⟩) hbB).trans HC0.out.1
      have h01 := ((MSt.bel H1.out).cell (p := ⟨b, o + j * 2 + 1, none⟩) hbB).trans HC0.out.2
      have hsz := MSt.size H1.out
      have hbw := Nat.lt_of_lt_of_le hbB hsz
      obtain ⟨fB0, fB1, fBlt⟩ := MSt.boxO H1.out
      have HTK := Lib.hid (show l.take (j + 1) = l.take j ++ [(x0, x1)] by rw [List.take_succ_eq_append_getElem hlt, ← HX.out])
      by_cases he : x0 = a0 ∧ x1 = a1
      · obtain ⟨rfl, rfl⟩ := he
        have ea : (x0 == x0) = true := by simp
        have eb : (x1 == x1) = true := by simp
        go_wp2_with fail
        go_quiet (fail)
        go_wp2_with fail
        go_ret
        exact ⟨_, rfl, Lib.hid (iff_of_true (by omega) (by rw [HX.out]; exact List.getElem_mem hlt)), (MSt.drewN H1.out _).bel⟩
      · have hq : (a0 == x0) = false ∨ (a0 == x0) = true ∧ (a1 == x1) = false := by
          by_cases e : a0 = x0
          · exact .inr ⟨by simpa using e, by simp; exact fun e' => he ⟨e.symm, e'.symm⟩⟩
          · exact .inl (by simpa using e)
        have HNE := Lib.hid he
        clear he
        rcases hq with e1 | ⟨e0, e1⟩
        all_goals
          go_wp2_with fail
          go_quiet (fail)
          go_wp2_with fail
          exact ⟨⟨j + 1, by omega, by simp, Lib.hid (by rw [HTK.out]; intro hm; rcases List.mem_append.1 hm with hm | hm; exact HE.out hm; simp only [List.mem_singleton, Prod.mk.injEq] at hm; exact HNE.out ⟨hm.1.symm, hm.2.symm⟩), Lib.hid (MSt.drewN H1.out _)⟩, by simp [intOf]; omega⟩
    · obtain rfl : j = l.length := by omega
      go_wp2_with fail
      go_ret
      refine ⟨_, rfl, Lib.hid (iff_of_false (by omega) (fun hm => HE.out ?_)), (MSt.bel H1.out)⟩
      rw [List.take_length]
      exact hm
set_option maxHeartbeats 3200000 in
set_option maxRecDepth 100000 in
theorem containsO_any (l : List (Int × Int)) (hl : l.length ≤ 2097152) (a0 a1 : Int) (A : Option Addr) (n c : Nat) (hn : n = l.length) (w : World) (h : OrgsR w w.heap.size A l) :
    Calls Tryz.prog 50 #[.slice A n c, .agg #[.int .i64 a0, .int .i64 a1]] w (EqP ((a0, a1) ∈ l) w) := by
  have HL := Lib.hid h
  have HN := Lib.hid hn
  have H0 := Lib.hid ((MSt.start w).new 41 2 #[.int .i64 a0, .int .i64 a1] rfl)
  clear h hn
  go_enter Tryz.func50, Tryz.ntmps50
  go_wp2_with fail
  refine (indexO_any l hl a0 a1 A n c HN.out _ ((HL.out.below (MSt.bel H0.out)).more (MSt.size H0.out))).mono ?_
  rintro e w1 ⟨r, rfl, HR, hb⟩
  have H1 := Lib.hid (H0.out.later hb)
  clear hb
  by_cases hr : 0 ≤ r
  · go_wp2_with fail
    go_ret
    exact ⟨true, by simp, iff_of_true rfl (HR.out.1 hr), MSt.bel H1.out⟩
  · go_wp2_with fail
    go_ret
    exact ⟨false, by simp; omega, iff_of_false (by simp) (fun h => absurd (HR.out.2 h) (by omega)), MSt.bel H1.out⟩
set_option maxHeartbeats 3200000 in
set_option maxRecDepth 100000 in
theorem implUses_any {a : Dt} (ha : IsVal a) (hwt : a.wt ≤ 1048576) (p0 p1 : Int) (U : List Int) (hU : U = usesTo (p0, p1) a.rw a.rw.length) (cs : List Value) (w : World) (h : Rd w w.heap.size a cs) :
    Calls Tryz.prog 19 #[.agg cs.toArray, .agg #[.int .i64 p0, .int .i64 p1]] w fun e w' => ∃ v, e = .returned v ∧ MSt w [intA v U] w' := by
  have hwp := wt_parts8 ha
  have hrv := rw_val8 ha
  have HR := Lib.hid (And.intro hrv hU)
  obtain ⟨y0, y1, y2, y3, y4, n4, c4, y5, n5, c5, y6, n6, c6, rfl⟩ := ha.form h
  have hr6 := rd_rows8 ha h
  obtain ⟨hn6, -, -⟩ := hr6.lst_len
  subst hn6
  have HRD := Lib.hid hr6
  have hlen : a.rw.length ≤ 1048576 := by omega
  have hwr : wts a.rw ≤ 1048576 := by omega
  have h0 := ((MSt.start w).new 33 7 #[.int .i64 y0, .int .i64 y1, .int .i64 y2, .string y3, .slice y4 n4 c4, .slice y5 n5 c5, .slice y6 a.rw.length c6] rfl).new 41 2 #[.int .i64 p0, .int .i64 p1] rfl
  simp only [World.size_alloc] at h0
  have H0 := Lib.hid h0
  have h1 := MSt.nilRow0 H0.out 3 1
  first | simp only [World.size_alloc] at h1 | skip
  have H1 : Hid (MSt w [intA (.slice none 0 0) (usesTo (p0, p1) a.rw 0), boxA 41 2 (w.heap.size + 1) [.int .i64 p0, .int .i64 p1], boxA 33 7 w.heap.size [.int .i64 y0, .int .i64 y1, .int .i64 y2, .string y3, .slice y4 n4 c4, .slice y5 n5 c5, .slice y6 a.rw.length c6]] _) := Lib.hid h1
  clear ha h hwt hwp hrv hr6 hU h0 h1 H0
  go_enter Tryz.func19, Tryz.ntmps19
  obtain ⟨fB0, fB1, fB2, fB3, fB4, fB5, fB6, fBlt⟩ := box7 (MSt.box (MSt.nth (L1 := [_, _]) H1.out))
  go_wp2_with fail
  go_loopw [5, 11] (fun v i wr => ∃ (j : Nat), j ≤ a.rw.length ∧ i = .int .i64 (j : Int) ∧ Hid (MSt w [intA v (usesTo (p0, p1) a.rw j), boxA 41 2 (w.heap.size + 1) [.int .i64 p0, .int .i64 p1], boxA 33 7 w.heap.size [.int .i64 y0, .int .i64 y1, .int .i64 y2, .string y3, .slice y4 n4 c4, .slice y5 n5 c5, .slice y6 a.rw.length c6]] wr)) (fun _ i _ => a.rw.length - (intOf i).toNat)
  case atStart => exact ⟨0, Nat.zero_le _, rfl, H1⟩
  case round =>
    clear H1
    obtain ⟨j, hj, rfl, H1⟩ := hrel
    obtain ⟨A3, q3, rfl⟩ := MSt.intVl H1.out
    have hul := usesTo_len (p0, p1) a.rw j
    obtain ⟨fO0, fO1, fOlt⟩ := MSt.box2 H1.out (e := 41) (g := w.heap.size + 1) (a := .int .i64 p0) (b := .int .i64 p1) (by simp)
    obtain ⟨fB0, fB1, fB2, fB3, fB4, fB5, fB6, fBlt⟩ := box7 (MSt.box (MSt.nth (L1 := [_, _]) H1.out))
    by_cases hlt : j < a.rw.length
    · obtain ⟨b, o, cs, hA6, hbB, hrd, hlen2, hcell⟩ := HRD.out.at (k := 2) (fun x hx' => (HR.out.1 x hx').width) (by omega) j hlt
      have hxr := HR.out.1 _ (List.getElem_mem hlt)
      have hwx := wts_mem (List.getElem_mem hlt)
      have hyes := usesTo_yes (o := (p0, p1)) hlt
      have hno := usesTo_no (o := (p0, p1)) hlt
      generalize a.rw[j] = x at hrd hxr hyes hno hwx
      obtain ⟨ns, os, rfl, hos⟩ := hxr
      obtain ⟨B0, d0, B1, d1, rfl, r0, r1⟩ := Rd.ofRow hrd
      have h00 := (H1.out.bel.cell (p := ⟨b, o + j * 2 + 0, none⟩) hbB).trans (hcell 0 (by omega))
      have h01 := (H1.out.bel.cell (p := ⟨b, o + j * 2 + 1, none⟩) hbB).trans (hcell 1 (by omega))
      simp only [List.getElem?_cons_zero, List.getElem?_cons_succ, Nat.add_zero, List.length_map] at h00 h01
      rw [fr_mk] at hyes hno
      have hosl := size_in8 hwx
      have HN := Lib.hid (And.intro hyes hno)
      have HO := Lib.hid (rd_orgs (l := os.map pr) (by rw [orgsD_pr hos]; exact r1)).2.2.2
      have hsz := MSt.size H1.out
      have hbw := Nat.lt_of_lt_of_le hbB hsz
      have hli : (j : Int) < (a.rw.length : Int) := by omega
      have hol : (os.map pr).length ≤ 2097152 := by simp; omega
      generalize hS : usesTo (p0, p1) a.rw j = S at *
      subst hA6
      clear hrd hlen2 hcell r0 r1 hS hwx hyes hno hosl
      go_wp2_with fail
      refine (containsO_any (os.map pr) hol p0 p1 B1 os.length d1 (by simp) _ ((HO.out.below (MSt.bel (MSt.alloc H1.out _))).more (MSt.size (MSt.alloc H1.out _)))).mono ?_
      rintro e w1 ⟨rb, rfl, hb, hb1⟩
      have HB := Lib.hid hb
      have H2 := Lib.hid ((MSt.alloc H1.out _).later hb1)
      clear hb hb1 h00 h01 fO0 fO1 fOlt fB0 fB1 fB2 fB3 fB4 fB5 fB6 fBlt
      cases rb
      · go_wp2_with fail
        exact ⟨⟨j + 1, by omega, by simp, Lib.hid (by rw [HN.out.2 (fun hm => by have := HB.out.2 hm; simp at this)]; exact H2.out)⟩, by simp [intOf]; omega⟩
      · have hs2 := MSt.size H2.out
        go_wp2_with (at_builtin; refine appI _ rfl (.tmp 20) (.tmp 22) rfl w.heap.size _ _ _ rfl (MSt.row (H2.out.alloc _)) (some ⟨_, 0, none⟩) 1 1 _ [.int .i64 (j : Int)] rfl rfl (row_new _ #[.int .i64 (j : Int)] 3) (by intro u hu; simp only [List.mem_singleton] at hu; subst hu; rfl) (by omega) (by simp; omega) ?_; intro v3 w3 hown3 hgr3 hn3; obtain ⟨A9, q9, rfl⟩ := own_slice hown3; have h3 := MSt.intApp (x := (j : Int)) (H2.out.alloc (.cells #[.int .i64 (j : Int)] 3)) hgr3 hown3 hn3.2; have H3 := Lib.hid h3; clear h3 hown3 hgr3 hn3)
        exact ⟨⟨j + 1, by omega, by simp, Lib.hid (by rw [HN.out.1 (HB.out.1 (by trivial))]; exact H3.out)⟩, by simp [intOf]; omega⟩
    · obtain rfl : j = a.rw.length := by omega
      go_wp2_with fail
      go_ret
      refine ⟨_, rfl, ?_⟩
      rw [HR.out.2]
      exact MSt.drop (MSt.nth (L1 := [_]) (MSt.drop (MSt.nth (L1 := [_, _]) H1.out)))
end Go.Proofs.YtooghbejbjfakaaGreatDoor
