/-
  Texts that the proof rests on, put together: WhI.
-/
import Derived.Test.YtcdklpflgafokaaGreatDoorMg46
import Derived.Maps.Views
import Derived.Deep.RegionLaw
import Derived.Deep.RegionHeld3
import Derived.Outline
/-
  WhereEqual, the program's. (Written by gentab.py.)
-/

namespace Go.Proofs.YtcdklpflgafokaaGreatDoor
open Go.RowKit Go.Maps
set_option linter.unusedVariables false
set_option linter.unusedSimpArgs false

set_option maxHeartbeats 6400000 in
set_option maxRecDepth 100000 in
theorem whereEqual_any {a b t : Dt} (hv : ∀ y ∈ [a, b, t], IsVal y) (hw : ∀ y ∈ [a, b, t], y.wt ≤ 1048576) (ok : OpOk [a, b, t] ([2, 1] ++ [5])) (w : World) (A : Option Addr) (c : Nat) (A5 : Option Addr) (n5 c5 : Nat) (A6 : Option Addr) (n6 c6 : Nat) (tr : TabR w t A5 n5 c5 A6 n6 c6)
    (ro : Rd w w.heap.size (.lst [a, b]) [.slice A 2 c]) : Calls Tryz.prog 104 #[.agg #[.slice A5 n5 c5, .slice A6 n6 c6], .slice A 2 c] w (ToA w (whereD a b t)) := by
  obtain ⟨hn6, hq6, hx6⟩ := tr.2.lst_len
  subst hn6
  obtain ⟨hn5, hq5, -⟩ := tr.1.lst_len
  rw [List.length_map] at hn5
  subst hn5
  obtain ⟨-, hcA, hcB⟩ := ro.lst_len
  unfold maxLen at hx6 hcB
  have hkk := ok.2
  simp only [List.map_cons, List.map_nil, List.cons_append, List.nil_append, List.cons.injEq, and_true] at hkk
  obtain ⟨ka, kb, kt⟩ := hkk
  have htb := tbl_of (hv t (by simp)) (ok.1 t (by simp)) kt
  have HB := Lib.hid htb
  have hr12 := htb.2.1
  have hc4 := htb.1.1.2
  obtain ⟨ba, oa, csa, hAa, hba, hrda, -, hca⟩ := ro.at (k := 7) (fun y hy => (hv y (List.mem_append_left [t] hy)).width) (by omega) 0 (by simp)
  simp only [List.getElem_cons_zero, List.getElem_cons_zero, List.getElem_cons_succ] at hrda
  subst hAa
  obtain ⟨ay0, ay1, ay2, ay3, ay4, an4, ac4, ay5, an5, ac5, ay6, an6, ac6, rfl⟩ := (hv a (by simp)).form hrda
  have HKa := Lib.hid (And.intro (kd_cell (hv a (by simp)) hrda) (tx_cell (hv a (by simp)) hrda))
  have ha0 := hca 0 (by omega)
  have ha1 := hca 1 (by omega)
  have ha2 := hca 2 (by omega)
  have ha3 := hca 3 (by omega)
  have ha4 := hca 4 (by omega)
  have ha5 := hca 5 (by omega)
  have ha6 := hca 6 (by omega)
  simp only [List.getElem?_cons_zero, List.getElem?_cons_succ, Nat.add_zero, Nat.zero_mul, Nat.one_mul, Nat.reduceMul] at ha0 ha1 ha2 ha3 ha4 ha5 ha6
  clear hca
  obtain ⟨bb, ob, csb, hAb, hbb, hrdb, -, hcb⟩ := ro.at (k := 7) (fun y hy => (hv y (List.mem_append_left [t] hy)).width) (by omega) 1 (by simp)
  simp only [List.getElem_cons_zero, List.getElem_cons_zero, List.getElem_cons_succ] at hrdb
  simp only [Option.some.injEq, Addr.mk.injEq, and_true] at hAb
  obtain ⟨rfl, rfl⟩ := hAb
  obtain ⟨by0, by1, by2, by3, by4, bn4, bc4, by5, bn5, bc5, by6, bn6, bc6, rfl⟩ := (hv b (by simp)).form hrdb
  have HKb := Lib.hid (And.intro (kd_cell (hv b (by simp)) hrdb) (tx_cell (hv b (by simp)) hrdb))
  have hb0 := hcb 0 (by omega)
  have hb1 := hcb 1 (by omega)
  have hb2 := hcb 2 (by omega)
  have hb3 := hcb 3 (by omega)
  have hb4 := hcb 4 (by omega)
  have hb5 := hcb 5 (by omega)
  have hb6 := hcb 6 (by omega)
  simp only [List.getElem?_cons_zero, List.getElem?_cons_succ, Nat.add_zero, Nat.zero_mul, Nat.one_mul, Nat.reduceMul] at hb0 hb1 hb2 hb3 hb4 hb5 hb6
  clear hcb
  have HTR := Lib.hid tr
  have HRO := Lib.hid ro
  have HV := Lib.hid (And.intro hv (And.intro hw ok))
  clear hv hw ok tr ro htb ka kb kt hrda hrdb
  have h0 := ((MSt.start w).new 97 2 #[.slice A5 t.co.length c5, .slice A6 t.rw.length c6] rfl).new 28 7 #[.int .i64 0, .int .i64 0, .int .i64 0, .string ⟨#[]⟩, .slice none 0 0, .slice none 0 0, .slice none 0 0] rfl
  simp only [World.size_alloc] at h0
  have H0 := Lib.hid h0
  clear h0
  rcases idx_lt (cc := t.co) (s := ay3) with hidx | ⟨k, hkc, hidx⟩
  · rw [whereD_no (by rw [HKa.out.2]; exact hidx)]
    have hcall : ∀ m, Calls Tryz.prog 63 #[.slice A5 t.co.length c5, .string ay3] (((w.alloc (.cells #[.slice A5 t.co.length c5, .slice A6 t.rw.length c6] 97)).alloc (.cells #[.int .i64 0, .int .i64 0, .int .i64 0, .string ⟨#[]⟩, .slice none 0 0, .slice none 0 0, .slice none 0 0] 28)).drewN m) fun e w' => e = .returned (.int .i64 (-1)) ∧ ∃ n, w' = ((w.alloc (.cells #[.slice A5 t.co.length c5, .slice A6 t.rw.length c6] 97)).alloc (.cells #[.int .i64 0, .int .i64 0, .int .i64 0, .string ⟨#[]⟩, .slice none 0 0, .slice none 0 0, .slice none 0 0] 28)).drewN n := fun m => by
      have h := (implIndex_any A5 c5 t.co ay3 w.heap.size (((w.alloc (.cells #[.slice A5 t.co.length c5, .slice A6 t.rw.length c6] 97)).alloc (.cells #[.int .i64 0, .int .i64 0, .int .i64 0, .string ⟨#[]⟩, .slice none 0 0, .slice none 0 0, .slice none 0 0] 28)).drewN m) (HTR.out.1.strs.keep (below_drewN H0.out.bel m).block) (by omega)).mono (fun e w' h => (⟨h.1, m, h.2⟩ : e = .returned (.int .i64 (Lib.idxOfS t.co ay3)) ∧ ∃ n, w' = ((w.alloc (.cells #[.slice A5 t.co.length c5, .slice A6 t.rw.length c6] 97)).alloc (.cells #[.int .i64 0, .int .i64 0, .int .i64 0, .string ⟨#[]⟩, .slice none 0 0, .slice none 0 0, .slice none 0 0] 28)).drewN n))
      rwa [hidx] at h
    have HID := Lib.hid hidx
    clear hidx
    have hz0 : (0 : Int) < 1 := by omega
    have hz1 : (1 : Int) < 2 := by omega
    go_enter Tryz.func104, Tryz.ntmps104
    have hb2 := MSt.box (MSt.nth (L1 := [_]) H0.out)
    have fO0 := hb2.cellAt 0 (by decide)
    have fO1 := hb2.cellAt 1 (by decide)
    have fOlt := (hb2.lt _ rfl).2
    simp only [List.getElem?_cons_zero, List.getElem?_cons_succ] at fO0 fO1
    clear hb2
    go_wp2_with fail
    go_quiet (exact hcall _)
    have H1 := Lib.hid (MSt.drewN H0.out nq)
    clear fO0 fO1 fOlt
    clear hcall
    go_wp2_with fail
    refine (implErrorValue_any 7 _).mono ?_
    rintro e w2 ⟨rfl, hb⟩
    have H2 := Lib.hid (H1.out.later hb)
    clear hb
    obtain ⟨fR0, fR1, fR2, fR3, fR4, fR5, fR6, fRlt⟩ := box7 (MSt.box H2.out)
    obtain ⟨zR0, zR1, zR2, zR3, zR4, zR5, zR6⟩ := box7z (MSt.box H2.out)
    go_wp2_with fail
    obtain ⟨W7, hW, hg, y0, y1, y2, y3, y4, y5, y6⟩ := MSt.put H2.out (.int .i64 6) (.int .i64 7) (.int .i64 0) (.string ⟨#[]⟩) (.slice none 0 0) (.slice none 0 0) (.slice none 0 0)
    rw [← hW]
    refine bodyPost_ret (v := .agg #[.int .i64 6, .int .i64 7, .int .i64 0, .string ⟨#[]⟩, .slice none 0 0, .slice none 0 0, .slice none 0 0]) (by simp [results, Tryz.results104, go_sem, y0, y1, y2, y3, y4, y5, y6]) rfl (toA_flat0 rfl hg.bel)
  · rw [whereD_yes (by rw [HKa.out.2]; exact hidx), HKb.out.1.2]
    have hcall : ∀ m, Calls Tryz.prog 63 #[.slice A5 t.co.length c5, .string ay3] (((w.alloc (.cells #[.slice A5 t.co.length c5, .slice A6 t.rw.length c6] 97)).alloc (.cells #[.int .i64 0, .int .i64 0, .int .i64 0, .string ⟨#[]⟩, .slice none 0 0, .slice none 0 0, .slice none 0 0] 28)).drewN m) fun e w' => e = .returned (.int .i64 (k : Int)) ∧ ∃ n, w' = ((w.alloc (.cells #[.slice A5 t.co.length c5, .slice A6 t.rw.length c6] 97)).alloc (.cells #[.int .i64 0, .int .i64 0, .int .i64 0, .string ⟨#[]⟩, .slice none 0 0, .slice none 0 0, .slice none 0 0] 28)).drewN n := fun m => by
      have h := (implIndex_any A5 c5 t.co ay3 w.heap.size (((w.alloc (.cells #[.slice A5 t.co.length c5, .slice A6 t.rw.length c6] 97)).alloc (.cells #[.int .i64 0, .int .i64 0, .int .i64 0, .string ⟨#[]⟩, .slice none 0 0, .slice none 0 0, .slice none 0 0] 28)).drewN m) (HTR.out.1.strs.keep (below_drewN H0.out.bel m).block) (by omega)).mono (fun e w' h => (⟨h.1, m, h.2⟩ : e = .returned (.int .i64 (Lib.idxOfS t.co ay3)) ∧ ∃ n, w' = ((w.alloc (.cells #[.slice A5 t.co.length c5, .slice A6 t.rw.length c6] 97)).alloc (.cells #[.int .i64 0, .int .i64 0, .int .i64 0, .string ⟨#[]⟩, .slice none 0 0, .slice none 0 0, .slice none 0 0] 28)).drewN n))
      rwa [hidx] at h
    have HID := Lib.hid hidx
    clear hidx
    have hz0 : (0 : Int) < 1 := by omega
    have hz1 : (1 : Int) < 2 := by omega
    go_enter Tryz.func104, Tryz.ntmps104
    have hb2 := MSt.box (MSt.nth (L1 := [_]) H0.out)
    have fO0 := hb2.cellAt 0 (by decide)
    have fO1 := hb2.cellAt 1 (by decide)
    have fOlt := (hb2.lt _ rfl).2
    simp only [List.getElem?_cons_zero, List.getElem?_cons_succ] at fO0 fO1
    clear hb2
    go_wp2_with fail
    go_quiet (exact hcall _)
    have H1 := Lib.hid (MSt.drewN H0.out nq)
    clear fO0 fO1 fOlt
    clear hcall
    have HS := Lib.hid (MSt.nilRow0 H1.out 38 2)
    have hb2 := MSt.box (MSt.nth (L1 := [_]) H1.out)
    have fO0 := hb2.cellAt 0 (by decide)
    have fO1 := hb2.cellAt 1 (by decide)
    have fOlt := (hb2.lt _ rfl).2
    simp only [List.getElem?_cons_zero, List.getElem?_cons_succ] at fO0 fO1
    clear hb2
    go_wp2_with fail
    clear fO0 fO1 fOlt
    go_loopw [6, 22] (fun v i wr => ∃ (j m : Nat) (cl : List Value), j ≤ t.rw.length ∧ i = .int .i64 (j : Int) ∧ m ≤ j ∧ Hid (m = ((t.rw.take j).filter (eqAt k by1)).length ∧ RdL w w.heap.size ((t.rw.take j).filter (eqAt k by1)) cl) ∧ Hid (MSt w [rowA 38 2 v m cl, boxA 28 7 (w.heap.size + 1) [.int .i64 0, .int .i64 0, .int .i64 0, .string ⟨#[]⟩, .slice none 0 0, .slice none 0 0, .slice none 0 0], boxA 97 2 w.heap.size [.slice A5 t.co.length c5, .slice A6 t.rw.length c6]] wr)) (fun _ i _ => t.rw.length - (intOf i).toNat)
    case atStart => exact ⟨0, 0, [], Nat.zero_le _, rfl, Nat.le_refl _, Lib.hid ⟨rfl, by simp [RdL]⟩, HS⟩
    case round =>
      obtain ⟨j, m, cl, hj, rfl, hmj, HF, H1⟩ := hrel
      obtain ⟨A3, q3, rfl⟩ := own_slice H1.out.row
      by_cases hlt : j < t.rw.length
      · obtain ⟨b, o, cs, hA6, hbB, hrd, hlen, hcell⟩ := (HTR.out.2.below H1.out.bel).at (k := 2) (fun x hx' => (rw_val (HV.out.1 t (by simp)) x hx').width) (by omega) j hlt
        subst hA6
        obtain ⟨x, hx⟩ : ∃ x, x = t.rw[j] := ⟨_, rfl⟩
        have hxr := HB.out.2.2 _ (List.getElem_mem hlt)
        rw [← hx] at hrd hxr
        obtain ⟨ns, os, rfl, hns, hos, hnn⟩ := hxr
        obtain ⟨B0, d0, B1, d1, rfl, r0, r1⟩ := Rd.ofRow hrd
        have HX := Lib.hid (And.intro hx (And.intro hns (And.intro hos (And.intro hnn (And.intro r0 r1)))))
        have h00 := hcell 0 (by omega)
        have h01 := hcell 1 (by omega)
        simp only [List.getElem?_cons_zero, List.getElem?_cons_succ, Nat.add_zero, List.length_map] at h00 h01
        have hws := H1.out.size
        have hbl : b < wr.heap.size := by omega
        have hj2 : (j : Int) < (t.rw.length : Int) := by omega
        obtain ⟨b0, o0, rfl, hb0, hc0⟩ := r0.ints k _ (intV_get ns k (by omega))
        obtain ⟨q, hq⟩ : ∃ q, q = ns[k]'(by omega) := ⟨_, rfl⟩
        rw [← hq] at hc0
        have HQ := Lib.hid (show Dt.at (.agg [.lst (ns.map .int), .lst os]) k = q by rw [at_mk (by omega), hq])
        have hk2 : (k : Int) < (ns.length : Int) := by omega
        have hbl0 : b0 < wr.heap.size := by omega
        clear hq
        have hr0 := hrd.keep (w' := w) (fun k hk => (H1.out.bel.block k hk).symm)
        simp only [List.length_map] at hr0
        have HRX := Lib.hid (And.intro hr0 (filter_next (p := eqAt k by1) hlt))
        clear hrd hr0 hcell hlen r0 r1 hns hos hnn hx
        have gb1 := (H1.out.bel.cell (p := ⟨ba, oa + 7 + 1, none⟩) hba).trans hb1
        have hba2 : ba < wr.heap.size := by omega
        go_wp2_with fail
        clear h00 h01
        have H2 := Lib.hid (H1.out.new 38 2 #[.slice (some ⟨b0, o0, none⟩) ns.length d0, .slice B1 os.length d1] rfl)
        have hws3 := H2.out.size
        have hb2 := MSt.box H2.out
        have fB0 := hb2.cellAt 0 (by decide)
        have fB1 := hb2.cellAt 1 (by decide)
        have fBlt := (hb2.lt _ rfl).2
        simp only [List.getElem?_cons_zero, List.getElem?_cons_succ] at fB0 fB1
        clear hb2
        by_cases heq : q = by1
        · subst heq
          have hne : (q == q) = true := by simp
          go_wp2_with fail
          go_quiet (fail)
          have H3 := Lib.hid (MSt.drewN H2.out nq)
          clear gb1 fB0 fB1 fBlt
          clear hc0
          obtain ⟨wq, hwq⟩ : ∃ wq, wq = (wr.alloc (.cells #[.slice (some ⟨b0, o0, none⟩) ns.length d0, .slice B1 os.length d1] 38)).drewN nq := ⟨_, rfl⟩
          rw [← hwq] at H3 ⊢
          clear hwq
          have hb2 := MSt.box H3.out
          have fB0 := hb2.cellAt 0 (by decide)
          have fB1 := hb2.cellAt 1 (by decide)
          have fBlt := (hb2.lt _ rfl).2
          simp only [List.getElem?_cons_zero, List.getElem?_cons_succ] at fB0 fB1
          clear hb2
          have hsq := H3.out.size
          go_wp2_with (at_builtin; refine appR _ rfl (.tmp 36) (.tmp 38) rfl w.heap.size _ m cl rfl (((MSt.nth (L1 := [_]) H3.out).alloc _).row) (some ⟨wq.heap.size, 0, none⟩) 1 1 (wq.heap.size + 1) [.slice (some ⟨b0, o0, none⟩) ns.length d0, .slice B1 os.length d1] rfl rfl (row_new wq #[.slice (some ⟨b0, o0, none⟩) ns.length d0, .slice B1 os.length d1] 38) (by intro u hu; simp at hu; rcases hu with rfl | rfl <;> rfl) (by omega) (by simp; omega) ?_; intro v3 w3 hown3 hgr3 hn3)
          have h3 := MSt.subB (((MSt.nth (L1 := [_]) H3.out).alloc (.cells #[.slice (some ⟨b0, o0, none⟩) ns.length d0, .slice B1 os.length d1] 38)).app hgr3 hown3 hn3.2) (.cons_cons _ (.cons _ (List.Sublist.refl _)))
          have H9 := Lib.hid h3
          clear h3 hown3 hgr3 hn3
          have hpx : eqAt k q (.agg [.lst (ns.map .int), .lst os]) = true := by unfold eqAt; rw [HQ.out]; simp
          have hnx := HRX.out.2
          rw [← HX.out.1, if_pos hpx] at hnx
          refine ⟨⟨j + 1, m + 1, _, by omega, by simp, by omega, Lib.hid ⟨?_, ?_⟩, H9⟩, by simp [intOf]; omega⟩
          · rw [hnx, List.length_append, ← HF.out.1]; rfl
          · rw [hnx]; exact (RdL.append _ _ _).2 ⟨_, _, rfl, HF.out.2, rdl_1 HRX.out.1⟩
        · have hne : (q == by1) = false := by simpa using heq
          go_wp2_with fail
          go_quiet (fail)
          have H3 := Lib.hid (MSt.drewN H2.out nq)
          clear gb1 fB0 fB1 fBlt
          clear hc0
          obtain ⟨wq, hwq⟩ : ∃ wq, wq = (wr.alloc (.cells #[.slice (some ⟨b0, o0, none⟩) ns.length d0, .slice B1 os.length d1] 38)).drewN nq := ⟨_, rfl⟩
          rw [← hwq] at H3 ⊢
          clear hwq
          go_wp2_with fail
          have hpx : ¬ eqAt k by1 (.agg [.lst (ns.map .int), .lst os]) = true := by unfold eqAt; rw [HQ.out]; simpa using heq
          have hnx := HRX.out.2
          rw [← HX.out.1, if_neg hpx, List.append_nil] at hnx
          exact ⟨⟨j + 1, m, cl, by omega, by simp, by omega, Lib.hid ⟨by rw [hnx]; exact HF.out.1, by rw [hnx]; exact HF.out.2⟩, Lib.hid (MSt.drop H3.out)⟩, by simp [intOf]; omega⟩
      · obtain rfl : j = t.rw.length := by omega
        have hf := HF.out
        rw [List.take_length] at hf
        have hrd := rd_ownk H1.out.row hf.1 ((hf.2.below H1.out.bel).more H1.out.size)
        have HRD := Lib.hid hrd
        have HFL := Lib.hid hf.1
        clear hf hrd HF
        have hb2 := MSt.box (MSt.nth (L1 := [_, _]) H1.out)
        have fO0 := hb2.cellAt 0 (by decide)
        have fO1 := hb2.cellAt 1 (by decide)
        have fOlt := (hb2.lt _ rfl).2
        simp only [List.getElem?_cons_zero, List.getElem?_cons_succ] at fO0 fO1
        clear hb2
        go_wp2_with fail
        clear fO0 fO1 fOlt
        refine (cloneS_any A5 c5 t.co t.co.length rfl w.heap.size _ (HTR.out.1.strs.keep H1.out.bel.block) (by omega)).mono ?_
        rintro e w2 ⟨A7, c7, rfl, hown, hb⟩
        have H2 := Lib.hid (H1.out.add hb (rowA_at hown))
        have HRD2 := Lib.hid ((HRD.out.below hb).more hb.size)
        clear hown hb HRD
        go_wp2_with fail
        refine (cloneRowsN_any (t.rw.filter (eqAt k by1)) m HFL.out (fun x hx => rw_val (HV.out.1 t (by simp)) x (List.mem_filter.1 hx).1) (wt_rows (HV.out.1 t (by simp)) (HV.out.2.1 t (by simp)) _) A3 q3 _ HRD2.out).mono ?_
        rintro e w3 ⟨A8, c8, f8, rfl, how, hnf, hb⟩
        have H3 := Lib.hid (H2.out.add hb (owA_at how hnf))
        clear how hnf hb
        go_wp2_with fail
        refine (value5_any 0 0 ⟨#[]⟩ none A7 A8 0 0 t.co.length c7 m c8 _).mono ?_
        rintro e w4 ⟨rfl, hb⟩
        have H4 := Lib.hid (MSt.tbl (((MSt.nth (L1 := [_]) (H3.out.later hb)).close0 (xs := t.co.map .str) (fun w' => OwL.strs w' t.co) (by simp))))
        clear hb
        obtain ⟨fR0, fR1, fR2, fR3, fR4, fR5, fR6, fRlt⟩ := box7 (MSt.box (MSt.nth (L1 := [_, _]) H4.out))
        obtain ⟨zR0, zR1, zR2, zR3, zR4, zR5, zR6⟩ := box7z (MSt.box (MSt.nth (L1 := [_, _]) H4.out))
        go_wp2_with fail
        obtain ⟨W7, hW, hg, y0, y1, y2, y3, y4, y5, y6⟩ := MSt.put (MSt.nth (L1 := [_, _]) H4.out) (.int .i64 5) (.int .i64 0) (.int .i64 0) (.string ⟨#[]⟩) (.slice none 0 0) (.slice A7 t.co.length c7) (.slice A8 m c8)
        rw [← hW]
        refine bodyPost_ret (v := .agg #[.int .i64 5, .int .i64 0, .int .i64 0, .string ⟨#[]⟩, .slice none 0 0, .slice A7 t.co.length c7, .slice A8 m c8]) (by simp [results, Tryz.results104, go_sem, y0, y1, y2, y3, y4, y5, y6]) rfl ((MSt.nth (L1 := [_]) hg).give)

set_option maxHeartbeats 6400000 in
set_option maxRecDepth 100000 in
theorem implWhereEqual_any {a b t : Dt} (ha : IsVal a) (hb : IsVal b) (ht : IsVal t) (hwt : a.wt + b.wt + t.wt ≤ 1048576) (csa csb cst : List Value) (w : World) (ra : Rd w w.heap.size a csa) (rb : Rd w w.heap.size b csb) (rt : Rd w w.heap.size t cst) (d : Dt) (hd : Nary ([2, 1] ++ [5]) [a, b, t] (whereD a b t) d) :
    Calls Tryz.prog 15 #[.agg csa.toArray, .agg csb.toArray, .agg cst.toArray] w (ToA w d) := by
  have HV := Lib.hid (And.intro (show ∀ y ∈ [a, b, t], IsVal y by simp; exact ⟨ha, hb, ht⟩) (show ∀ y ∈ [a, b, t], y.wt ≤ 1048576 by simp; omega))
  have HD := Lib.hid hd
  obtain ⟨ay0, ay1, ay2, ay3, ay4, an4, ac4, ay5, an5, ac5, ay6, an6, ac6, rfl⟩ := ha.form ra
  obtain ⟨by0, by1, by2, by3, by4, bn4, bc4, by5, bn5, bc5, by6, bn6, bc6, rfl⟩ := hb.form rb
  obtain ⟨ty0, ty1, ty2, ty3, ty4, tn4, tc4, ty5, tn5, tc5, ty6, tn6, tc6, rfl⟩ := ht.form rt
  have HRL : Hid (RdL w w.heap.size [a, b, t] [.int .i64 ay0, .int .i64 ay1, .int .i64 ay2, .string ay3, .slice ay4 an4 ac4, .slice ay5 an5 ac5, .slice ay6 an6 ac6, .int .i64 by0, .int .i64 by1, .int .i64 by2, .string by3, .slice by4 bn4 bc4, .slice by5 bn5 bc5, .slice by6 bn6 bc6, .int .i64 ty0, .int .i64 ty1, .int .i64 ty2, .string ty3, .slice ty4 tn4 tc4, .slice ty5 tn5 tc5, .slice ty6 tn6 tc6]) := Lib.hid (rdl_2 ra (rdl_2 rb (rdl_1 rt)))
  have HM : Hid (∀ (w1 : World) (A : Option Addr) (c : Nat) (A5 : Option Addr) (n5 c5 : Nat) (A6 : Option Addr) (n6 c6 : Nat), OpOk [a, b, t] ([2, 1] ++ [5]) → TabR w1 t A5 n5 c5 A6 n6 c6 → Rd w1 w1.heap.size (.lst ([a, b, t].take 2)) [.slice A 2 c] → Calls Tryz.prog 104 #[.agg #[.slice A5 n5 c5, .slice A6 n6 c6], .slice A 2 c] w1 (ToA w1 (whereD a b t))) := Lib.hid fun w1 A c A5 n5 c5 A6 n6 c6 ok tr ro => whereEqual_any HV.out.1 HV.out.2 ok w1 A c A5 n5 c5 A6 n6 c6 tr ro
  have h0 := ((((MSt.start w).new 28 7 #[.int .i64 ay0, .int .i64 ay1, .int .i64 ay2, .string ay3, .slice ay4 an4 ac4, .slice ay5 an5 ac5, .slice ay6 an6 ac6] rfl).new 28 7 #[.int .i64 by0, .int .i64 by1, .int .i64 by2, .string by3, .slice by4 bn4 bc4, .slice by5 bn5 bc5, .slice by6 bn6 bc6] rfl).new 28 7 #[.int .i64 ty0, .int .i64 ty1, .int .i64 ty2, .string ty3, .slice ty4 tn4 tc4, .slice ty5 tn5 tc5, .slice ty6 tn6 tc6] rfl).new 28 7 #[.int .i64 0, .int .i64 0, .int .i64 0, .string ⟨#[]⟩, .slice none 0 0, .slice none 0 0, .slice none 0 0] rfl
  simp only [World.size_alloc] at h0
  have H0 := Lib.hid h0
  clear h0 hd hwt ha ra hb rb ht rt
  go_enter Tryz.func15, Tryz.ntmps15
  obtain ⟨fA0, fA1, fA2, fA3, fA4, fA5, fA6, fAlt⟩ := box7 (MSt.box (MSt.nth (L1 := [_, _, _]) H0.out))
  obtain ⟨fB0, fB1, fB2, fB3, fB4, fB5, fB6, fBlt⟩ := box7 (MSt.box (MSt.nth (L1 := [_, _]) H0.out))
  obtain ⟨fT0, fT1, fT2, fT3, fT4, fT5, fT6, fTlt⟩ := box7 (MSt.box (MSt.nth (L1 := [_]) H0.out))
  go_wp2_with fail
  go_region_law (first
    | (
      go_simp
      go_at_call 51
      refine (tabOp_where _).mono ?_
      rintro e w2 ⟨gk, rfl, hrk, hb⟩
      first | (have HL := Lib.hid (H0.out.drew.later hb)) | (have hx0 := (H0.out.drew.row_lit 28 7 3 #[.int .i64 ay0, .int .i64 ay1, .int .i64 ay2, .string ay3, .slice ay4 an4 ac4, .slice ay5 an5 ac5, .slice ay6 an6 ac6, .int .i64 by0, .int .i64 by1, .int .i64 by2, .string by3, .slice by4 bn4 bc4, .slice by5 bn5 bc5, .slice by6 bn6 bc6, .int .i64 ty0, .int .i64 ty1, .int .i64 ty2, .string ty3, .slice ty4 tn4 tc4, .slice ty5 tn5 tc5, .slice ty6 tn6 tc6] (by unfold maxLen; omega) rfl).later hb; simp only [World.size_drew, World.size_alloc] at hx0; have HX := Lib.hid hx0; clear hx0) | fail
      have hws2 := hb.size
      first | simp at hws2 | skip
      clear hb
      have HK := Lib.hid hrk
      clear hrk
      first | have hbm := MSt.hasB HL.out (a := boxA 28 7 (w.heap.size) [.int .i64 ay0, .int .i64 ay1, .int .i64 ay2, .string ay3, .slice ay4 an4 ac4, .slice ay5 an5 ac5, .slice ay6 an6 ac6]) (by simp) | have hbm := MSt.hasB HX.out (a := boxA 28 7 (w.heap.size) [.int .i64 ay0, .int .i64 ay1, .int .i64 ay2, .string ay3, .slice ay4 an4 ac4, .slice ay5 an5 ac5, .slice ay6 an6 ac6]) (by simp) | fail
      obtain ⟨fA0, fA1, fA2, fA3, fA4, fA5, fA6, fAlt⟩ := box7 hbm
      clear hbm
      first | have hbm := MSt.hasB HL.out (a := boxA 28 7 (w.heap.size + 1) [.int .i64 by0, .int .i64 by1, .int .i64 by2, .string by3, .slice by4 bn4 bc4, .slice by5 bn5 bc5, .slice by6 bn6 bc6]) (by simp) | have hbm := MSt.hasB HX.out (a := boxA 28 7 (w.heap.size + 1) [.int .i64 by0, .int .i64 by1, .int .i64 by2, .string by3, .slice by4 bn4 bc4, .slice by5 bn5 bc5, .slice by6 bn6 bc6]) (by simp) | fail
      obtain ⟨fB0, fB1, fB2, fB3, fB4, fB5, fB6, fBlt⟩ := box7 hbm
      clear hbm
      first | have hbm := MSt.hasB HL.out (a := boxA 28 7 (w.heap.size + 1 + 1) [.int .i64 ty0, .int .i64 ty1, .int .i64 ty2, .string ty3, .slice ty4 tn4 tc4, .slice ty5 tn5 tc5, .slice ty6 tn6 tc6]) (by simp) | have hbm := MSt.hasB HX.out (a := boxA 28 7 (w.heap.size + 1 + 1) [.int .i64 ty0, .int .i64 ty1, .int .i64 ty2, .string ty3, .slice ty4 tn4 tc4, .slice ty5 tn5 tc5, .slice ty6 tn6 tc6]) (by simp) | fail
      obtain ⟨fT0, fT1, fT2, fT3, fT4, fT5, fT6, fTlt⟩ := box7 hbm
      clear hbm)
    | (
      go_simp
      go_at_call 52
      first | (have HY := HX) | (have HY := Lib.hid (HL.out.row_lit 28 7 3 #[.int .i64 ay0, .int .i64 ay1, .int .i64 ay2, .string ay3, .slice ay4 an4 ac4, .slice ay5 an5 ac5, .slice ay6 an6 ac6, .int .i64 by0, .int .i64 by1, .int .i64 by2, .string by3, .slice by4 bn4 bc4, .slice by5 bn5 bc5, .slice by6 bn6 bc6, .int .i64 ty0, .int .i64 ty1, .int .i64 ty2, .string ty3, .slice ty4 tn4 tc4, .slice ty5 tn5 tc5, .slice ty6 tn6 tc6] (by unfold maxLen; omega) rfl)) | fail
      have hrd := lst_read HY.out (xs := [a, b, t]) rfl HRL.out
      have hrk : RowOf _ _ _ _ := HK.out
      refine (on_any [2, 1] _ _ 104 (enters_of Tryz.func104 (by kernel_rfl) rfl) [a, b, t] 2 rfl t rfl HV.out.1 HV.out.2 rfl _ _ _ hrd (by first | exact hrk | exact (hrk.keep fun k hk => ((Below.refl _ _).alloc (Nat.le_refl _) _).block k hk).more (by simp)) (whereD a b t) d HD.out (fun _ => isVal_whereD a b (HV.out.1 t (by simp))) (fun w1 A5 n5 c5 A6 n6 c6 ok tr ro => HM.out w1 _ _ A5 n5 c5 A6 n6 c6 ok tr ro)).mono ?_
      rintro e w3 ⟨csT, fpT, rfl, how, hnf, hb⟩
      obtain ⟨vy0, vy1, vy2, vy3, vy4, vn4, vc4, vy5, vn5, vc5, vy6, vn6, vc6, rfl⟩ := IsVal.form (HD.out.val (fun _ => isVal_whereD a b (HV.out.1 t (by simp)))) how.read
      have HZ := Lib.hid (HY.out.add hb (owA_at how hnf))
      clear how hnf hb hrd hrk
      have hbm := MSt.hasB HZ.out (a := boxA 28 7 (w.heap.size + 1 + 1 + 1) [.int .i64 0, .int .i64 0, .int .i64 0, .string ⟨#[]⟩, .slice none 0 0, .slice none 0 0, .slice none 0 0]) (by simp)
      obtain ⟨fR0, fR1, fR2, fR3, fR4, fR5, fR6, fRlt⟩ := box7 hbm
      obtain ⟨zR0, zR1, zR2, zR3, zR4, zR5, zR6⟩ := box7z hbm
      clear hbm)
    | fail)
  all_goals
    go_wp2_with fail
    obtain ⟨W7, hW, hg, y0, y1, y2, y3, y4, y5, y6⟩ := MSt.put (MSt.nth (L1 := [_, _]) HZ.out) (.int .i64 vy0) (.int .i64 vy1) (.int .i64 vy2) (.string vy3) (.slice vy4 vn4 vc4) (.slice vy5 vn5 vc5) (.slice vy6 vn6 vc6)
    rw [← hW]
    refine bodyPost_ret (v := .agg #[.int .i64 vy0, .int .i64 vy1, .int .i64 vy2, .string vy3, .slice vy4 vn4 vc4, .slice vy5 vn5 vc5, .slice vy6 vn6 vc6]) (by simp [results, Tryz.results15, go_sem, y0, y1, y2, y3, y4, y5, y6]) rfl (MSt.give (MSt.nth (L1 := [_]) hg))

end Go.Proofs.YtcdklpflgafokaaGreatDoor
