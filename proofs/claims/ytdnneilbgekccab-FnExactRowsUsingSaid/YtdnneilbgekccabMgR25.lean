/-
  Texts that the proof rests on, put together: OrgA, UseI, UseS.
-/
import Derived.Test.YtdnneilbgekccabMgR24
import Derived.Test.YtdnneilbgekccabMgR16
import Derived.Test.YtdnneilbgekccabMgR22
import Derived.Test.YtdnneilbgekccabMgR9
import Derived.Test.YtdnneilbgekccabMgR6
import Derived.Deep.RegionHeld3
import Derived.Test.YtdnneilbgekccabMgR18
/-
  RowsUsing, the program's. (Written by gen8.py.)
-/

namespace Go.Proofs.Ytdnneilbgekccab
open Go.RowKit Go.Lib Go.Sort
set_option linter.unusedVariables false
set_option linter.unusedSimpArgs false

set_option maxHeartbeats 3200000 in
set_option maxRecDepth 100000 in
theorem indexO_any (l : List (Int × Int)) (hl : l.length ≤ 2097152) (a0 a1 : Int) (A : Option Addr) (n c : Nat) (hn : n = l.length) (w : World) (h : OrgsR w w.heap.size A l) :
    Calls Try.prog 55 #[.slice A n c, .agg #[.int .i64 a0, .int .i64 a1]] w fun e w' => ∃ r : Int, e = .returned (.int .i64 r) ∧ Hid (0 ≤ r ↔ (a0, a1) ∈ l) ∧ Below w.heap.size w w' := by
  subst hn
  have HL := Lib.hid h
  have H0 : Hid (MSt w [boxA 49 2 w.heap.size [.int .i64 a0, .int .i64 a1]] _) := Lib.hid ((MSt.start w).new 49 2 #[.int .i64 a0, .int .i64 a1] rfl)
  clear h
  go_enter Try.func55, Try.ntmps55
  go_wp2_with fail
  go_loopw [8] (fun i wr => ∃ (j : Nat), j ≤ l.length ∧ i = .int .i64 (j : Int) ∧ Hid ((a0, a1) ∉ l.take j) ∧ Hid (MSt w [boxA 49 2 w.heap.size [.int .i64 a0, .int .i64 a1]] wr)) (fun i _ => l.length - (intOf i).toNat)
  case atStart => exact ⟨0, Nat.zero_le _, rfl, Lib.hid (by simp), H0⟩
  case round =>
    obtain ⟨j, hj, rfl, HE, H1⟩ := hrel
    by_cases hlt : j < l.length
    · obtain ⟨b, o, rfl, hbB, k00, k01⟩ := orgs_at HL.out j hlt
      obtain ⟨x, hx⟩ : ∃ x, x = l[j] := ⟨_, rfl⟩
      rw [← hx] at k00 k01
      obtain ⟨x0, x1⟩ := x
      simp only at k00 k01
      have HX := Lib.hid hx
      have HC0 := Lib.hid (And.intro k00 k01)
      have hli : (j : Int) < (l.length : Int) := by omega
      clear hx k00 k01
      have h00 := ((MSt.bel H1.out).cell (p := ⟨b, o + j * 2, none⟩) hbB).trans HC0.out.1
      have h01 := ((MSt.bel H1.out).cell (p := ⟨b, o + j * 2 + 1, none⟩) hbB).trans HC0.out.2
      have hsz := MSt.size H1.out
      have hbw := Nat.lt_of_lt_of_le hbB hsz
      obtain ⟨fB0, fB1, fBlt⟩ := MSt.boxO H1.out
      have HTK := Lib.hid (show l.take (j + 1) = l.take j ++ [(x0, x1)] by rw [List.take_succ_eq_append_getElem hlt, ← HX.out])
      by_cases he : x0 = a0 ∧ x1 = a1
      · obtain ⟨rfl, rfl⟩ := he
        have ea : (x0 == x0) = true := by simp
        have eb : (x1 == x1) = true := by simp
        go_wp2_with fail
        go_quiet (fail)
        go_wp2_with fail
        go_ret
        exact ⟨_, rfl, Lib.hid (iff_of_true (by omega) (by rw [HX.out]; exact List.getElem_mem hlt)), (MSt.drewN H1.out _).bel⟩
      · have hq : (a0 == x0) = false ∨ (a0 == x0) = true ∧ (a1 == x1) = false := by
          by_cases e : a0 = x0
          · exact .inr ⟨by simpa using e, by simp; exact fun e' => he ⟨e.symm, e'.symm⟩⟩
          · exact .inl (by simpa using e)
        have HNE := Lib.hid he
        clear he
        rcases hq with e1 | ⟨e0, e1⟩
        all_goals
          go_wp2_with fail
          go_quiet (fail)
          go_wp2_with fail
          exact ⟨⟨j + 1, by omega, by simp, Lib.hid (by rw [HTK.out]; intro hm; rcases List.mem_append.1 hm with hm | hm; exact HE.out hm; simp only [List.mem_singleton, Prod.mk.injEq] at hm; exact HNE.out ⟨hm.1.symm, hm.2.symm⟩), Lib.hid (MSt.drewN H1.out _)⟩, by simp [intOf]; omega⟩
    · obtain rfl : j = l.length := by omega
      go_wp2_with fail
      go_ret
      refine ⟨_, rfl, Lib.hid (iff_of_false (by omega) (fun hm => HE.out ?_)), (MSt.bel H1.out)⟩
      rw [List.take_length]
      exact hm
set_option maxHeartbeats 3200000 in
set_option maxRecDepth 100000 in
theorem containsO_any (l : List (Int × Int)) (hl : l.length ≤ 2097152) (a0 a1 : Int) (A : Option Addr) (n c : Nat) (hn : n = l.length) (w : World) (h : OrgsR w w.heap.size A l) :
    Calls Try.prog 43 #[.slice A n c, .agg #[.int .i64 a0, .int .i64 a1]] w (EqP ((a0, a1) ∈ l) w) := by
  have HL := Lib.hid h
  have HN := Lib.hid hn
  have H0 := Lib.hid ((MSt.start w).new 49 2 #[.int .i64 a0, .int .i64 a1] rfl)
  clear h hn
  go_enter Try.func43, Try.ntmps43
  go_wp2_with fail
  refine (indexO_any l hl a0 a1 A n c HN.out _ ((HL.out.below (MSt.bel H0.out)).more (MSt.size H0.out))).mono ?_
  rintro e w1 ⟨r, rfl, HR, hb⟩
  have H1 := Lib.hid (H0.out.later hb)
  clear hb
  by_cases hr : 0 ≤ r
  · go_wp2_with fail
    go_ret
    exact ⟨true, by simp, iff_of_true rfl (HR.out.1 hr), MSt.bel H1.out⟩
  · go_wp2_with fail
    go_ret
    exact ⟨false, by simp; omega, iff_of_false (by simp) (fun h => absurd (HR.out.2 h) (by omega)), MSt.bel H1.out⟩
set_option maxHeartbeats 3200000 in
set_option maxRecDepth 100000 in
theorem implUses_any {a : Dt} (ha : IsVal a) (hwt : a.wt ≤ 1048576) (p0 p1 : Int) (U : List Int) (hU : U = usesTo (p0, p1) a.rw a.rw.length) (cs : List Value) (w : World) (h : Rd w w.heap.size a cs) :
    Calls Try.prog 21 #[.agg cs.toArray, .agg #[.int .i64 p0, .int .i64 p1]] w fun e w' => ∃ v, e = .returned v ∧ MSt w [intA v U] w' := by
  have hwp := wt_parts8 ha
  have hrv := rw_val8 ha
  have HR := Lib.hid (And.intro hrv hU)
  obtain ⟨y0, y1, y2, y3, y4, n4, c4, y5, n5, c5, y6, n6, c6, rfl⟩ := ha.form h
  have hr6 := rd_rows8 ha h
  obtain ⟨hn6, -, -⟩ := hr6.lst_len
  subst hn6
  have HRD := Lib.hid hr6
  have hlen : a.rw.length ≤ 1048576 := by omega
  have hwr : wts a.rw ≤ 1048576 := by omega
  have h0 := ((MSt.start w).new 40 7 #[.int .i64 y0, .int .i64 y1, .int .i64 y2, .string y3, .slice y4 n4 c4, .slice y5 n5 c5, .slice y6 a.rw.length c6] rfl).new 49 2 #[.int .i64 p0, .int .i64 p1] rfl
  simp only [World.size_alloc] at h0
  have H0 := Lib.hid h0
  have h1 := MSt.nilRow0 H0.out 3 1
  first | simp only [World.size_alloc] at h1 | skip
  have H1 : Hid (MSt w [intA (.slice none 0 0) (usesTo (p0, p1) a.rw 0), boxA 49 2 (w.heap.size + 1) [.int .i64 p0, .int .i64 p1], boxA 40 7 w.heap.size [.int .i64 y0, .int .i64 y1, .int .i64 y2, .string y3, .slice y4 n4 c4, .slice y5 n5 c5, .slice y6 a.rw.length c6]] _) := Lib.hid h1
  clear ha h hwt hwp hrv hr6 hU h0 h1 H0
  go_enter Try.func21, Try.ntmps21
  obtain ⟨fB0, fB1, fB2, fB3, fB4, fB5, fB6, fBlt⟩ := box7 (MSt.box (MSt.nth (L1 := [_, _]) H1.out))
  go_wp2_with fail
  go_loopw [5, 11] (fun v i wr => ∃ (j : Nat), j ≤ a.rw.length ∧ i = .int .i64 (j : Int) ∧ Hid (MSt w [intA v (usesTo (p0, p1) a.rw j), boxA 49 2 (w.heap.size + 1) [.int .i64 p0, .int .i64 p1], boxA 40 7 w.heap.size [.int .i64 y0, .int .i64 y1, .int .i64 y2, .string y3, .slice y4 n4 c4, .slice y5 n5 c5, .slice y6 a.rw.length c6]] wr)) (fun _ i _ => a.rw.length - (intOf i).toNat)
  case atStart => exact ⟨0, Nat.zero_le _, rfl, H1⟩
  case round =>
    clear H1
    obtain ⟨j, hj, rfl, H1⟩ := hrel
    obtain ⟨A3, q3, rfl⟩ := MSt.intVl H1.out
    have hul := usesTo_len (p0, p1) a.rw j
    obtain ⟨fO0, fO1, fOlt⟩ := MSt.box2 H1.out (e := 49) (g := w.heap.size + 1) (a := .int .i64 p0) (b := .int .i64 p1) (by simp)
    obtain ⟨fB0, fB1, fB2, fB3, fB4, fB5, fB6, fBlt⟩ := box7 (MSt.box (MSt.nth (L1 := [_, _]) H1.out))
    by_cases hlt : j < a.rw.length
    · obtain ⟨b, o, cs, hA6, hbB, hrd, hlen2, hcell⟩ := HRD.out.at (k := 2) (fun x hx' => (HR.out.1 x hx').width) (by omega) j hlt
      have hxr := HR.out.1 _ (List.getElem_mem hlt)
      have hwx := wts_mem (List.getElem_mem hlt)
      have hyes := usesTo_yes (o := (p0, p1)) hlt
      have hno := usesTo_no (o := (p0, p1)) hlt
      generalize a.rw[j] = x at hrd hxr hyes hno hwx
      obtain ⟨ns, os, rfl, hos⟩ := hxr
      obtain ⟨B0, d0, B1, d1, rfl, r0, r1⟩ := Rd.ofRow hrd
      have h00 := (H1.out.bel.cell (p := ⟨b, o + j * 2 + 0, none⟩) hbB).trans (hcell 0 (by omega))
      have h01 := (H1.out.bel.cell (p := ⟨b, o + j * 2 + 1, none⟩) hbB).trans (hcell 1 (by omega))
      simp only [List.getElem?_cons_zero, List.getElem?_cons_succ, Nat.add_zero, List.length_map] at h00 h01
      rw [fr_mk] at hyes hno
      have hosl := size_in8 hwx
      have HN := Lib.hid (And.intro hyes hno)
      have HO := Lib.hid (rd_orgs (l := os.map pr) (by rw [orgsD_pr hos]; exact r1)).2.2.2
      have hsz := MSt.size H1.out
      have hbw := Nat.lt_of_lt_of_le hbB hsz
      have hli : (j : Int) < (a.rw.length : Int) := by omega
      have hol : (os.map pr).length ≤ 2097152 := by simp; omega
      generalize hS : usesTo (p0, p1) a.rw j = S at *
      subst hA6
      clear hrd hlen2 hcell r0 r1 hS hwx hyes hno hosl
      go_wp2_with fail
      refine (containsO_any (os.map pr) hol p0 p1 B1 os.length d1 (by simp) _ ((HO.out.below (MSt.bel (MSt.alloc H1.out _))).more (MSt.size (MSt.alloc H1.out _)))).mono ?_
      rintro e w1 ⟨rb, rfl, hb, hb1⟩
      have HB := Lib.hid hb
      have H2 := Lib.hid ((MSt.alloc H1.out _).later hb1)
      clear hb hb1 h00 h01 fO0 fO1 fOlt fB0 fB1 fB2 fB3 fB4 fB5 fB6 fBlt
      cases rb
      · go_wp2_with fail
        exact ⟨⟨j + 1, by omega, by simp, Lib.hid (by rw [HN.out.2 (fun hm => by have := HB.out.2 hm; simp at this)]; exact H2.out)⟩, by simp [intOf]; omega⟩
      · have hs2 := MSt.size H2.out
        go_wp2_with (at_builtin; refine appI _ rfl (.tmp 20) (.tmp 22) rfl w.heap.size _ _ _ rfl (MSt.row (H2.out.alloc _)) (some ⟨_, 0, none⟩) 1 1 _ [.int .i64 (j : Int)] rfl rfl (row_new _ #[.int .i64 (j : Int)] 3) (by intro u hu; simp only [List.mem_singleton] at hu; subst hu; rfl) (by omega) (by simp; omega) ?_; intro v3 w3 hown3 hgr3 hn3; obtain ⟨A9, q9, rfl⟩ := own_slice hown3; have h3 := MSt.intApp (x := (j : Int)) (H2.out.alloc (.cells #[.int .i64 (j : Int)] 3)) hgr3 hown3 hn3.2; have H3 := Lib.hid h3; clear h3 hown3 hgr3 hn3)
        exact ⟨⟨j + 1, by omega, by simp, Lib.hid (by rw [HN.out.1 (HB.out.1 (by trivial))]; exact H3.out)⟩, by simp [intOf]; omega⟩
    · obtain rfl : j = a.rw.length := by omega
      go_wp2_with fail
      go_ret
      refine ⟨_, rfl, ?_⟩
      rw [HR.out.2]
      exact MSt.drop (MSt.nth (L1 := [_]) (MSt.drop (MSt.nth (L1 := [_, _]) H1.out)))
end Go.Proofs.Ytdnneilbgekccab

/-
  RowsUsing, the model's. (Written by gen8.py.)
-/

namespace Go.Proofs.Ytdnneilbgekccab
open Go.RowKit Go.Lib Go.Sort
set_option linter.unusedVariables false
set_option linter.unusedSimpArgs false

set_option maxHeartbeats 3200000 in
set_option maxRecDepth 100000 in
theorem specUses_any {a : Dt} (ha : IsVal a) (hwt : a.wt ≤ 1048576) (p0 p1 : Int) (U : List Int) (hU : U = usesTo (p0, p1) a.rw a.rw.length) (cs : List Value) (w : World) (h : Rd w w.heap.size a cs) :
    Calls Try.prog 19 #[.agg cs.toArray, .agg #[.int .i64 p0, .int .i64 p1]] w fun e w' => ∃ v, e = .returned v ∧ MSt w [intA v U] w' := by
  have hwp := wt_parts8 ha
  have hrv := rw_val8 ha
  have HR := Lib.hid (And.intro hrv hU)
  obtain ⟨y0, y1, y2, y3, y4, n4, c4, y5, n5, c5, y6, n6, c6, rfl⟩ := ha.form h
  have hr6 := rd_rows8 ha h
  obtain ⟨hn6, -, -⟩ := hr6.lst_len
  subst hn6
  have HRD := Lib.hid hr6
  have hlen : a.rw.length ≤ 1048576 := by omega
  have hwr : wts a.rw ≤ 1048576 := by omega
  have h0 := ((MSt.start w).new 40 7 #[.int .i64 y0, .int .i64 y1, .int .i64 y2, .string y3, .slice y4 n4 c4, .slice y5 n5 c5, .slice y6 a.rw.length c6] rfl).new 49 2 #[.int .i64 p0, .int .i64 p1] rfl
  simp only [World.size_alloc] at h0
  have H0 := Lib.hid h0
  have h1 := MSt.row_lit H0.out 3 1 0 #[] (by unfold maxLen; omega) rfl
  first | simp only [World.size_alloc] at h1 | skip
  have H1 : Hid (MSt w [intA (.slice (some ⟨w.heap.size + 1 + 1, 0, none⟩) 0 0) (usesTo (p0, p1) a.rw 0), boxA 49 2 (w.heap.size + 1) [.int .i64 p0, .int .i64 p1], boxA 40 7 w.heap.size [.int .i64 y0, .int .i64 y1, .int .i64 y2, .string y3, .slice y4 n4 c4, .slice y5 n5 c5, .slice y6 a.rw.length c6]] _) := Lib.hid h1
  clear ha h hwt hwp hrv hr6 hU h0 h1 H0
  go_enter Try.func19, Try.ntmps19
  go_wp2_with fail
  go_loopw [5, 6] (fun v i wr => ∃ (j : Nat), j ≤ a.rw.length ∧ i = .int .i64 (j : Int) ∧ Hid (MSt w [intA v (usesTo (p0, p1) a.rw j), boxA 49 2 (w.heap.size + 1) [.int .i64 p0, .int .i64 p1], boxA 40 7 w.heap.size [.int .i64 y0, .int .i64 y1, .int .i64 y2, .string y3, .slice y4 n4 c4, .slice y5 n5 c5, .slice y6 a.rw.length c6]] wr)) (fun _ i _ => a.rw.length - (intOf i).toNat)
  case atStart => exact ⟨0, Nat.zero_le _, rfl, H1⟩
  case round =>
    clear H1
    obtain ⟨j, hj, rfl, H1⟩ := hrel
    obtain ⟨A3, q3, rfl⟩ := MSt.intVl H1.out
    have hul := usesTo_len (p0, p1) a.rw j
    obtain ⟨fO0, fO1, fOlt⟩ := MSt.box2 H1.out (e := 49) (g := w.heap.size + 1) (a := .int .i64 p0) (b := .int .i64 p1) (by simp)
    obtain ⟨fB0, fB1, fB2, fB3, fB4, fB5, fB6, fBlt⟩ := box7 (MSt.box (MSt.nth (L1 := [_, _]) H1.out))
    by_cases hlt : j < a.rw.length
    · obtain ⟨b, o, cs, hA6, hbB, hrd, hlen2, hcell⟩ := HRD.out.at (k := 2) (fun x hx' => (HR.out.1 x hx').width) (by omega) j hlt
      have hxr := HR.out.1 _ (List.getElem_mem hlt)
      have hwx := wts_mem (List.getElem_mem hlt)
      have hyes := usesTo_yes (o := (p0, p1)) hlt
      have hno := usesTo_no (o := (p0, p1)) hlt
      generalize a.rw[j] = x at hrd hxr hyes hno hwx
      obtain ⟨ns, os, rfl, hos⟩ := hxr
      obtain ⟨B0, d0, B1, d1, rfl, r0, r1⟩ := Rd.ofRow hrd
      have h00 := (H1.out.bel.cell (p := ⟨b, o + j * 2 + 0, none⟩) hbB).trans (hcell 0 (by omega))
      have h01 := (H1.out.bel.cell (p := ⟨b, o + j * 2 + 1, none⟩) hbB).trans (hcell 1 (by omega))
      simp only [List.getElem?_cons_zero, List.getElem?_cons_succ, Nat.add_zero, List.length_map] at h00 h01
      rw [fr_mk] at hyes hno
      have hosl := size_in8 hwx
      have HN := Lib.hid (And.intro hyes hno)
      have HO := Lib.hid (rd_orgs (l := os.map pr) (by rw [orgsD_pr hos]; exact r1)).2.2.2
      have hsz := MSt.size H1.out
      have hbw := Nat.lt_of_lt_of_le hbB hsz
      have hli : (j : Int) < (a.rw.length : Int) := by omega
      have hol : (os.map pr).length ≤ 2097152 := by simp; omega
      generalize hS : usesTo (p0, p1) a.rw j = S at *
      subst hA6
      clear hrd hlen2 hcell r0 r1 hS hwx hyes hno hosl
      go_wp2_with fail
      go_region_held3 (fun w' => w'.cell? ⟨w.heap.size, 6, none⟩ = some (.slice (some ⟨b, o, none⟩) a.rw.length c6) ∧ w'.cell? ⟨w.heap.size + 1, 0, none⟩ = some (.int .i64 p0) ∧ w'.cell? ⟨w.heap.size + 1, 1, none⟩ = some (.int .i64 p1) ∧ w'.cell? ⟨b, o + j * 2 + 1, none⟩ = some (.slice B1 os.length d1)) (first | exact ⟨fB6, fO0, fO1, h01⟩ | exact ⟨(hb1.cell (p := ⟨w.heap.size, 6, none⟩) fBlt).trans fB6, (hb1.cell (p := ⟨w.heap.size + 1, 0, none⟩) fOlt).trans fO0, (hb1.cell (p := ⟨w.heap.size + 1, 1, none⟩) fOlt).trans fO1, (hb1.cell (p := ⟨b, o + j * 2 + 1, none⟩) hbw).trans h01⟩)
        (first | (go_at_call 42; refine (l8Has_any (os.map pr) hol p0 p1 B1 os.length d1 (by simp) _ ((HO.out.below (MSt.bel (MSt.drew H1.out))).more (MSt.size (MSt.drew H1.out)))).mono ?_; rintro e w1 ⟨rb, rfl, hb, hb1⟩; have HB := Lib.hid hb; clear hb))
      have H2 := Lib.hid ((MSt.drew H1.out).later hb1)
      clear hb1 h00 h01 fO0 fO1 fOlt fB0 fB1 fB2 fB3 fB4 fB5 fB6 fBlt
      cases rb
      · go_wp2_with fail
        exact ⟨⟨j + 1, by omega, by simp, Lib.hid (by rw [HN.out.2 (fun hm => by have := HB.out.2 hm; simp at this)]; exact H2.out)⟩, by simp [intOf]; omega⟩
      · have hs2 := MSt.size H2.out
        go_wp2_with (at_builtin; refine appI _ rfl (.tmp 23) (.tmp 25) rfl w.heap.size _ _ _ rfl (MSt.row (H2.out.alloc _)) (some ⟨_, 0, none⟩) 1 1 _ [.int .i64 (j : Int)] rfl rfl (row_new _ #[.int .i64 (j : Int)] 3) (by intro u hu; simp only [List.mem_singleton] at hu; subst hu; rfl) (by omega) (by simp; omega) ?_; intro v3 w3 hown3 hgr3 hn3; obtain ⟨A9, q9, rfl⟩ := own_slice hown3; have h3 := MSt.intApp (x := (j : Int)) (H2.out.alloc (.cells #[.int .i64 (j : Int)] 3)) hgr3 hown3 hn3.2; have H3 := Lib.hid h3; clear h3 hown3 hgr3 hn3)
        exact ⟨⟨j + 1, by omega, by simp, Lib.hid (by rw [HN.out.1 (HB.out.1 (by trivial))]; exact H3.out)⟩, by simp [intOf]; omega⟩
    · obtain rfl : j = a.rw.length := by omega
      go_wp2_with fail
      go_ret
      refine ⟨_, rfl, ?_⟩
      rw [HR.out.2]
      exact MSt.drop (MSt.nth (L1 := [_]) (MSt.drop (MSt.nth (L1 := [_, _]) H1.out)))
end Go.Proofs.Ytdnneilbgekccab
