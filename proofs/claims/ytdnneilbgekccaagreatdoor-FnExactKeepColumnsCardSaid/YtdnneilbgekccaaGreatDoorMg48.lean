/-
  Texts that the proof rests on, put together: KeepS.
-/
import Derived.Test.YtdnneilbgekccaaGreatDoorMg47
import Derived.Test.YtdnneilbgekccaaGreatDoorMg14
import Derived.Test.YtdnneilbgekccaaGreatDoorMg2
import Derived.Test.YtdnneilbgekccaaGreatDoorMg36
import Derived.Test.YtdnneilbgekccaaGreatDoorMg44
import Derived.Test.YtdnneilbgekccaaGreatDoorMg33
import Derived.Maps.Views
import Derived.Deep.RegionLaw
import Derived.Deep.RegionHeld3
import Derived.Outline
/-
  KeepColumns, the model's. (Written by gentab.py.)
-/

namespace Go.Proofs.YtdnneilbgekccaaGreatDoor
open Go.RowKit Go.Maps
set_option linter.unusedVariables false
set_option linter.unusedSimpArgs false

theorem rowOf_cell {w : World} {B b o i : Nat} {vs : List Value} {v : Value} (h : RowOf w B (some ⟨b, o, none⟩) vs) (hv : vs[i]? = some v) : w.cell? ⟨b, o + i, none⟩ = some v := by
  obtain ⟨b2, o2, he, hb, hc⟩ := h i v hv
  simp only [Option.some.injEq, Addr.mk.injEq, and_true] at he
  obtain ⟨rfl, rfl⟩ := he
  exact hc

set_option maxHeartbeats 6400000 in
set_option maxRecDepth 100000 in
theorem specKeepColumns_any {a t : Dt} (ha : IsVal a) (ht : IsVal t) (hwt : a.wt + t.wt ≤ 1048576) (csa cst : List Value) (w : World) (ra : Rd w w.heap.size a csa) (rt : Rd w w.heap.size t cst) (d : Dt) (hd : Nary ([2] ++ [5]) [a, t] (keepD a t) d) :
    Calls Tryz.prog 30 #[.agg csa.toArray, .agg cst.toArray] w (ToA w d) := by
  have HV := Lib.hid (And.intro (show ∀ y ∈ [a, t], IsVal y by simp; exact ⟨ha, ht⟩) (show ∀ y ∈ [a, t], y.wt ≤ 1048576 by simp; omega))
  have HD := Lib.hid hd
  obtain ⟨ay0, ay1, ay2, ay3, ay4, an4, ac4, ay5, an5, ac5, ay6, an6, ac6, rfl⟩ := ha.form ra
  obtain ⟨ty0, ty1, ty2, ty3, ty4, tn4, tc4, ty5, tn5, tc5, ty6, tn6, tc6, rfl⟩ := ht.form rt
  have HRL : Hid (RdL w w.heap.size [a, t] [.int .i64 ay0, .int .i64 ay1, .int .i64 ay2, .string ay3, .slice ay4 an4 ac4, .slice ay5 an5 ac5, .slice ay6 an6 ac6, .int .i64 ty0, .int .i64 ty1, .int .i64 ty2, .string ty3, .slice ty4 tn4 tc4, .slice ty5 tn5 tc5, .slice ty6 tn6 tc6]) := Lib.hid (rdl_2 ra (rdl_1 rt))
  have htr := TabR.of ht rt (Nat.le_refl _)
  obtain ⟨hn6, hq6, hx6⟩ := htr.2.lst_len
  subst hn6
  obtain ⟨hn5, hq5, -⟩ := htr.1.lst_len
  rw [List.length_map] at hn5
  subst hn5
  unfold maxLen at hx6
  have HT := Lib.hid htr
  have hka := kd_cell ha ra
  have HKa := Lib.hid (And.intro hka (tx_cell ha ra))
  clear hka
  have HRa := Lib.hid ra
  have HRt := Lib.hid rt
  have h0 := (((MSt.start w).new 28 7 #[.int .i64 ay0, .int .i64 ay1, .int .i64 ay2, .string ay3, .slice ay4 an4 ac4, .slice ay5 an5 ac5, .slice ay6 an6 ac6] rfl).new 28 7 #[.int .i64 ty0, .int .i64 ty1, .int .i64 ty2, .string ty3, .slice ty4 tn4 tc4, .slice ty5 t.co.length tc5, .slice ty6 t.rw.length tc6] rfl).new 28 7 #[.int .i64 0, .int .i64 0, .int .i64 0, .string ⟨#[]⟩, .slice none 0 0, .slice none 0 0, .slice none 0 0] rfl
  simp only [World.size_alloc] at h0
  have H0 := Lib.hid h0
  clear h0 hd hwt htr ha ra ht rt
  go_enter Tryz.func30, Tryz.ntmps30
  obtain ⟨fA0, fA1, fA2, fA3, fA4, fA5, fA6, fAlt⟩ := box7 (MSt.box (MSt.nth (L1 := [_, _]) H0.out))
  obtain ⟨fT0, fT1, fT2, fT3, fT4, fT5, fT6, fTlt⟩ := box7 (MSt.box (MSt.nth (L1 := [_]) H0.out))
  go_wp2_with fail
  clear fA0 fA1 fA2 fA3 fA4 fA5 fA6 fAlt fT0 fT1 fT2 fT3 fT4 fT5 fT6 fTlt
  have h1 := ((H0.out.row_lit 28 7 2 #[.int .i64 ay0, .int .i64 ay1, .int .i64 ay2, .string ay3, .slice ay4 an4 ac4, .slice ay5 an5 ac5, .slice ay6 an6 ac6, .int .i64 ty0, .int .i64 ty1, .int .i64 ty2, .string ty3, .slice ty4 tn4 tc4, .slice ty5 t.co.length tc5, .slice ty6 t.rw.length tc6] (by unfold maxLen; omega) rfl).row_lit 3 1 2 #[.int .i64 2, .int .i64 5] (by unfold maxLen; omega) rfl)
  simp only [World.size_alloc] at h1
  have HL1 := Lib.hid h1
  clear h1
  have hrd := lst_read (MSt.nth (L1 := [_]) HL1.out) (xs := [a, t]) rfl HRL.out
  have hrk := own_row (MSt.row HL1.out) (fun b hb => ((MSt.row HL1.out).lt b hb).2)
  refine (specCheck_any [a, t] HV.out.1 HV.out.2 [2, 5] rfl _ _ _ _ _ hrd hrk).mono ?_
  rintro e w1 ⟨⟨hok, rfl⟩ | ⟨ec, he, rfl⟩, hb⟩
  rotate_left
  all_goals clear hrd hrk
  · obtain rfl := HD.out.one (.err ec he)
    clear he
    have H1 := Lib.hid (((MSt.drop (MSt.drop HL1.out)).later hb).new 28 7 #[.int .i64 6, .int .i64 ec, .int .i64 0, .string ⟨#[]⟩, .slice none 0 0, .slice none 0 0, .slice none 0 0] rfl)
    have hz := hb.size
    first | simp at hz | skip
    clear hb
    obtain ⟨fR0, fR1, fR2, fR3, fR4, fR5, fR6, fRlt⟩ := box7 (MSt.box (MSt.nth (L1 := [_]) H1.out))
    obtain ⟨zR0, zR1, zR2, zR3, zR4, zR5, zR6⟩ := box7z (MSt.box (MSt.nth (L1 := [_]) H1.out))
    go_wp2_with fail
    obtain ⟨W7, hW, hg, y0, y1, y2, y3, y4, y5, y6⟩ := MSt.put (MSt.nth (L1 := [_]) H1.out) (.int .i64 6) (.int .i64 ec) (.int .i64 0) (.string ⟨#[]⟩) (.slice none 0 0) (.slice none 0 0) (.slice none 0 0)
    rw [← hW]
    refine bodyPost_ret (v := .agg #[.int .i64 6, .int .i64 ec, .int .i64 0, .string ⟨#[]⟩, .slice none 0 0, .slice none 0 0, .slice none 0 0]) (by simp [results, Tryz.results30, go_sem, y0, y1, y2, y3, y4, y5, y6]) rfl (toA_flat0 rfl hg.bel)
  have HDD := Lib.hid (HD.out.one (.ok hok))
  have HOK := Lib.hid hok
  clear hok
  have H1 := Lib.hid (((MSt.drop (MSt.drop HL1.out)).later hb).new 28 7 #[.int .i64 0, .int .i64 0, .int .i64 0, .string ⟨#[]⟩, .slice none 0 0, .slice none 0 0, .slice none 0 0] rfl)
  have hz := hb.size
  first | simp at hz | skip
  clear hb
  clear HL1
  have hkk := HOK.out.2
  simp only [List.map_cons, List.map_nil, List.cons_append, List.nil_append, List.cons.injEq, and_true] at hkk
  have htb := tbl_of (HV.out.1 t (by simp)) (HOK.out.1 t (by simp)) hkk.2
  have HB := Lib.hid htb
  have hr12 := htb.2.1
  have hc4 := htb.1.1.2
  clear hkk htb
  have hts := txt_size (HV.out.1 a (by simp)) (HOK.out.1 a (by simp)) (by have h := HOK.out.2; simp only [List.map_cons, List.map_nil, List.cons_append, List.nil_append, List.cons.injEq, and_true] at h; exact h.1)
  rw [HKa.out.2] at hts
  obtain ⟨cc, hcc⟩ : ∃ cc, pcsB 32 ay3.data.toList = cc := ⟨_, rfl⟩
  have hcn : cc.length ≤ 21 := by rw [← hcc]; have h1 := pcsB_len 32 ay3.data.toList; have h2 : ay3.data.toList.length ≤ 20 := hts; omega
  have HCC := Lib.hid (And.intro hcc (show colsOf a = cc by rw [colsOf_eq HKa.out.2, hcc]))
  clear hcc
  have hts2 : ay3.data.toList.length ≤ 1048576 := by have h2 : ay3.data.toList.length ≤ 20 := hts; omega
  obtain ⟨fA0, fA1, fA2, fA3, fA4, fA5, fA6, fAlt⟩ := box7 (MSt.box (MSt.nth (L1 := [_, _, _]) H1.out))
  obtain ⟨fT0, fT1, fT2, fT3, fT4, fT5, fT6, fTlt⟩ := box7 (MSt.box (MSt.nth (L1 := [_, _]) H1.out))
  go_wp2_with fail
  clear fA0 fA1 fA2 fA3 fA4 fA5 fA6 fAlt fT0 fT1 fT2 fT3 fT4 fT5 fT6 fTlt
  refine (specSplit_any ay3.data.toList 32 _ hts2).mono ?_
  rintro e w2 ⟨vC, rfl, hown, hb⟩
  rw [HCC.out.1] at hown
  obtain ⟨AC, qC, rfl⟩ := own_slice hown
  have H2 := Lib.hid (H1.out.add hb (rowA_at hown))
  clear hown hb
  have HCP := Lib.hid (own_cap (MSt.row H2.out))
  go_wp2_with fail
  have H3 := Lib.hid (H2.out.new 28 7 #[.int .i64 5, .int .i64 0, .int .i64 0, .string ⟨#[]⟩, .slice none 0 0, .slice AC cc.length qC, .slice none 0 0] rfl)
  obtain ⟨gX, hgX⟩ : ∃ g, g = w2.heap.size := ⟨_, rfl⟩
  rw [← hgX] at H3 ⊢
  clear hgX
  have HS := Lib.hid (MSt.subB H3.out (.cons_cons _ (.cons_cons _ (.cons _ (List.Sublist.refl _)))))
  go_loopw [9] (fun i wr => ∃ j : Nat, j ≤ cc.length ∧ i = .int .i64 (j : Int) ∧ Hid (MSt w [boxA 28 7 gX [.int .i64 5, .int .i64 0, .int .i64 0, .string ⟨#[]⟩, .slice none 0 0, .slice AC cc.length qC, .slice none 0 0], rowA 9 1 (.slice AC cc.length qC) cc.length (strV cc), boxA 28 7 (w.heap.size + 1 + 1) [.int .i64 0, .int .i64 0, .int .i64 0, .string ⟨#[]⟩, .slice none 0 0, .slice none 0 0, .slice none 0 0], boxA 28 7 (w.heap.size + 1) [.int .i64 ty0, .int .i64 ty1, .int .i64 ty2, .string ty3, .slice ty4 tn4 tc4, .slice ty5 t.co.length tc5, .slice ty6 t.rw.length tc6], boxA 28 7 (w.heap.size) [.int .i64 ay0, .int .i64 ay1, .int .i64 ay2, .string ay3, .slice ay4 an4 ac4, .slice ay5 an5 ac5, .slice ay6 an6 ac6]] wr) ∧ Hid ((∀ s ∈ cc.take j, s ∈ t.co) ∧ (0 < j → (cc.map nb).Nodup))) (fun i _ => cc.length - (intOf i).toNat)
  case atStart => exact ⟨0, Nat.zero_le _, rfl, HS, Lib.hid ⟨by simp, fun h => absurd h (by omega)⟩⟩
  case round =>
    obtain ⟨j, hj, rfl, H1, HE⟩ := hrel
    have hws := H1.out.size
    by_cases hlt : j < cc.length
    · have hj2 : (j : Int) < (cc.length : Int) := by omega
      obtain ⟨b', o', rfl, hb', hc'⟩ := (own_row (MSt.row (MSt.nth (L1 := [_]) H1.out)) (fun b hb => ((MSt.row (MSt.nth (L1 := [_]) H1.out)).lt b hb).2)) j _ (strV_get cc j hlt)
      obtain ⟨s, hs⟩ : ∃ s, s = cc[j] := ⟨_, rfl⟩
      rw [← hs] at hc'
      have HSS := Lib.hid hs
      have hbl' : b' < wr.heap.size := by omega
      clear hs
      rcases idx_lt (cc := t.co) (s := s) with hix | ⟨k, hk, hix⟩
      · have hcl : ∀ W, Below w.heap.size w W → Calls Tryz.prog 45 #[.agg #[.int .i64 ty0, .int .i64 ty1, .int .i64 ty2, .string ty3, .slice ty4 tn4 tc4, .slice ty5 t.co.length tc5, .slice ty6 t.rw.length tc6], .string s] W fun e w' => e = .returned (.int .i64 (-1)) ∧ Below W.heap.size W w' := fun W hW => (specColIdx_any (HV.out.1 t (by simp)) (HV.out.2 t (by simp)) [.int .i64 ty0, .int .i64 ty1, .int .i64 ty2, .string ty3, .slice ty4 tn4 tc4, .slice ty5 t.co.length tc5, .slice ty6 t.rw.length tc6] s _ ((HRt.out.below hW).more hW.size) (-1) hix.symm)
        have HCL := Lib.hid hcl
        clear hcl
        have hno : s ∉ t.co := by rcases idx_or t.co s with ⟨_, h⟩ | ⟨k, _, h, _⟩; exact h; rw [hix] at h; exact absurd h (by omega)
        obtain rfl : d = errD 7 := HDD.out.trans (keep_no (fun hh => hno (hh.2 s (by rw [HCC.out.2, HSS.out]; exact List.getElem_mem hlt))))
        clear hix hno
        obtain ⟨fT0, fT1, fT2, fT3, fT4, fT5, fT6, fTlt⟩ := box7 (MSt.box (MSt.nth (L1 := [_, _, _]) H1.out))
        go_wp2_with fail
        first
        | (go_region_law (first
          | (
            go_simp
            go_at_call 45
            refine (HCL.out _ H1.out.drew.bel).mono ?_
            rintro e1 w4 ⟨rfl, hb⟩
            have H2 := Lib.hid (H1.out.drew.later hb)
            clear hb)
          | fail)) | fail
        all_goals
          go_wp2_with fail
          refine (specErrorValue_any 7 _).mono ?_
          rintro e w3 ⟨rfl, hb⟩
          have H3 := Lib.hid (H2.out.later hb)
          clear hb
          obtain ⟨fR0, fR1, fR2, fR3, fR4, fR5, fR6, fRlt⟩ := box7 (MSt.box (MSt.nth (L1 := [_, _]) H3.out))
          obtain ⟨zR0, zR1, zR2, zR3, zR4, zR5, zR6⟩ := box7z (MSt.box (MSt.nth (L1 := [_, _]) H3.out))
          go_wp2_with fail
          obtain ⟨W7, hW, hg, y0, y1, y2, y3, y4, y5, y6⟩ := MSt.put (MSt.nth (L1 := [_, _]) H3.out) (.int .i64 6) (.int .i64 7) (.int .i64 0) (.string ⟨#[]⟩) (.slice none 0 0) (.slice none 0 0) (.slice none 0 0)
          rw [← hW]
          refine bodyPost_ret (v := .agg #[.int .i64 6, .int .i64 7, .int .i64 0, .string ⟨#[]⟩, .slice none 0 0, .slice none 0 0, .slice none 0 0]) (by simp [results, Tryz.results30, go_sem, y0, y1, y2, y3, y4, y5, y6]) rfl (toA_flat0 rfl hg.bel)
      have hcl : ∀ W, Below w.heap.size w W → Calls Tryz.prog 45 #[.agg #[.int .i64 ty0, .int .i64 ty1, .int .i64 ty2, .string ty3, .slice ty4 tn4 tc4, .slice ty5 t.co.length tc5, .slice ty6 t.rw.length tc6], .string s] W fun e w' => e = .returned (.int .i64 (k : Int)) ∧ Below W.heap.size W w' := fun W hW => (specColIdx_any (HV.out.1 t (by simp)) (HV.out.2 t (by simp)) [.int .i64 ty0, .int .i64 ty1, .int .i64 ty2, .string ty3, .slice ty4 tn4 tc4, .slice ty5 t.co.length tc5, .slice ty6 t.rw.length tc6] s _ ((HRt.out.below hW).more hW.size) (k : Int) hix.symm)
      have HCL := Lib.hid hcl
      clear hcl
      have hin : s ∈ t.co := by rcases idx_or t.co s with ⟨h, _⟩ | ⟨_, _, _, h⟩; rw [h] at hix; exact absurd hix (by omega); exact h
      have HIN := Lib.hid hin
      clear hix hin
      have hk0 : ¬ (k : Int) < 0 := by omega
      have hkd : decide ((k : Int) < 0) = false := by rw [decide_eq_false_iff_not]; omega
      obtain ⟨fT0, fT1, fT2, fT3, fT4, fT5, fT6, fTlt⟩ := box7 (MSt.box (MSt.nth (L1 := [_, _, _]) H1.out))
      go_wp2_with fail
      go_region_law (first
        | (
          go_simp
          go_at_call 45
          refine (HCL.out _ H1.out.drew.bel).mono ?_
          rintro e1 w4 ⟨rfl, hb⟩
          have H2 := Lib.hid (H1.out.drew.later hb)
          clear hb)
        | (
          go_simp
          go_at_call 80
          refine (specDist_any (some ⟨b', o', none⟩) qC cc _ _ (own_row (MSt.row (MSt.nth (L1 := [_]) H2.out)) (fun b hb => ((MSt.row (MSt.nth (L1 := [_]) H2.out)).lt b hb).2)) HCP.out.1 (by omega)).mono ?_
          rintro e2 w5 ⟨bd, rfl, hbd, hb⟩
          have H3 := Lib.hid (H2.out.later hb)
          clear hb
          have HBD := Lib.hid hbd
          clear hbd)
        | fail)
      all_goals
        cases bd
        · obtain rfl : d = errD 7 := HDD.out.trans (keep_no (fun hh => absurd (HBD.out.2 (by rw [← HCC.out.2]; exact hh.1)) (by simp)))
          go_wp2_with fail
          refine (specErrorValue_any 7 _).mono ?_
          rintro e w4 ⟨rfl, hb⟩
          have H4 := Lib.hid (H3.out.later hb)
          clear hb
          obtain ⟨fR0, fR1, fR2, fR3, fR4, fR5, fR6, fRlt⟩ := box7 (MSt.box (MSt.nth (L1 := [_, _]) H4.out))
          obtain ⟨zR0, zR1, zR2, zR3, zR4, zR5, zR6⟩ := box7z (MSt.box (MSt.nth (L1 := [_, _]) H4.out))
          go_wp2_with fail
          obtain ⟨W7, hW, hg, y0, y1, y2, y3, y4, y5, y6⟩ := MSt.put (MSt.nth (L1 := [_, _]) H4.out) (.int .i64 6) (.int .i64 7) (.int .i64 0) (.string ⟨#[]⟩) (.slice none 0 0) (.slice none 0 0) (.slice none 0 0)
          rw [← hW]
          refine bodyPost_ret (v := .agg #[.int .i64 6, .int .i64 7, .int .i64 0, .string ⟨#[]⟩, .slice none 0 0, .slice none 0 0, .slice none 0 0]) (by simp [results, Tryz.results30, go_sem, y0, y1, y2, y3, y4, y5, y6]) rfl (toA_flat0 rfl hg.bel)
        · go_wp2_with fail
          exact ⟨⟨j + 1, by omega, by simp, H3, Lib.hid ⟨mem_take_next hlt HE.out.1 (by rw [← HSS.out]; exact HIN.out), fun _ => HBD.out.1 (by trivial)⟩⟩, by simp [intOf]; omega⟩
    · obtain rfl : j = cc.length := by omega
      have he := HE.out
      rw [List.take_length] at he
      have HKO : Hid (KeepOk cc t.co) := Lib.hid ⟨by by_cases h0 : 0 < cc.length; exact he.2 h0; rw [List.eq_nil_of_length_eq_zero (show cc.length = 0 by omega)]; exact List.nodup_nil, he.1⟩
      clear he HE
      obtain rfl : d = tblD cc (t.rw.map (keepRow t.co cc)) := by rw [← HCC.out.2] at HKO ⊢; exact HDD.out.trans (keep_yes HKO.out)
      go_wp2_with fail
      have HS2 : Hid (MSt w [boxA 28 7 gX [.int .i64 5, .int .i64 0, .int .i64 0, .string ⟨#[]⟩, .slice none 0 0, .slice AC cc.length qC, (.slice none 0 0)], rowA 38 2 (.slice none 0 0) 0 [], owLA ((t.rw.take 0).map (keepRow t.co cc)) [] [], rowA 9 1 (.slice AC cc.length qC) cc.length (strV cc), boxA 28 7 (w.heap.size + 1 + 1) [.int .i64 0, .int .i64 0, .int .i64 0, .string ⟨#[]⟩, .slice none 0 0, .slice none 0 0, .slice none 0 0], boxA 28 7 (w.heap.size + 1) [.int .i64 ty0, .int .i64 ty1, .int .i64 ty2, .string ty3, .slice ty4 tn4 tc4, .slice ty5 t.co.length tc5, .slice ty6 t.rw.length tc6], boxA 28 7 (w.heap.size) [.int .i64 ay0, .int .i64 ay1, .int .i64 ay2, .string ay3, .slice ay4 an4 ac4, .slice ay5 an5 ac5, .slice ay6 an6 ac6]] wr) := Lib.hid (MSt.nth (L1 := [_, _]) (MSt.nilRow H1.out 38 2))
      clear H1 HS
      obtain ⟨wS2, hwS2⟩ : ∃ wo : World, wo = wr := ⟨_, rfl⟩
      rw [← hwS2] at HS2 ⊢
      clear hwS2
      go_loopw [10] (fun i wr => ∃ (j : Nat) (v : Value) (cl : List Value) (fp : List Nat), j ≤ t.rw.length ∧ i = .int .i64 (j : Int) ∧ Hid (MSt w [boxA 28 7 gX [.int .i64 5, .int .i64 0, .int .i64 0, .string ⟨#[]⟩, .slice none 0 0, .slice AC cc.length qC, v], rowA 38 2 v j cl, owLA ((t.rw.take j).map (keepRow t.co cc)) cl fp, rowA 9 1 (.slice AC cc.length qC) cc.length (strV cc), boxA 28 7 (w.heap.size + 1 + 1) [.int .i64 0, .int .i64 0, .int .i64 0, .string ⟨#[]⟩, .slice none 0 0, .slice none 0 0, .slice none 0 0], boxA 28 7 (w.heap.size + 1) [.int .i64 ty0, .int .i64 ty1, .int .i64 ty2, .string ty3, .slice ty4 tn4 tc4, .slice ty5 t.co.length tc5, .slice ty6 t.rw.length tc6], boxA 28 7 (w.heap.size) [.int .i64 ay0, .int .i64 ay1, .int .i64 ay2, .string ay3, .slice ay4 an4 ac4, .slice ay5 an5 ac5, .slice ay6 an6 ac6]] wr)) (fun i _ => t.rw.length - (intOf i).toNat)
      case atStart => exact ⟨0, _, _, _, Nat.zero_le _, rfl, HS2⟩
      case round =>
        obtain ⟨j, v, cl, fp, hj, rfl, H1⟩ := hrel
        obtain ⟨A3, q3, rfl⟩ := own_slice (MSt.row (MSt.nth (L1 := [_]) H1.out))
        by_cases hlt : j < t.rw.length
        · obtain ⟨b, o, cs, hA6, hbB, hrd, hlen, hcell⟩ := (HT.out.2.below H1.out.bel).at (k := 2) (fun x hx' => (rw_val (HV.out.1 t (by simp)) x hx').width) (by omega) j hlt
          subst hA6
          obtain ⟨x, hx⟩ : ∃ x, x = t.rw[j] := ⟨_, rfl⟩
          have hxr := HB.out.2.2 _ (List.getElem_mem hlt)
          rw [← hx] at hrd hxr
          obtain ⟨ns, os, rfl, hns, hos, hnn⟩ := hxr
          obtain ⟨B0, d0, B1, d1, rfl, r0, r1⟩ := Rd.ofRow hrd
          have HX := Lib.hid (And.intro hx (And.intro hns (And.intro hos (And.intro hnn (And.intro r0 r1)))))
          have h00 := hcell 0 (by omega)
          have h01 := hcell 1 (by omega)
          simp only [List.getElem?_cons_zero, List.getElem?_cons_succ, Nat.add_zero, List.length_map] at h00 h01
          have hws := H1.out.size
          have hbl : b < wr.heap.size := by omega
          have hj2 : (j : Int) < (t.rw.length : Int) := by omega
          have hr0 := hrd.keep (w' := w) (fun k hk => (H1.out.bel.block k hk).symm)
          simp only [List.length_map] at hr0
          have hi0 := r0.keep (w' := w) (fun k hk => (H1.out.bel.block k hk).symm)
          have HRX := Lib.hid (And.intro hr0 hi0)
          have hxw : (t.rw[j]).wt ≤ 1048576 := by have h1 := wts_in (List.getElem_mem hlt); have h2 := wt_parts (HV.out.1 t (by simp)); have h3 := HV.out.2 t (by simp); omega
          have hxi := rw_val (HV.out.1 t (by simp)) _ (List.getElem_mem hlt)
          rw [← HX.out.1] at hxw hxi
          have hos1 : os.length ≤ 1048576 := size_in hxw
          have hos7 := row_orgs7 hxi
          obtain ⟨oc, ho1, ho2, ho3, -⟩ := (r1.keep (w' := w) (fun k hk => (H1.out.bel.block k hk).symm)).cells (k := 2) fun x hx => (hos7 x hx).width
          have HOC := Lib.hid (And.intro ho1 (And.intro ho2 (And.intro ho3 hos7)))
          obtain ⟨ks, hks⟩ : ∃ ks : List Int, ks = cc.map fun s => Dt.at (.agg [.lst (ns.map .int), .lst os]) (pos t.co s) := ⟨_, rfl⟩
          have hnx := keeps_next (co := t.co) (cc := cc) hlt
          rw [← HX.out.1, keepRow, fr_mk, ← hks] at hnx
          have HNX := Lib.hid hnx
          have HKS := Lib.hid (And.intro hks (show ks.length = cc.length by rw [hks, List.length_map]))
          have hkl : cc.length ≤ ks.length := by have := HKS.out.2; omega
          have HC0 : Hid (w.cell? ⟨b, o + j * 2, none⟩ = some (.slice B0 ns.length d0)) := Lib.hid ((H1.out.bel.cell (p := ⟨b, o + j * 2, none⟩) hbB).symm.trans h00)
          clear hrd hr0 hi0 hcell hlen r0 r1 hns hos hnn hx hxw hxi hnx hks ho1 ho2 ho3 hos7
          obtain ⟨fX0, fX1, fX2, fX3, fX4, fX5, fX6, fXlt⟩ := box7 (MSt.box H1.out)
          obtain ⟨fT0, fT1, fT2, fT3, fT4, fT5, fT6, fTlt⟩ := box7 (MSt.box (MSt.nth (L1 := [_, _, _, _, _]) H1.out))
          go_wp2_with (at_builtin; refine appO _ rfl (.tmp 54) (.tmp 60) rfl w.heap.size _ 0 [] rfl (MSt.row (H1.out.lit 109 2)) B1 os.length d1 w.heap.size oc rfl HOC.out.2.2.1 (HOC.out.1.keep ((H1.out.alloc _).bel.block)) (RdL.one _ _ HOC.out.2.1) (by omega) (by simp; omega) ?_; intro v3 w3 hown3 hgr3 hn3; obtain ⟨AO, qO, rfl, hown3⟩ := own_slice0 hown3; have h3 := (H1.out.lit 109 2).app hgr3 hown3 hn3.2; simp only [Nat.zero_add, List.nil_append] at h3; have H3 := Lib.hid (h3.close0 (xs := os) (OwL.orgs_of HOC.out.2.2.2 HOC.out.2.1) rfl); clear h3 hown3 hgr3 hn3)
          clear fX0 fX1 fX2 fX3 fX4 fX5 fX6 fXlt fT0 fT1 fT2 fT3 fT4 fT5 fT6 fTlt
          clear h00 h01 hbl hws
          have hRl := ((MSt.box (MSt.nth (L1 := [_, _, _, _, _]) H3.out)).lt _ rfl).2
          have hCl : ∀ b o, AC = some ⟨b, o, none⟩ → b < w3.heap.size := fun b o h => ((MSt.row (MSt.nth (L1 := [_, _, _, _]) H3.out)).lt b (by rw [h]; rfl)).2
          have H4 := Lib.hid (H3.out.new 38 2 #[.slice none 0 0, .slice AO os.length qO] rfl)
          obtain ⟨gY, hgY⟩ : ∃ g, g = w3.heap.size := ⟨_, rfl⟩
          rw [← hgY] at H4 hRl hCl ⊢
          clear hgY
          have HCL7 := Lib.hid hCl
          clear hCl
          have HS3 := Lib.hid (MSt.swap (MSt.nilRow0 H4.out 3 1))
          go_loopw [12] (fun i wr => ∃ (k : Nat) (u : Value), k ≤ cc.length ∧ i = .int .i64 (k : Int) ∧ Hid (MSt w [boxA 38 2 gY [u, .slice AO os.length qO], rowA 3 1 u k (intV (ks.take k)), owA (.lst os) [.slice AO os.length qO] (Value.ownBlock (.slice AO os.length qO)).toList, boxA 28 7 gX [.int .i64 5, .int .i64 0, .int .i64 0, .string ⟨#[]⟩, .slice none 0 0, .slice AC cc.length qC, (.slice A3 j q3)], rowA 38 2 (.slice A3 j q3) j cl, owLA ((t.rw.take j).map (keepRow t.co cc)) cl fp, rowA 9 1 (.slice AC cc.length qC) cc.length (strV cc), boxA 28 7 (w.heap.size + 1 + 1) [.int .i64 0, .int .i64 0, .int .i64 0, .string ⟨#[]⟩, .slice none 0 0, .slice none 0 0, .slice none 0 0], boxA 28 7 (w.heap.size + 1) [.int .i64 ty0, .int .i64 ty1, .int .i64 ty2, .string ty3, .slice ty4 tn4 tc4, .slice ty5 t.co.length tc5, .slice (some ⟨b, o, none⟩) t.rw.length tc6], boxA 28 7 (w.heap.size) [.int .i64 ay0, .int .i64 ay1, .int .i64 ay2, .string ay3, .slice ay4 an4 ac4, .slice ay5 an5 ac5, .slice ay6 an6 ac6]] wr)) (fun i _ => cc.length - (intOf i).toNat)
          case atStart => exact ⟨0, _, Nat.zero_le _, rfl, HS3⟩
          case round =>
            obtain ⟨i, u, hi, rfl, H5⟩ := hrel
            obtain ⟨A4, q4, rfl⟩ := own_slice (MSt.row (MSt.nth (L1 := [_]) H5.out))
            by_cases hlt2 : i < cc.length
            · have hi2 : (i : Int) < (cc.length : Int) := by omega
              obtain ⟨b', o', rfl, hb', hc'⟩ := (own_row (MSt.row (MSt.nth (L1 := [_, _, _, _, _, _]) H5.out)) (fun b hb => ((MSt.row (MSt.nth (L1 := [_, _, _, _, _, _]) H5.out)).lt b hb).2)) i _ (strV_get cc i hlt2)
              obtain ⟨s, hs⟩ : ∃ s, s = cc[i] := ⟨_, rfl⟩
              rw [← hs] at hc'
              rcases idx_or t.co s with ⟨_, hno⟩ | ⟨k, hk, hix, _⟩
              · exact absurd (HKO.out.2 _ (List.getElem_mem hlt2)) (by rw [← hs]; exact hno)
              have hks : ks[i]'(by omega) = Dt.at (.agg [.lst (ns.map .int), .lst os]) k := by
                have h9 := HKS.out.1
                subst h9
                rw [List.getElem_map, ← hs, pos_of hix]
              obtain ⟨b0, o0, rfl, hb0, hc0⟩ := HRX.out.2.ints k _ (intV_get ns k (by rw [HX.out.2.1]; exact hk))
              obtain ⟨q, hq⟩ : ∃ q, q = ns[k]'(by rw [HX.out.2.1]; exact hk) := ⟨_, rfl⟩
              rw [← hq] at hc0
              rw [at_mk (by rw [HX.out.2.1]; exact hk), ← hq] at hks
              have HQ0 := Lib.hid hc0
              have hc0 := (H5.out.bel.cell (p := ⟨b0, o0 + k, none⟩) hb0).trans hc0
              have hnx := intV_take7 ks i (by omega)
              rw [hks] at hnx
              have HNI := Lib.hid (And.intro hnx hs)
              have hk2 : (k : Int) < (ns.length : Int) := by rw [HX.out.2.1]; omega
              have hws5 := H5.out.size
              have hbl0 : b0 < wr.heap.size := by omega
              have hbl' : b' < wr.heap.size := by omega
              have hblr : b < wr.heap.size := by omega
              have h00 := (H5.out.bel.cell (p := ⟨b, o + j * 2, none⟩) hbB).trans HC0.out
              have hcl : ∀ W, Below w.heap.size w W → Calls Tryz.prog 45 #[.agg #[.int .i64 ty0, .int .i64 ty1, .int .i64 ty2, .string ty3, .slice ty4 tn4 tc4, .slice ty5 t.co.length tc5, .slice (some ⟨b, o, none⟩) t.rw.length tc6], .string s] W fun e w' => e = .returned (.int .i64 (k : Int)) ∧ Below W.heap.size W w' := fun W hW => (specColIdx_any (HV.out.1 t (by simp)) (HV.out.2 t (by simp)) [.int .i64 ty0, .int .i64 ty1, .int .i64 ty2, .string ty3, .slice ty4 tn4 tc4, .slice ty5 t.co.length tc5, .slice (some ⟨b, o, none⟩) t.rw.length tc6] s _ ((HRt.out.below hW).more hW.size) (k : Int) hix.symm)
              have HCL := Lib.hid hcl
              clear hcl hq hks hnx hs hk hix
              have hb2 := MSt.box H5.out
              have fY0 := hb2.cellAt 0 (by decide)
              have zY0 := hb2.frozenAt 0
              have fY1 := hb2.cellAt 1 (by decide)
              have zY1 := hb2.frozenAt 1
              have fYlt := (hb2.lt _ rfl).2
              simp only [List.getElem?_cons_zero, List.getElem?_cons_succ] at fY0 fY1
              clear hb2
              obtain ⟨fT0, fT1, fT2, fT3, fT4, fT5, fT6, fTlt⟩ := box7 (MSt.box (MSt.nth (L1 := [_, _, _, _, _, _, _, _]) H5.out))
              go_upto_region 18 with fail
              have hbg := HCL7.out b' o' rfl
              refine wp_region_T (fun w' => w'.cell? ⟨gY, 0, none⟩ = some (.slice A4 i q4) ∧ w'.cell? ⟨(w.heap.size + 1), 0, none⟩ = some (.int .i64 ty0) ∧ w'.cell? ⟨(w.heap.size + 1), 1, none⟩ = some (.int .i64 ty1) ∧ w'.cell? ⟨(w.heap.size + 1), 2, none⟩ = some (.int .i64 ty2) ∧ w'.cell? ⟨(w.heap.size + 1), 3, none⟩ = some (.string ty3) ∧ w'.cell? ⟨(w.heap.size + 1), 4, none⟩ = some (.slice ty4 tn4 tc4) ∧ w'.cell? ⟨(w.heap.size + 1), 5, none⟩ = some (.slice ty5 t.co.length tc5) ∧ w'.cell? ⟨(w.heap.size + 1), 6, none⟩ = some (.slice (some ⟨b, o, none⟩) t.rw.length tc6) ∧ w'.cell? ⟨b', o' + i, none⟩ = some (.string s) ∧ w'.cell? ⟨b, o + j * 2, none⟩ = some (.slice (some ⟨b0, o0, none⟩) ns.length d0) ∧ w'.cell? ⟨b0, o0 + k, none⟩ = some (.int .i64 q)) 19 20 rfl (by kernel_rfl) ?_
              have HSW := Lib.hid (show wr.drew.cell? ⟨gY, 0, none⟩ = some (.slice A4 i q4) ∧ wr.drew.cell? ⟨(w.heap.size + 1), 0, none⟩ = some (.int .i64 ty0) ∧ wr.drew.cell? ⟨(w.heap.size + 1), 1, none⟩ = some (.int .i64 ty1) ∧ wr.drew.cell? ⟨(w.heap.size + 1), 2, none⟩ = some (.int .i64 ty2) ∧ wr.drew.cell? ⟨(w.heap.size + 1), 3, none⟩ = some (.string ty3) ∧ wr.drew.cell? ⟨(w.heap.size + 1), 4, none⟩ = some (.slice ty4 tn4 tc4) ∧ wr.drew.cell? ⟨(w.heap.size + 1), 5, none⟩ = some (.slice ty5 t.co.length tc5) ∧ wr.drew.cell? ⟨(w.heap.size + 1), 6, none⟩ = some (.slice (some ⟨b, o, none⟩) t.rw.length tc6) ∧ wr.drew.cell? ⟨b', o' + i, none⟩ = some (.string s) ∧ wr.drew.cell? ⟨b, o + j * 2, none⟩ = some (.slice (some ⟨b0, o0, none⟩) ns.length d0) ∧ wr.drew.cell? ⟨b0, o0 + k, none⟩ = some (.int .i64 q) from ⟨drw fY0, drw fT0, drw fT1, drw fT2, drw fT3, drw fT4, drw fT5, drw fT6, drw hc', drw h00, drw hc0⟩)
              refine anyT_take (i := 0) (v := ?v0) rfl (by kernel_rfl) (by kernel_rfl) (by kernel_rfl) (by kernel_rfl) (fun _ _ _ h => h) (Or.inl ⟨by rfl, ?hy0⟩) HSW.out ?rest0
              case hy0 => (intro w hSw; (try dsimp only at hSw); go_simp; try with_reducible rfl)
              try simp only [Act.put, List.setIfInBounds_toArray, List.set_cons_zero, List.set_cons_succ]
              refine anyT_take (i := 1) (v := ?v1) rfl (by kernel_rfl) (by kernel_rfl) (by kernel_rfl) (by kernel_rfl) (fun _ _ _ h => h) (Or.inl ⟨by rfl, ?hy1⟩) HSW.out ?rest1
              case hy1 => (intro w hSw; (try dsimp only at hSw); go_simp; try with_reducible rfl)
              try simp only [Act.put, List.setIfInBounds_toArray, List.set_cons_zero, List.set_cons_succ]
              refine anyT_take (i := 2) (v := ?v2) rfl (by kernel_rfl) (by kernel_rfl) (by kernel_rfl) (by kernel_rfl) (fun _ _ _ h => h) (Or.inl ⟨by rfl, ?hy2⟩) HSW.out ?rest2
              case hy2 => (intro w hSw; (try dsimp only at hSw); go_simp; try with_reducible rfl)
              try simp only [Act.put, List.setIfInBounds_toArray, List.set_cons_zero, List.set_cons_succ]
              refine anyT_take (i := 3) (v := ?v3) rfl (by kernel_rfl) (by kernel_rfl) (by kernel_rfl) (by kernel_rfl) (fun _ _ _ h => h) (Or.inl ⟨by rfl, ?hy3⟩) HSW.out ?rest3
              case hy3 => (intro w hSw; (try dsimp only at hSw); go_simp; try with_reducible rfl)
              try simp only [Act.put, List.setIfInBounds_toArray, List.set_cons_zero, List.set_cons_succ]
              refine anyT_take (i := 4) (v := ?v4) rfl (by kernel_rfl) (by kernel_rfl) (by kernel_rfl) (by kernel_rfl) (fun _ _ _ h => h) (Or.inl ⟨by rfl, ?hy4⟩) HSW.out ?rest4
              case hy4 => (intro w hSw; (try dsimp only at hSw); go_simp; try with_reducible rfl)
              try simp only [Act.put, List.setIfInBounds_toArray, List.set_cons_zero, List.set_cons_succ]
              refine anyT_take (i := 5) (v := ?v5) rfl (by kernel_rfl) (by kernel_rfl) (by kernel_rfl) (by kernel_rfl) (fun _ _ _ h => h) (Or.inl ⟨by rfl, ?hy5⟩) HSW.out ?rest5
              case hy5 => (intro w hSw; (try dsimp only at hSw); go_simp; try with_reducible rfl)
              try simp only [Act.put, List.setIfInBounds_toArray, List.set_cons_zero, List.set_cons_succ]
              refine anyT_take (i := 6) (v := ?v6) rfl (by kernel_rfl) (by kernel_rfl) (by kernel_rfl) (by kernel_rfl) (fun _ _ _ h => h) (Or.inl ⟨by rfl, ?hy6⟩) HSW.out ?rest6
              case hy6 => (intro w hSw; (try dsimp only at hSw); go_simp; try with_reducible rfl)
              try simp only [Act.put, List.setIfInBounds_toArray, List.set_cons_zero, List.set_cons_succ]
              refine anyT_take (i := 7) (v := ?v7) rfl (by kernel_rfl) (by kernel_rfl) (by kernel_rfl) (by kernel_rfl) (fun _ _ _ h => h) (Or.inl ⟨by rfl, ?hy7⟩) HSW.out ?rest7
              case hy7 => (intro w hSw; (try dsimp only at hSw); go_simp; try with_reducible rfl)
              try simp only [Act.put, List.setIfInBounds_toArray, List.set_cons_zero, List.set_cons_succ]
              refine anyT_take (i := 8) (v := ?v8) rfl (by kernel_rfl) (by kernel_rfl) (by kernel_rfl) (by kernel_rfl) (fun _ _ _ h => h) (Or.inl ⟨by rfl, ?hy8⟩) HSW.out ?rest8
              case hy8 => (intro w hSw; (try dsimp only at hSw); go_simp; try with_reducible rfl)
              try simp only [Act.put, List.setIfInBounds_toArray, List.set_cons_zero, List.set_cons_succ]
              refine anyT_take (i := 9) (v := ?v9) rfl (by kernel_rfl) (by kernel_rfl) (by kernel_rfl) (by kernel_rfl) (fun _ _ _ h => h) (Or.inl ⟨by rfl, ?hy9⟩) HSW.out ?rest9
              case hy9 => (intro w hSw; (try dsimp only at hSw); go_simp; try with_reducible rfl)
              try simp only [Act.put, List.setIfInBounds_toArray, List.set_cons_zero, List.set_cons_succ]
              refine anyT_take (i := 10) (v := ?v10) rfl (by kernel_rfl) (by kernel_rfl) (by kernel_rfl) (by kernel_rfl) (fun _ _ _ h => h) (Or.inl ⟨by rfl, ?hy10⟩) HSW.out ?rest10
              case hy10 => (intro w hSw; (try dsimp only at hSw); go_simp; try with_reducible rfl)
              try simp only [Act.put, List.setIfInBounds_toArray, List.set_cons_zero, List.set_cons_succ]
              refine anyT_take (i := 11) (v := ?v11) rfl (by kernel_rfl) (by kernel_rfl) (by kernel_rfl) (by kernel_rfl) (fun _ _ _ h => h) (Or.inl ⟨by rfl, ?hy11⟩) HSW.out ?rest11
              case hy11 => (intro w hSw; (try dsimp only at hSw); go_simp; try with_reducible rfl)
              try simp only [Act.put, List.setIfInBounds_toArray, List.set_cons_zero, List.set_cons_succ]
              refine anyT_take (i := 12) (v := ?v12) rfl (by kernel_rfl) (by kernel_rfl) (by kernel_rfl) (by kernel_rfl) (fun _ _ _ h => h) (Or.inl ⟨by rfl, ?hy12⟩) HSW.out ?rest12
              case hy12 => (intro w hSw; (try dsimp only at hSw); go_simp; try with_reducible rfl)
              try simp only [Act.put, List.setIfInBounds_toArray, List.set_cons_zero, List.set_cons_succ]
              refine anyT_step (i := 13) (by kernel_rfl) rfl (fun K hK => ?_)
              go_simp
              go_at_call 45
              refine (HCL.out _ H5.out.drew.bel).mono ?_
              rintro e1 w6 ⟨rfl, hb⟩
              have H6 := Lib.hid (H5.out.drew.later hb)
              have hs6 := H6.out.size
              have hc' := (hb.cell (p := ⟨b', o' + i, none⟩) (show _ < wr.heap.size from hbl')).trans hc'
              have h00 := (hb.cell (p := ⟨b, o + j * 2, none⟩) (show _ < wr.heap.size from hblr)).trans h00
              have hc0 := (hb.cell (p := ⟨b0, o0 + k, none⟩) (show _ < wr.heap.size from hbl0)).trans hc0
              have hsz6 : wr.heap.size ≤ w6.heap.size := hb.size
              have hbl' : b' < w6.heap.size := Nat.lt_of_lt_of_le hbl' hsz6
              have hblr : b < w6.heap.size := Nat.lt_of_lt_of_le hblr hsz6
              have hbl0 : b0 < w6.heap.size := Nat.lt_of_lt_of_le hbl0 hsz6
              clear hb
              have hb2 := MSt.box H6.out
              have fY0 := hb2.cellAt 0 (by decide)
              have zY0 := hb2.frozenAt 0
              have fY1 := hb2.cellAt 1 (by decide)
              have zY1 := hb2.frozenAt 1
              have fYlt := (hb2.lt _ rfl).2
              simp only [List.getElem?_cons_zero, List.getElem?_cons_succ] at fY0 fY1
              clear hb2
              obtain ⟨fT0, fT1, fT2, fT3, fT4, fT5, fT6, fTlt⟩ := box7 (MSt.box (MSt.nth (L1 := [_, _, _, _, _, _, _, _]) H6.out))
              try dsimp only
              have HSW := Lib.hid (show w6.cell? ⟨gY, 0, none⟩ = some (.slice A4 i q4) ∧ w6.cell? ⟨(w.heap.size + 1), 0, none⟩ = some (.int .i64 ty0) ∧ w6.cell? ⟨(w.heap.size + 1), 1, none⟩ = some (.int .i64 ty1) ∧ w6.cell? ⟨(w.heap.size + 1), 2, none⟩ = some (.int .i64 ty2) ∧ w6.cell? ⟨(w.heap.size + 1), 3, none⟩ = some (.string ty3) ∧ w6.cell? ⟨(w.heap.size + 1), 4, none⟩ = some (.slice ty4 tn4 tc4) ∧ w6.cell? ⟨(w.heap.size + 1), 5, none⟩ = some (.slice ty5 t.co.length tc5) ∧ w6.cell? ⟨(w.heap.size + 1), 6, none⟩ = some (.slice (some ⟨b, o, none⟩) t.rw.length tc6) ∧ w6.cell? ⟨b', o' + i, none⟩ = some (.string s) ∧ w6.cell? ⟨b, o + j * 2, none⟩ = some (.slice (some ⟨b0, o0, none⟩) ns.length d0) ∧ w6.cell? ⟨b0, o0 + k, none⟩ = some (.int .i64 q) from ⟨fY0, fT0, fT1, fT2, fT3, fT4, fT5, fT6, hc', h00, hc0⟩)
              refine hK.out _ _ (fun _ => HSW.out) ?_
              clear hK K
              try simp only [Act.put, List.setIfInBounds_toArray, List.set_cons_zero, List.set_cons_succ]
              refine anyT_take (i := 14) (v := ?v14) rfl (by kernel_rfl) (by kernel_rfl) (by kernel_rfl) (by kernel_rfl) (fun _ _ _ h => h) (Or.inl ⟨by rfl, ?hy14⟩) HSW.out ?rest14
              case hy14 => (intro w hSw; (try dsimp only at hSw); go_simp; try with_reducible rfl)
              try simp only [Act.put, List.setIfInBounds_toArray, List.set_cons_zero, List.set_cons_succ]
              refine anyT_take (i := 15) (v := ?v15) rfl (by kernel_rfl) (by kernel_rfl) (by kernel_rfl) (by kernel_rfl) (fun _ _ _ h => h) (Or.inl ⟨by rfl, ?hy15⟩) HSW.out ?rest15
              case hy15 => (intro w hSw; (try dsimp only at hSw); go_simp; try with_reducible rfl)
              try simp only [Act.put, List.setIfInBounds_toArray, List.set_cons_zero, List.set_cons_succ]
              refine anyT_step (i := 16) (by kernel_rfl) rfl (fun K hK => ?_)
              go_simp
              refine hK.out _ _ (fun _ => ⟨alc fYlt fY0, alc fTlt fT0, alc fTlt fT1, alc fTlt fT2, alc fTlt fT3, alc fTlt fT4, alc fTlt fT5, alc fTlt fT6, alc hbl' hc', alc hblr h00, alc hbl0 hc0⟩) ?_
              clear hK K
              try simp only [Act.put, List.setIfInBounds_toArray, List.set_cons_zero, List.set_cons_succ]
              refine anyT_step (i := 17) (by kernel_rfl) rfl (fun K hK => ?_)
              refine stepI _ (by rfl) (.tmp 70) (.tmp 85) (by rfl) w.heap.size (.slice A4 i q4) i (intV (ks.take i)) (by rfl) (by exact (MSt.row (MSt.nth (L1 := [_]) (H6.out.alloc _)))) (some ⟨w6.heap.size, 0, none⟩) 1 1 (w6.heap.size + 1) [.int .i64 q] (by rfl) rfl (row_new w6 #[.int .i64 q] 3) (by intro u hu; simp at hu; subst hu; rfl) (by omega) (by simp; omega) ?_
              intro v7 w7 hown7 hgr7 hn7
              obtain ⟨A9, q9, rfl⟩ := own_slice hown7
              have h7 := MSt.swap (MSt.app (MSt.nth (L1 := [_]) (H6.out.alloc (.cells #[.int .i64 q] 3))) hgr7 hown7 hn7.2)
              rw [HNI.out.1] at h7
              have H7 := Lib.hid h7
              clear h7 hown7 hgr7 hn7
              have hc' : w7.cell? ⟨b', o' + i, none⟩ = some (.string s) := by rw [HNI.out.2]; exact rowOf_cell (own_row (MSt.row (MSt.nth (L1 := [_, _, _, _, _, _]) H7.out)) (fun b hb => ((MSt.row (MSt.nth (L1 := [_, _, _, _, _, _]) H7.out)).lt b hb).2)) (strV_get cc i hlt2)
              have h00 := (H7.out.bel.cell (p := ⟨b, o + j * 2, none⟩) hbB).trans HC0.out
              have hc0 := (H7.out.bel.cell (p := ⟨b0, o0 + k, none⟩) hb0).trans HQ0.out
              have hb2 := MSt.box H7.out
              have fY0 := hb2.cellAt 0 (by decide)
              have zY0 := hb2.frozenAt 0
              have fY1 := hb2.cellAt 1 (by decide)
              have zY1 := hb2.frozenAt 1
              have fYlt := (hb2.lt _ rfl).2
              simp only [List.getElem?_cons_zero, List.getElem?_cons_succ] at fY0 fY1
              clear hb2
              obtain ⟨fT0, fT1, fT2, fT3, fT4, fT5, fT6, fTlt⟩ := box7 (MSt.box (MSt.nth (L1 := [_, _, _, _, _, _, _, _]) H7.out))
              have HSW := Lib.hid (show w7.cell? ⟨gY, 0, none⟩ = some (.slice A4 i q4) ∧ w7.cell? ⟨(w.heap.size + 1), 0, none⟩ = some (.int .i64 ty0) ∧ w7.cell? ⟨(w.heap.size + 1), 1, none⟩ = some (.int .i64 ty1) ∧ w7.cell? ⟨(w.heap.size + 1), 2, none⟩ = some (.int .i64 ty2) ∧ w7.cell? ⟨(w.heap.size + 1), 3, none⟩ = some (.string ty3) ∧ w7.cell? ⟨(w.heap.size + 1), 4, none⟩ = some (.slice ty4 tn4 tc4) ∧ w7.cell? ⟨(w.heap.size + 1), 5, none⟩ = some (.slice ty5 t.co.length tc5) ∧ w7.cell? ⟨(w.heap.size + 1), 6, none⟩ = some (.slice (some ⟨b, o, none⟩) t.rw.length tc6) ∧ w7.cell? ⟨b', o' + i, none⟩ = some (.string s) ∧ w7.cell? ⟨b, o + j * 2, none⟩ = some (.slice (some ⟨b0, o0, none⟩) ns.length d0) ∧ w7.cell? ⟨b0, o0 + k, none⟩ = some (.int .i64 q) from ⟨fY0, fT0, fT1, fT2, fT3, fT4, fT5, fT6, hc', h00, hc0⟩)
              refine hK.out _ _ (fun _ => HSW.out) ?_
              clear hK K
              try simp only [Act.put, List.setIfInBounds_toArray, List.set_cons_zero, List.set_cons_succ]
              refine anyT_take (i := 18) (v := ?v18) rfl (by kernel_rfl) (by kernel_rfl) (by kernel_rfl) (by kernel_rfl) (fun _ _ _ h => h) (Or.inl ⟨by rfl, ?hy18⟩) HSW.out ?rest18
              case hy18 => (intro w hSw; (try dsimp only at hSw); go_simp; try with_reducible rfl)
              try simp only [Act.put, List.setIfInBounds_toArray, List.set_cons_zero, List.set_cons_succ]
              refine anyT_step (i := 19) (by kernel_rfl) rfl (fun K hK => ?_)
              go_simp
              refine hK.out _ _ (fun h => absurd rfl h) ?_
              clear hK K
              try simp only [Act.put, List.setIfInBounds_toArray, List.set_cons_zero, List.set_cons_succ]
              refine anyT_done (by kernel_rfl) ?_ _
              go_wp2_with fail
              have H8 := Lib.hid (H7.out.set1 0 (.slice A9 (i + 1) q9))
              exact ⟨⟨i + 1, _, by omega, by simp, H8⟩, by simp [intOf]; omega⟩
            · obtain rfl : i = cc.length := by omega
              have hb2 := MSt.box H5.out
              have fY0 := hb2.cellAt 0 (by decide)
              have zY0 := hb2.frozenAt 0
              have fY1 := hb2.cellAt 1 (by decide)
              have zY1 := hb2.frozenAt 1
              have fYlt := (hb2.lt _ rfl).2
              simp only [List.getElem?_cons_zero, List.getElem?_cons_succ] at fY0 fY1
              clear hb2
              have h5 := MSt.drop H5.out
              rw [List.take_of_length_le (by have := HKS.out.2; omega)] at h5
              have h6 := MSt.row2 (h5.close0 (xs := ks.map .int) (fun w' => OwL.ints w' ks) (by rw [List.length_map]; exact HKS.out.2.symm))
              have H6 := Lib.hid h6
              have HO6 := Lib.hid (MSt.read h6).one
              clear h5 h6 H5
              obtain ⟨fX0, fX1, fX2, fX3, fX4, fX5, fX6, fXlt⟩ := box7 (MSt.box (MSt.nth (L1 := [_]) H6.out))
              obtain ⟨zX0, zX1, zX2, zX3, zX4, zX5, zX6⟩ := box7z (MSt.box (MSt.nth (L1 := [_]) H6.out))
              go_wp2_with (at_builtin; refine appR _ rfl (.tmp 89) (.tmp 91) rfl w.heap.size (.slice A3 j q3) j cl rfl (((MSt.nth (L1 := [_, _]) H6.out).alloc _).row) (some ⟨wr.heap.size, 0, none⟩) 1 1 (wr.heap.size + 1) [.slice A4 cc.length q4, .slice AO os.length qO] rfl rfl (row_new wr #[.slice A4 cc.length q4, .slice AO os.length qO] 38) HO6.out (by omega) (by have := H6.out.size; simp; omega) ?_; intro v7 w7 hown7 hgr7 hn7; obtain ⟨A9, q9, rfl⟩ := own_slice hown7; have h7 := MSt.nth (L1 := [_, _]) (MSt.push (MSt.nth (L1 := [_, _]) (MSt.nth (L1 := [_, _]) (MSt.nth (L1 := [_, _, _]) (MSt.app (MSt.nth (L1 := [_, _]) (H6.out.alloc (.cells #[.slice A4 cc.length q4, .slice AO os.length qO] 38))) hgr7 hown7 hn7.2))))); rw [← HNX.out] at h7; have H7 := Lib.hid h7; clear h7 hown7 hgr7 hn7 fY0 fY1 zY0 zY1 fYlt fX0 fX1 fX2 fX3 fX4 fX5 fX6 fXlt zX0 zX1 zX2 zX3 zX4 zX5 zX6; obtain ⟨p0, p1, p2, p3, p4, p5, p6, plt⟩ := box7 (MSt.box H7.out); obtain ⟨o0, o1, o2, o3, o4, o5, o6⟩ := box7z (MSt.box H7.out))
              have H8 := Lib.hid (H7.out.set1 6 (.slice A9 (j + 1) q9))
              exact ⟨⟨j + 1, _, _, _, by omega, by simp, H8⟩, by simp [intOf]; omega⟩
        · obtain rfl : j = t.rw.length := by omega
          rw [List.take_length] at H1
          obtain ⟨fX0, fX1, fX2, fX3, fX4, fX5, fX6, fXlt⟩ := box7 (MSt.box H1.out)
          obtain ⟨fT0, fT1, fT2, fT3, fT4, fT5, fT6, fTlt⟩ := box7 (MSt.box (MSt.nth (L1 := [_, _, _, _, _]) H1.out))
          obtain ⟨fR0, fR1, fR2, fR3, fR4, fR5, fR6, fRlt⟩ := box7 (MSt.box (MSt.nth (L1 := [_, _, _, _]) H1.out))
          obtain ⟨zR0, zR1, zR2, zR3, zR4, zR5, zR6⟩ := box7z (MSt.box (MSt.nth (L1 := [_, _, _, _]) H1.out))
          go_wp2_with fail
          obtain ⟨W7, hW, hg, y0, y1, y2, y3, y4, y5, y6⟩ := MSt.put (MSt.nth (L1 := [_, _, _, _]) H1.out) (.int .i64 5) (.int .i64 0) (.int .i64 0) (.string ⟨#[]⟩) (.slice none 0 0) (.slice AC cc.length qC) (.slice A3 t.rw.length q3)
          rw [← hW]
          refine bodyPost_ret (v := .agg #[.int .i64 5, .int .i64 0, .int .i64 0, .string ⟨#[]⟩, .slice none 0 0, .slice AC cc.length qC, .slice A3 t.rw.length q3]) (by simp [results, Tryz.results30, go_sem, y0, y1, y2, y3, y4, y5, y6]) rfl (MSt.give (MSt.tbl ((MSt.nth (L1 := [_, _, _]) ((MSt.nth (L1 := [_, _, _]) (MSt.nth (L1 := [_, _, _]) hg)).close (by rw [List.length_map]))).close0 (fun w' => OwL.strs w' cc) (by simp))))

end Go.Proofs.YtdnneilbgekccaaGreatDoor
