/-
  Texts that the proof rests on, put together: TakeS.
-/
import Derived.Test.YtabcmnlmmpbmnaaGreatMgH46
import Derived.Test.YtabcmnlmmpbmnaaGreatMgH9
import Derived.Deep.RegionLaw
/-
  The first elements, the model's. (Written by genlst.py.)
-/

namespace Go.Proofs.YtabcmnlmmpbmnaaGreat
open Go.RowKit
set_option linter.unusedVariables false
set_option linter.unusedSimpArgs false

theorem numDs_nextV (s p : Int) (k : Nat) : numDs s p (k + 1) = numDs s p k ++ [valD 1 (s + (k : Int) * p) ⟨#[]⟩ []] := numDs_next s p k

set_option maxHeartbeats 12800000 in
set_option maxRecDepth 100000 in
theorem specTake_any {a b : Dt} (ha : IsVal a) (hb : IsVal b) (hwt : a.wt + b.wt ≤ 1048576) (cs cs' : List Value) (w : World) (h : Rd w w.heap.size a cs) (h' : Rd w w.heap.size b cs') (d : Dt) (hd : Two takeD a b d) :
    Calls Tryz.prog 23 #[.agg cs.toArray, .agg cs'.toArray] w (ToA w d) := by
  have HV := Lib.hid (And.intro ha (And.intro hb (And.intro hwt (And.intro h (And.intro h' hd)))))
  obtain ⟨k, n, s, t, l, c, r, hl, hr⟩ := ha
  obtain ⟨k', n', s', t', l', c', r', hl', hr'⟩ := hb
  obtain ⟨A4, q4, A5, q5, A6, q6, rfl, -, -, -⟩ := Rd.ofValue h
  obtain ⟨A4', q4', A5', q5', A6', q6', rfl, r4', -, -⟩ := Rd.ofValue h'
  have HR := Lib.hid r4'
  simp only [List.length_map] at HV ⊢
  clear hd r4' h h' hl hr hl' hr' hwt
  have h0 := ((((MSt.start w).new 28 7 #[.int .i64 k, .int .i64 n, .int .i64 s, .string t, .slice A4 l.length q4, .slice A5 c.length q5, .slice A6 r.length q6] rfl).new 28 7 #[.int .i64 k', .int .i64 n', .int .i64 s', .string t', .slice A4' l'.length q4', .slice A5' c'.length q5', .slice A6' r'.length q6'] rfl).new 28 7 #[.int .i64 0, .int .i64 0, .int .i64 0, .string ⟨#[]⟩, .slice none 0 0, .slice none 0 0, .slice none 0 0] rfl)
  simp only [World.size_alloc] at h0
  have H0 := Lib.hid h0
  clear h0
  go_enter Tryz.func23, Tryz.ntmps23
  go_wp2_with fail
  refine (specPair_any HV.out.1 HV.out.2.1 HV.out.2.2.1 _ _ _ ((HV.out.2.2.2.1.below H0.out.bel).more H0.out.size) ((HV.out.2.2.2.2.1.below H0.out.bel).more H0.out.size)).mono ?_
  rintro e w1 ⟨⟨hok, rfl⟩ | ⟨ec, he, rfl⟩, hb⟩
  rotate_left
  · obtain rfl := HV.out.2.2.2.2.2.one (.err ec he)
    clear he
    have H1 := Lib.hid ((H0.out.later hb).new 28 7 #[.int .i64 6, .int .i64 ec, .int .i64 0, .string ⟨#[]⟩, .slice none 0 0, .slice none 0 0, .slice none 0 0] rfl)
    have hz := hb.size
    first | simp at hz | skip
    clear hb
    obtain ⟨fR0, fR1, fR2, fR3, fR4, fR5, fR6, fRlt⟩ := box7 (MSt.box (MSt.nth (L1 := [_]) H1.out))
    obtain ⟨zR0, zR1, zR2, zR3, zR4, zR5, zR6⟩ := box7z (MSt.box (MSt.nth (L1 := [_]) H1.out))
    go_wp2_with fail
    obtain ⟨W7, hW, hg, y0, y1, y2, y3, y4, y5, y6⟩ := MSt.put (MSt.nth (L1 := [_]) H1.out) (.int .i64 6) (.int .i64 ec) (.int .i64 0) (.string ⟨#[]⟩) (.slice none 0 0) (.slice none 0 0) (.slice none 0 0)
    rw [← hW]
    refine bodyPost_ret (v := .agg #[.int .i64 6, .int .i64 ec, .int .i64 0, .string ⟨#[]⟩, .slice none 0 0, .slice none 0 0, .slice none 0 0]) (by simp [results, Tryz.results23, go_sem, y0, y1, y2, y3, y4, y5, y6]) rfl (toA_flat0 rfl hg.bel)
  have hd := HV.out.2.2.2.2.2.one (.ok hok)
  obtain ⟨hf, hf2, hk1, hkk⟩ := hok
  obtain rfl : k = 1 := hk1
  have hna := numOf_fine HV.out.1 hf rfl
  unfold NumOk at hna
  simp only [Dt.nm] at hna
  have HN := Lib.hid hf2
  by_cases hneg : n < 0
  · obtain rfl : d = errD 5 := by rw [hd]; exact take_neg hneg
    clear hf hf2 hna hkk hd
    have H1 := Lib.hid ((H0.out.later hb).new 28 7 #[.int .i64 0, .int .i64 0, .int .i64 0, .string ⟨#[]⟩, .slice none 0 0, .slice none 0 0, .slice none 0 0] rfl)
    have hz := hb.size
    first | simp at hz | skip
    clear hb
    have hz1 : (1 : Int) ≤ 8 := by omega
    obtain ⟨fA0, fA1, fA2, fA3, fA4, fA5, fA6, fAlt⟩ := box7 (MSt.box (MSt.nth (L1 := [_, _, _]) H1.out))
    obtain ⟨fB0, fB1, fB2, fB3, fB4, fB5, fB6, fBlt⟩ := box7 (MSt.box (MSt.nth (L1 := [_, _]) H1.out))
    go_wp2_with fail
    refine (l1In_any n 0 8 _).mono ?_
    rintro e w9 ⟨b9, rfl, hb9, rfl⟩
    obtain rfl : b9 = false := by cases b9; rfl; exact absurd (hb9.1 rfl) (by omega)
    clear hb9
    go_wp2_with fail
    refine (specErrorValue_any 5 _).mono ?_
    rintro e w2 ⟨rfl, hb⟩
    have H2 := Lib.hid (H1.out.later hb)
    clear hb
    clear fA0 fA1 fA2 fA3 fA4 fA5 fA6 fAlt fB0 fB1 fB2 fB3 fB4 fB5 fB6 fBlt
    obtain ⟨fR0, fR1, fR2, fR3, fR4, fR5, fR6, fRlt⟩ := box7 (MSt.box (MSt.nth (L1 := [_]) H2.out))
    obtain ⟨zR0, zR1, zR2, zR3, zR4, zR5, zR6⟩ := box7z (MSt.box (MSt.nth (L1 := [_]) H2.out))
    go_wp2_with fail
    obtain ⟨W7, hW, hg, y0, y1, y2, y3, y4, y5, y6⟩ := MSt.put (MSt.nth (L1 := [_]) H2.out) (.int .i64 6) (.int .i64 5) (.int .i64 0) (.string ⟨#[]⟩) (.slice none 0 0) (.slice none 0 0) (.slice none 0 0)
    rw [← hW]
    refine bodyPost_ret (v := .agg #[.int .i64 6, .int .i64 5, .int .i64 0, .string ⟨#[]⟩, .slice none 0 0, .slice none 0 0, .slice none 0 0]) (by simp [results, Tryz.results23, go_sem, y0, y1, y2, y3, y4, y5, y6]) rfl (toA_flat0 rfl hg.bel)
  clear hf hf2
  obtain ⟨i, rfl⟩ : ∃ i : Nat, n = i := ⟨n.toNat, by omega⟩
  clear hneg
  have H1 := Lib.hid ((H0.out.later hb).new 28 7 #[.int .i64 0, .int .i64 0, .int .i64 0, .string ⟨#[]⟩, .slice none 0 0, .slice none 0 0, .slice none 0 0] rfl)
  have hz := hb.size
  first | simp at hz | skip
  clear hb
  by_cases h8 : i ≤ 8
  rotate_left
  · obtain rfl : d = errD 5 := hd.trans (take_out (by simp only [Dt.nm]; omega))
    clear hd
    obtain ⟨fA0, fA1, fA2, fA3, fA4, fA5, fA6, fAlt⟩ := box7 (MSt.box (MSt.nth (L1 := [_, _, _]) H1.out))
    obtain ⟨fB0, fB1, fB2, fB3, fB4, fB5, fB6, fBlt⟩ := box7 (MSt.box (MSt.nth (L1 := [_, _]) H1.out))
    go_wp2_with fail
    refine (l1In_any (i : Int) 0 8 _).mono ?_
    rintro e w9 ⟨b9, rfl, hb9, rfl⟩
    obtain rfl : b9 = false := by cases b9; rfl; exact absurd (hb9.1 rfl) (by omega)
    clear hb9
    go_wp2_with fail
    refine (specErrorValue_any 5 _).mono ?_
    rintro e w2 ⟨rfl, hb⟩
    have H2 := Lib.hid (H1.out.later hb)
    clear hb
    clear fA0 fA1 fA2 fA3 fA4 fA5 fA6 fAlt fB0 fB1 fB2 fB3 fB4 fB5 fB6 fBlt
    obtain ⟨fR0, fR1, fR2, fR3, fR4, fR5, fR6, fRlt⟩ := box7 (MSt.box (MSt.nth (L1 := [_]) H2.out))
    obtain ⟨zR0, zR1, zR2, zR3, zR4, zR5, zR6⟩ := box7z (MSt.box (MSt.nth (L1 := [_]) H2.out))
    go_wp2_with fail
    obtain ⟨W7, hW, hg, y0, y1, y2, y3, y4, y5, y6⟩ := MSt.put (MSt.nth (L1 := [_]) H2.out) (.int .i64 6) (.int .i64 5) (.int .i64 0) (.string ⟨#[]⟩) (.slice none 0 0) (.slice none 0 0) (.slice none 0 0)
    rw [← hW]
    refine bodyPost_ret (v := .agg #[.int .i64 6, .int .i64 5, .int .i64 0, .string ⟨#[]⟩, .slice none 0 0, .slice none 0 0, .slice none 0 0]) (by simp [results, Tryz.results23, go_sem, y0, y1, y2, y3, y4, y5, y6]) rfl (toA_flat0 rfl hg.bel)
  by_cases hl3 : k' = 3
  · subst hl3
    have hle := (lst_fine HV.out.2.1 HN.out rfl).1
    simp only [Dt.el] at hle
    clear hkk
    have hd : d = valD 3 0 ⟨#[]⟩ (l'.take i) := hd.trans (by exact take_lst (i := i) rfl h8 rfl)
    have HD := Lib.hid hd
    clear hd
    obtain ⟨fA0, fA1, fA2, fA3, fA4, fA5, fA6, fAlt⟩ := box7 (MSt.box (MSt.nth (L1 := [_, _, _]) H1.out))
    obtain ⟨fB0, fB1, fB2, fB3, fB4, fB5, fB6, fBlt⟩ := box7 (MSt.box (MSt.nth (L1 := [_, _]) H1.out))
    go_wp2_with fail
    refine (l1In_any (i : Int) 0 8 _).mono ?_
    rintro e w9 ⟨b9, rfl, hb9, rfl⟩
    obtain rfl : b9 = true := by exact hb9.2 (by omega)
    clear hb9
    go_wp2_with fail
    clear fA0 fA1 fA2 fA3 fA4 fA5 fA6 fAlt fB0 fB1 fB2 fB3 fB4 fB5 fB6 fBlt
    have h2 := (H1.out.new 28 7 #[.int .i64 3, .int .i64 0, .int .i64 0, .string ⟨#[]⟩, .slice none 0 0, .slice none 0 0, .slice none 0 0] rfl).nilRow 28 7
    simp only [World.size_alloc] at h2
    have h3 := MSt.subB (MSt.nth (L1 := [_, _]) h2) (.cons_cons _ (.cons_cons _ (.cons_cons _ (.cons _ (List.Sublist.refl _)))))
    have HS := Lib.hid h3
    clear h2 h3
    obtain ⟨wS, rfl⟩ : ∃ wo : World, wo = w1 := ⟨_, rfl⟩
    go_loopw [8] (fun p wr => ∃ (j : Nat) (v : Value) (cells : List Value) (fp : List Nat), j ≤ i ∧ j ≤ l'.length ∧ p = .int .i64 (j : Int) ∧ Hid (True) ∧ Hid (MSt w [boxA 28 7 (wS.heap.size + 1) [.int .i64 3, .int .i64 0, .int .i64 0, .string ⟨#[]⟩, v, .slice none 0 0, .slice none 0 0], rowA 28 7 v j cells, owLA (l'.take j) cells fp, boxA 28 7 (w.heap.size + 1 + 1) [.int .i64 0, .int .i64 0, .int .i64 0, .string ⟨#[]⟩, .slice none 0 0, .slice none 0 0, .slice none 0 0], boxA 28 7 (w.heap.size + 1) [.int .i64 3, .int .i64 n', .int .i64 s', .string t', .slice A4' l'.length q4', .slice A5' c'.length q5', .slice A6' r'.length q6'], boxA 28 7 (w.heap.size) [.int .i64 1, .int .i64 (i : Int), .int .i64 s, .string t, .slice A4 l.length q4, .slice A5 c.length q5, .slice A6 r.length q6]] wr)) (fun p _ => i - (intOf p).toNat)
    case atStart => exact ⟨0, _, [], [], Nat.zero_le _, Nat.zero_le _, rfl, Lib.hid trivial, HS⟩
    case round =>
      obtain ⟨j, v, cells, fp, hj, hjl, rfl, HA, H1⟩ := hrel
      obtain ⟨A3, q3, rfl⟩ := own_slice (MSt.row (MSt.nth (L1 := [_]) H1.out))
      have hws := H1.out.size
      by_cases hji : j < i
      · by_cases hend : j = l'.length
        · have hti : l'.take i = l'.take j := by rw [List.take_of_length_le (by omega), List.take_of_length_le (by omega)]
          have HD2 := Lib.hid (HD.out.trans (congrArg (valD 3 0 ⟨#[]⟩) hti))
          clear hti
          have hjj : ((j : Int) == (l'.length : Int)) = true := by simp; omega
          clear hend
          obtain ⟨fA0, fA1, fA2, fA3, fA4, fA5, fA6, fAlt⟩ := box7 (MSt.box (MSt.nth (L1 := [_, _, _, _, _]) H1.out))
          obtain ⟨fB0, fB1, fB2, fB3, fB4, fB5, fB6, fBlt⟩ := box7 (MSt.box (MSt.nth (L1 := [_, _, _, _]) H1.out))
          obtain ⟨fO0, fO1, fO2, fO3, fO4, fO5, fO6, fOlt⟩ := box7 (MSt.box H1.out)
          obtain ⟨fR0, fR1, fR2, fR3, fR4, fR5, fR6, fRlt⟩ := box7 (MSt.box (MSt.nth (L1 := [_, _, _]) H1.out))
          obtain ⟨zR0, zR1, zR2, zR3, zR4, zR5, zR6⟩ := box7z (MSt.box (MSt.nth (L1 := [_, _, _]) H1.out))
          go_wp2_with fail
          obtain ⟨W7, hW, hg, y0, y1, y2, y3, y4, y5, y6⟩ := MSt.put (MSt.nth (L1 := [_, _, _]) H1.out) (.int .i64 3) (.int .i64 0) (.int .i64 0) (.string ⟨#[]⟩) (.slice A3 j q3) (.slice none 0 0) (.slice none 0 0)
          rw [← hW]
          refine bodyPost_ret (v := .agg #[.int .i64 3, .int .i64 0, .int .i64 0, .string ⟨#[]⟩, .slice A3 j q3, .slice none 0 0, .slice none 0 0]) (by simp [results, Tryz.results23, go_sem, y0, y1, y2, y3, y4, y5, y6]) rfl (by rw [HD2.out]; exact ((MSt.nth (L1 := [_, _, _]) (MSt.nth (L1 := [_, _, _]) hg)).close (by rw [List.length_take]; omega)).list.give)
        · have hlt : j < l'.length := by omega
          have hjj : ((j : Int) == (l'.length : Int)) = false := by simp; omega
          obtain ⟨x, hx⟩ : ∃ x, x = l'[j] := ⟨_, rfl⟩
          have hxv : IsVal x := hx ▸ el_val HV.out.2.1 _ (List.getElem_mem hlt)
          have hxk : x.kd ≠ 6 := hx ▸ (el_fine HV.out.2.1 HN.out rfl _ (List.getElem_mem hlt)).2
          have hnx : l'.take (j + 1) = l'.take j ++ [x] := by rw [hx, List.take_succ_eq_append_getElem hlt]
          have htw := Two.ok (f := nthD) ⟨fine_val (s := (j : Int)) (by unfold NumOk; omega), HN.out, rfl, .inl rfl⟩
          rw [nth_in (i := j) (l := l') rfl rfl rfl hlt, ← hx] at htw
          have HT := Lib.hid (And.intro htw (And.intro hxv (And.intro hnx hxk)))
          clear htw hxv hnx hxk hx
          obtain ⟨fA0, fA1, fA2, fA3, fA4, fA5, fA6, fAlt⟩ := box7 (MSt.box (MSt.nth (L1 := [_, _, _, _, _]) H1.out))
          obtain ⟨fB0, fB1, fB2, fB3, fB4, fB5, fB6, fBlt⟩ := box7 (MSt.box (MSt.nth (L1 := [_, _, _, _]) H1.out))
          go_upto_region 12 with fail
          go_cut [9] from 41 to 45 (fun p wx => ∃ (gX : Nat) (cx : List Value) (fx : List Nat), p = .pointer (some ⟨gX, 0, none⟩) ∧ MSt w (boxA 28 7 gX cx :: owA x cx fx :: [boxA 28 7 (wS.heap.size + 1) [.int .i64 3, .int .i64 0, .int .i64 0, .string ⟨#[]⟩, (.slice A3 j q3), .slice none 0 0, .slice none 0 0], rowA 28 7 (.slice A3 j q3) j cells, owLA (l'.take j) cells fp, boxA 28 7 (w.heap.size + 1 + 1) [.int .i64 0, .int .i64 0, .int .i64 0, .string ⟨#[]⟩, .slice none 0 0, .slice none 0 0, .slice none 0 0], boxA 28 7 (w.heap.size + 1) [.int .i64 3, .int .i64 n', .int .i64 s', .string t', .slice A4' l'.length q4', .slice A5' c'.length q5', .slice A6' r'.length q6'], boxA 28 7 (w.heap.size) [.int .i64 1, .int .i64 (i : Int), .int .i64 s, .string t, .slice A4 l.length q4, .slice A5 c.length q5, .slice A6 r.length q6]]) wx)
          case first =>
            go_region_law (first
              | (
                go_simp
                go_at_call 26
                refine (specNumberValue_any (j : Int) _).mono ?_
                rintro e w2 ⟨rfl, hb⟩
                first | (have HL := Lib.hid (H1.out.drew.later hb)) | (have hx0 := (H1.out.drew.new 28 7 #[.int .i64 0, .int .i64 0, .int .i64 0, .string ⟨#[]⟩, .slice none 0 0, .slice none 0 0, .slice none 0 0] rfl).later hb; simp only [World.size_drew] at hx0; have HX := Lib.hid hx0; clear hx0) | fail
                have hws2 := hb.size
                first | simp at hws2 | skip
                clear hb
                first | have hbm := MSt.hasB HL.out (a := boxA 28 7 (w.heap.size + 1) [.int .i64 3, .int .i64 n', .int .i64 s', .string t', .slice A4' l'.length q4', .slice A5' c'.length q5', .slice A6' r'.length q6']) (by simp) | have hbm := MSt.hasB HX.out (a := boxA 28 7 (w.heap.size + 1) [.int .i64 3, .int .i64 n', .int .i64 s', .string t', .slice A4' l'.length q4', .slice A5' c'.length q5', .slice A6' r'.length q6']) (by simp) | fail
                obtain ⟨fB0, fB1, fB2, fB3, fB4, fB5, fB6, fBlt⟩ := box7 hbm
                clear hbm
                first | (have hbx := MSt.box (HX.out); obtain ⟨fX0, fX1, fX2, fX3, fX4, fX5, fX6, fXlt⟩ := box7 hbx; obtain ⟨zX0, zX1, zX2, zX3, zX4, zX5, zX6⟩ := box7z hbx; clear hbx) | skip)
              | (
                go_simp
                go_at_call 72
                first | refine (specNth_any (isVal_flatD 1 (j : Int) ⟨#[]⟩) HV.out.2.1 (by rw [wt_flatD]; have := HV.out.2.2.1; omega) _ _ _ (Rd.flat _ _ 1 (j : Int) 0 ⟨#[]⟩) ((HV.out.2.2.2.2.1.below (MSt.bel HL.out)).more (MSt.size HL.out)) x HT.out.1).mono ?_ | refine (specNth_any (isVal_flatD 1 (j : Int) ⟨#[]⟩) HV.out.2.1 (by rw [wt_flatD]; have := HV.out.2.2.1; omega) _ _ _ (Rd.flat _ _ 1 (j : Int) 0 ⟨#[]⟩) ((HV.out.2.2.2.2.1.below (MSt.bel HX.out)).more (MSt.size HX.out)) x HT.out.1).mono ?_ | refine (specNth_any (isVal_flatD 1 (j : Int) ⟨#[]⟩) HV.out.2.1 (by rw [wt_flatD]; have := HV.out.2.2.1; omega) _ _ _ (Rd.flat _ _ 1 (j : Int) 0 ⟨#[]⟩) ((HV.out.2.2.2.2.1.below (MSt.bel (HL.out.new 28 7 #[.int .i64 0, .int .i64 0, .int .i64 0, .string ⟨#[]⟩, .slice none 0 0, .slice none 0 0, .slice none 0 0] rfl))).more (MSt.size (HL.out.new 28 7 #[.int .i64 0, .int .i64 0, .int .i64 0, .string ⟨#[]⟩, .slice none 0 0, .slice none 0 0, .slice none 0 0] rfl))) x HT.out.1).mono ?_ | fail
                rintro e w3 ⟨cx, fx, rfl, how, hnf, hb⟩
                obtain ⟨xy0, xy1, xy2, xy3, xy4, xn4, xc4, xy5, xn5, xc5, xy6, xn6, xc6, rfl⟩ := IsVal.form HT.out.2.1 how.read
                first | (have HY := Lib.hid (HX.out.add hb (owA_at how hnf))) | (have HM := Lib.hid (HL.out.add hb (owA_at how hnf))) | (have HY := Lib.hid ((HL.out.new 28 7 #[.int .i64 0, .int .i64 0, .int .i64 0, .string ⟨#[]⟩, .slice none 0 0, .slice none 0 0, .slice none 0 0] rfl).add hb (owA_at how hnf))) | fail
                clear hb how hnf
                first | (have hbx := MSt.box (MSt.swap HY.out); obtain ⟨fX0, fX1, fX2, fX3, fX4, fX5, fX6, fXlt⟩ := box7 hbx; obtain ⟨zX0, zX1, zX2, zX3, zX4, zX5, zX6⟩ := box7z hbx; clear hbx) | skip)
              | fail)
            all_goals
              go_wp2_with fail
              go_meet
              refine ⟨_, [.int .i64 xy0, .int .i64 xy1, .int .i64 xy2, .string xy3, .slice xy4 xn4 xc4, .slice xy5 xn5 xc5, .slice xy6 xn6 xc6], fx, rfl, ?_⟩
              first
                | (have hg := MSt.set7 (e := 28) (MSt.swap HY.out) [.int .i64 xy0, .int .i64 xy1, .int .i64 xy2, .string xy3, .slice xy4 xn4 xc4, .slice xy5 xn5 xc5, .slice xy6 xn6 xc6] (by simp); simp only [World.setCells, Nat.zero_add, Nat.reduceAdd, World.size_drew] at hg; (with_reducible exact hg))
                | (with_reducible exact (HM.out.new 28 7 #[.int .i64 xy0, .int .i64 xy1, .int .i64 xy2, .string xy3, .slice xy4 xn4 xc4, .slice xy5 xn5 xc5, .slice xy6 xn6 xc6] rfl))
                | fail
          case rest =>
            obtain ⟨gX, cx, fx, rfl, hM⟩ := hcut
            obtain ⟨xy0, xy1, xy2, xy3, xy4, xn4, xc4, xy5, xn5, xc5, xy6, xn6, xc6, rfl⟩ := IsVal.form HT.out.2.1 (MSt.read (MSt.nth (L1 := [_]) hM))
            have hkx := (kd_cell HT.out.2.1 (MSt.read (MSt.nth (L1 := [_]) hM))).1
            have H2 := Lib.hid hM
            clear hM H1
            clear fA0 fA1 fA2 fA3 fA4 fA5 fA6 fAlt fB0 fB1 fB2 fB3 fB4 fB5 fB6 fBlt
            obtain ⟨wq, rfl⟩ : ∃ wo : World, wo = wc := ⟨_, rfl⟩
            have n6 : (xy0 == 6) = false := by have := HT.out.2.2.2; rw [hkx] at this; simpa using this
            obtain ⟨fX0, fX1, fX2, fX3, fX4, fX5, fX6, fXlt⟩ := box7 (MSt.box H2.out)
            obtain ⟨fO0, fO1, fO2, fO3, fO4, fO5, fO6, fOlt⟩ := box7 (MSt.box (MSt.nth (L1 := [_, _]) H2.out))
            obtain ⟨zO0, zO1, zO2, zO3, zO4, zO5, zO6⟩ := box7z (MSt.box (MSt.nth (L1 := [_, _]) H2.out))
            obtain ⟨fA0, fA1, fA2, fA3, fA4, fA5, fA6, fAlt⟩ := box7 (MSt.box (MSt.nth (L1 := [_, _, _, _, _, _, _]) H2.out))
            obtain ⟨fB0, fB1, fB2, fB3, fB4, fB5, fB6, fBlt⟩ := box7 (MSt.box (MSt.nth (L1 := [_, _, _, _, _, _]) H2.out))
            have hsq := H2.out.size
            go_wp2_with (at_builtin; refine appV _ rfl (.tmp 50) (.tmp 52) rfl w.heap.size _ j cells rfl ((MSt.nth (L1 := [_, _, _]) H2.out).row.alloc _) (some ⟨wq.heap.size, 0, none⟩) 1 1 (wq.heap.size + 1) [.int .i64 xy0, .int .i64 xy1, .int .i64 xy2, .string xy3, .slice xy4 xn4 xc4, .slice xy5 xn5 xc5, .slice xy6 xn6 xc6] rfl rfl (row_new wq #[.int .i64 xy0, .int .i64 xy1, .int .i64 xy2, .string xy3, .slice xy4 xn4 xc4, .slice xy5 xn5 xc5, .slice xy6 xn6 xc6] 28) (by intro u hu; simp at hu; rcases hu with rfl | rfl | rfl | rfl | rfl | rfl | rfl <;> rfl) (by omega) (by simp; omega) ?_; intro v3 w3 hown3 hgr3 hn3; obtain ⟨A9, q9, rfl⟩ := own_slice hown3; have h3 := MSt.nth (L1 := [_, _, _]) (MSt.push (MSt.nth (L1 := [_, _]) (MSt.nth (L1 := [_, _, _]) (MSt.nth (L1 := [_, _, _, _]) (((MSt.nth (L1 := [_, _, _]) H2.out).alloc (.cells #[.int .i64 xy0, .int .i64 xy1, .int .i64 xy2, .string xy3, .slice xy4 xn4 xc4, .slice xy5 xn5 xc5, .slice xy6 xn6 xc6] 28)).app hgr3 hown3 hn3.2))))); have H3 := Lib.hid h3; clear h3 hown3 hgr3 hn3; obtain ⟨p0, p1, p2, p3, p4, p5, p6, plt⟩ := box7 (MSt.box H3.out); obtain ⟨o0, o1, o2, o3, o4, o5, o6⟩ := box7z (MSt.box H3.out))
            have h4 := MSt.subB (H3.out.set1 4 (.slice A9 (j + 1) q9)) (.cons_cons _ (.cons_cons _ (.cons_cons _ (.cons _ (List.Sublist.refl _)))))
            rw [← HT.out.2.2.1] at h4
            have H4 := Lib.hid h4
            clear h4
            exact ⟨⟨j + 1, _, _, _, by omega, by omega, by simp, HA, H4⟩, by simp [intOf]; omega⟩
      · obtain rfl : j = i := by omega
        obtain ⟨fA0, fA1, fA2, fA3, fA4, fA5, fA6, fAlt⟩ := box7 (MSt.box (MSt.nth (L1 := [_, _, _, _, _]) H1.out))
        obtain ⟨fB0, fB1, fB2, fB3, fB4, fB5, fB6, fBlt⟩ := box7 (MSt.box (MSt.nth (L1 := [_, _, _, _]) H1.out))
        obtain ⟨fO0, fO1, fO2, fO3, fO4, fO5, fO6, fOlt⟩ := box7 (MSt.box H1.out)
        obtain ⟨fR0, fR1, fR2, fR3, fR4, fR5, fR6, fRlt⟩ := box7 (MSt.box (MSt.nth (L1 := [_, _, _]) H1.out))
        obtain ⟨zR0, zR1, zR2, zR3, zR4, zR5, zR6⟩ := box7z (MSt.box (MSt.nth (L1 := [_, _, _]) H1.out))
        go_wp2_with fail
        obtain ⟨W7, hW, hg, y0, y1, y2, y3, y4, y5, y6⟩ := MSt.put (MSt.nth (L1 := [_, _, _]) H1.out) (.int .i64 3) (.int .i64 0) (.int .i64 0) (.string ⟨#[]⟩) (.slice A3 j q3) (.slice none 0 0) (.slice none 0 0)
        rw [← hW]
        refine bodyPost_ret (v := .agg #[.int .i64 3, .int .i64 0, .int .i64 0, .string ⟨#[]⟩, .slice A3 j q3, .slice none 0 0, .slice none 0 0]) (by simp [results, Tryz.results23, go_sem, y0, y1, y2, y3, y4, y5, y6]) rfl (by rw [HD.out]; exact ((MSt.nth (L1 := [_, _, _]) (MSt.nth (L1 := [_, _, _]) hg)).close (by rw [List.length_take]; omega)).list.give)
  obtain rfl : k' = 4 := by rcases hkk with h | h; exact absurd h hl3; exact h
  have hst := str_fine HV.out.2.1 HN.out rfl
  unfold NumOk at hst
  simp only [Dt.nm, Dt.stp] at hst
  obtain ⟨⟨b1, b2⟩, b3, b4⟩ := hst
  clear hl3 hkk
  have hd : d = takeS n' s' i := hd.trans (by exact take_str (i := i) rfl h8 (by simp [Dt.kd]))
  have HD := Lib.hid hd
  clear hd
  obtain ⟨fA0, fA1, fA2, fA3, fA4, fA5, fA6, fAlt⟩ := box7 (MSt.box (MSt.nth (L1 := [_, _, _]) H1.out))
  obtain ⟨fB0, fB1, fB2, fB3, fB4, fB5, fB6, fBlt⟩ := box7 (MSt.box (MSt.nth (L1 := [_, _]) H1.out))
  go_wp2_with fail
  refine (l1In_any (i : Int) 0 8 _).mono ?_
  rintro e w9 ⟨b9, rfl, hb9, rfl⟩
  obtain rfl : b9 = true := by exact hb9.2 (by omega)
  clear hb9
  go_wp2_with fail
  clear fA0 fA1 fA2 fA3 fA4 fA5 fA6 fAlt fB0 fB1 fB2 fB3 fB4 fB5 fB6 fBlt
  have h2 := (H1.out.new 28 7 #[.int .i64 3, .int .i64 0, .int .i64 0, .string ⟨#[]⟩, .slice none 0 0, .slice none 0 0, .slice none 0 0] rfl).nilRow 28 7
  simp only [World.size_alloc] at h2
  have h3 := MSt.subB (MSt.nth (L1 := [_, _]) h2) (.cons_cons _ (.cons_cons _ (.cons_cons _ (.cons _ (List.Sublist.refl _)))))
  have HS := Lib.hid h3
  clear h2 h3
  obtain ⟨wS, rfl⟩ : ∃ wo : World, wo = w1 := ⟨_, rfl⟩
  go_loopw [8] (fun p wr => ∃ (j : Nat) (v : Value) (cells : List Value) (fp : List Nat), j ≤ i ∧ p = .int .i64 (j : Int) ∧ Hid (AllIn n' s' j) ∧ Hid (MSt w [boxA 28 7 (wS.heap.size + 1) [.int .i64 3, .int .i64 0, .int .i64 0, .string ⟨#[]⟩, v, .slice none 0 0, .slice none 0 0], rowA 28 7 v j cells, owLA (numDs n' s' j) cells fp, boxA 28 7 (w.heap.size + 1 + 1) [.int .i64 0, .int .i64 0, .int .i64 0, .string ⟨#[]⟩, .slice none 0 0, .slice none 0 0, .slice none 0 0], boxA 28 7 (w.heap.size + 1) [.int .i64 4, .int .i64 n', .int .i64 s', .string t', .slice A4' l'.length q4', .slice A5' c'.length q5', .slice A6' r'.length q6'], boxA 28 7 (w.heap.size) [.int .i64 1, .int .i64 (i : Int), .int .i64 s, .string t, .slice A4 l.length q4, .slice A5 c.length q5, .slice A6 r.length q6]] wr)) (fun p _ => i - (intOf p).toNat)
  case atStart => exact ⟨0, _, [], [], Nat.zero_le _, rfl, Lib.hid (allIn_zero _ _), HS⟩
  case round =>
    obtain ⟨j, v, cells, fp, hj, rfl, HA, H1⟩ := hrel
    obtain ⟨A3, q3, rfl⟩ := own_slice (MSt.row (MSt.nth (L1 := [_]) H1.out))
    have hws := H1.out.size
    by_cases hji : j < i
    · have htw := Two.ok (f := nthD) ⟨fine_val (s := (j : Int)) (by unfold NumOk; omega), HN.out, rfl, .inr rfl⟩
      rw [nth_str (by simp [valD, Dt.nm]) (by simp [Dt.kd])] at htw
      have htw : Two nthD (valD 1 (j : Int) ⟨#[]⟩ []) _ (chkD (n' + (j : Int) * s')) := htw
      have HT := Lib.hid (And.intro htw (And.intro (show IsVal (chkD (n' + (j : Int) * s')) from isVal_flatD _ _ _) trivial))
      clear htw
      obtain ⟨fA0, fA1, fA2, fA3, fA4, fA5, fA6, fAlt⟩ := box7 (MSt.box (MSt.nth (L1 := [_, _, _, _, _]) H1.out))
      obtain ⟨fB0, fB1, fB2, fB3, fB4, fB5, fB6, fBlt⟩ := box7 (MSt.box (MSt.nth (L1 := [_, _, _, _]) H1.out))
      go_upto_region 12 with fail
      go_cut [9] from 41 to 45 (fun p wx => ∃ (gX : Nat) (cx : List Value) (fx : List Nat), p = .pointer (some ⟨gX, 0, none⟩) ∧ MSt w (boxA 28 7 gX cx :: owA (chkD (n' + (j : Int) * s')) cx fx :: [boxA 28 7 (wS.heap.size + 1) [.int .i64 3, .int .i64 0, .int .i64 0, .string ⟨#[]⟩, (.slice A3 j q3), .slice none 0 0, .slice none 0 0], rowA 28 7 (.slice A3 j q3) j cells, owLA (numDs n' s' j) cells fp, boxA 28 7 (w.heap.size + 1 + 1) [.int .i64 0, .int .i64 0, .int .i64 0, .string ⟨#[]⟩, .slice none 0 0, .slice none 0 0, .slice none 0 0], boxA 28 7 (w.heap.size + 1) [.int .i64 4, .int .i64 n', .int .i64 s', .string t', .slice A4' l'.length q4', .slice A5' c'.length q5', .slice A6' r'.length q6'], boxA 28 7 (w.heap.size) [.int .i64 1, .int .i64 (i : Int), .int .i64 s, .string t, .slice A4 l.length q4, .slice A5 c.length q5, .slice A6 r.length q6]]) wx)
      case first =>
        go_region_law (first
          | (
            go_simp
            go_at_call 26
            refine (specNumberValue_any (j : Int) _).mono ?_
            rintro e w2 ⟨rfl, hb⟩
            first | (have HL := Lib.hid (H1.out.drew.later hb)) | (have hx0 := (H1.out.drew.new 28 7 #[.int .i64 0, .int .i64 0, .int .i64 0, .string ⟨#[]⟩, .slice none 0 0, .slice none 0 0, .slice none 0 0] rfl).later hb; simp only [World.size_drew] at hx0; have HX := Lib.hid hx0; clear hx0) | fail
            have hws2 := hb.size
            first | simp at hws2 | skip
            clear hb
            first | have hbm := MSt.hasB HL.out (a := boxA 28 7 (w.heap.size + 1) [.int .i64 4, .int .i64 n', .int .i64 s', .string t', .slice A4' l'.length q4', .slice A5' c'.length q5', .slice A6' r'.length q6']) (by simp) | have hbm := MSt.hasB HX.out (a := boxA 28 7 (w.heap.size + 1) [.int .i64 4, .int .i64 n', .int .i64 s', .string t', .slice A4' l'.length q4', .slice A5' c'.length q5', .slice A6' r'.length q6']) (by simp) | fail
            obtain ⟨fB0, fB1, fB2, fB3, fB4, fB5, fB6, fBlt⟩ := box7 hbm
            clear hbm
            first | (have hbx := MSt.box (HX.out); obtain ⟨fX0, fX1, fX2, fX3, fX4, fX5, fX6, fXlt⟩ := box7 hbx; obtain ⟨zX0, zX1, zX2, zX3, zX4, zX5, zX6⟩ := box7z hbx; clear hbx) | skip)
          | (
            go_simp
            go_at_call 72
            first | refine (specNth_any (isVal_flatD 1 (j : Int) ⟨#[]⟩) HV.out.2.1 (by rw [wt_flatD]; have := HV.out.2.2.1; omega) _ _ _ (Rd.flat _ _ 1 (j : Int) 0 ⟨#[]⟩) ((HV.out.2.2.2.2.1.below (MSt.bel HL.out)).more (MSt.size HL.out)) (chkD (n' + (j : Int) * s')) HT.out.1).mono ?_ | refine (specNth_any (isVal_flatD 1 (j : Int) ⟨#[]⟩) HV.out.2.1 (by rw [wt_flatD]; have := HV.out.2.2.1; omega) _ _ _ (Rd.flat _ _ 1 (j : Int) 0 ⟨#[]⟩) ((HV.out.2.2.2.2.1.below (MSt.bel HX.out)).more (MSt.size HX.out)) (chkD (n' + (j : Int) * s')) HT.out.1).mono ?_ | refine (specNth_any (isVal_flatD 1 (j : Int) ⟨#[]⟩) HV.out.2.1 (by rw [wt_flatD]; have := HV.out.2.2.1; omega) _ _ _ (Rd.flat _ _ 1 (j : Int) 0 ⟨#[]⟩) ((HV.out.2.2.2.2.1.below (MSt.bel (HL.out.new 28 7 #[.int .i64 0, .int .i64 0, .int .i64 0, .string ⟨#[]⟩, .slice none 0 0, .slice none 0 0, .slice none 0 0] rfl))).more (MSt.size (HL.out.new 28 7 #[.int .i64 0, .int .i64 0, .int .i64 0, .string ⟨#[]⟩, .slice none 0 0, .slice none 0 0, .slice none 0 0] rfl))) (chkD (n' + (j : Int) * s')) HT.out.1).mono ?_ | fail
            rintro e w3 ⟨cx, fx, rfl, how, hnf, hb⟩
            obtain ⟨xy0, xy1, xy2, xy3, xy4, xn4, xc4, xy5, xn5, xc5, xy6, xn6, xc6, rfl⟩ := IsVal.form HT.out.2.1 how.read
            first | (have HY := Lib.hid (HX.out.add hb (owA_at how hnf))) | (have HM := Lib.hid (HL.out.add hb (owA_at how hnf))) | (have HY := Lib.hid ((HL.out.new 28 7 #[.int .i64 0, .int .i64 0, .int .i64 0, .string ⟨#[]⟩, .slice none 0 0, .slice none 0 0, .slice none 0 0] rfl).add hb (owA_at how hnf))) | fail
            clear hb how hnf
            first | (have hbx := MSt.box (MSt.swap HY.out); obtain ⟨fX0, fX1, fX2, fX3, fX4, fX5, fX6, fXlt⟩ := box7 hbx; obtain ⟨zX0, zX1, zX2, zX3, zX4, zX5, zX6⟩ := box7z hbx; clear hbx) | skip)
          | fail)
        all_goals
          go_wp2_with fail
          go_meet
          refine ⟨_, [.int .i64 xy0, .int .i64 xy1, .int .i64 xy2, .string xy3, .slice xy4 xn4 xc4, .slice xy5 xn5 xc5, .slice xy6 xn6 xc6], fx, rfl, ?_⟩
          first
            | (have hg := MSt.set7 (e := 28) (MSt.swap HY.out) [.int .i64 xy0, .int .i64 xy1, .int .i64 xy2, .string xy3, .slice xy4 xn4 xc4, .slice xy5 xn5 xc5, .slice xy6 xn6 xc6] (by simp); simp only [World.setCells, Nat.zero_add, Nat.reduceAdd, World.size_drew] at hg; (with_reducible exact hg))
            | (with_reducible exact (HM.out.new 28 7 #[.int .i64 xy0, .int .i64 xy1, .int .i64 xy2, .string xy3, .slice xy4 xn4 xc4, .slice xy5 xn5 xc5, .slice xy6 xn6 xc6] rfl))
            | fail
      case rest =>
        obtain ⟨gX, cx, fx, rfl, hM⟩ := hcut
        obtain ⟨xy0, xy1, xy2, xy3, xy4, xn4, xc4, xy5, xn5, xc5, xy6, xn6, xc6, rfl⟩ := IsVal.form HT.out.2.1 (MSt.read (MSt.nth (L1 := [_]) hM))
        have hkx := (kd_cell HT.out.2.1 (MSt.read (MSt.nth (L1 := [_]) hM))).1
        have H2 := Lib.hid hM
        clear hM H1
        clear fA0 fA1 fA2 fA3 fA4 fA5 fA6 fAlt fB0 fB1 fB2 fB3 fB4 fB5 fB6 fBlt
        obtain ⟨wq, rfl⟩ : ∃ wo : World, wo = wc := ⟨_, rfl⟩
        by_cases hok : NumOk (n' + (j : Int) * s')
        rotate_left
        · obtain rfl : xy0 = 6 := by rw [← hkx, chkD_no hok]; rfl
          obtain ⟨fX0, fX1, fX2, fX3, fX4, fX5, fX6, fXlt⟩ := box7 (MSt.box H2.out)
          obtain ⟨fR0, fR1, fR2, fR3, fR4, fR5, fR6, fRlt⟩ := box7 (MSt.box (MSt.nth (L1 := [_, _, _, _, _]) H2.out))
          obtain ⟨zR0, zR1, zR2, zR3, zR4, zR5, zR6⟩ := box7z (MSt.box (MSt.nth (L1 := [_, _, _, _, _]) H2.out))
          go_wp2_with fail
          obtain ⟨W7, hW, hg, y0, y1, y2, y3, y4, y5, y6⟩ := MSt.put (MSt.nth (L1 := [_, _, _, _, _]) H2.out) (.int .i64 6) (.int .i64 xy1) (.int .i64 xy2) (.string xy3) (.slice xy4 xn4 xc4) (.slice xy5 xn5 xc5) (.slice xy6 xn6 xc6)
          rw [← hW]
          refine bodyPost_ret (v := .agg #[.int .i64 6, .int .i64 xy1, .int .i64 xy2, .string xy3, .slice xy4 xn4 xc4, .slice xy5 xn5 xc5, .slice xy6 xn6 xc6]) (by simp [results, Tryz.results23, go_sem, y0, y1, y2, y3, y4, y5, y6]) rfl (by rw [HD.out, takeS_no hji hok]; have hh := MSt.give (MSt.nth (L1 := [_, _]) hg); rw [chkD_no hok] at hh; exact hh)
        have n6 : (xy0 == 6) = false := by rw [← hkx, chkD_yes hok]; rfl
        obtain ⟨fX0, fX1, fX2, fX3, fX4, fX5, fX6, fXlt⟩ := box7 (MSt.box H2.out)
        obtain ⟨fO0, fO1, fO2, fO3, fO4, fO5, fO6, fOlt⟩ := box7 (MSt.box (MSt.nth (L1 := [_, _]) H2.out))
        obtain ⟨zO0, zO1, zO2, zO3, zO4, zO5, zO6⟩ := box7z (MSt.box (MSt.nth (L1 := [_, _]) H2.out))
        obtain ⟨fA0, fA1, fA2, fA3, fA4, fA5, fA6, fAlt⟩ := box7 (MSt.box (MSt.nth (L1 := [_, _, _, _, _, _, _]) H2.out))
        obtain ⟨fB0, fB1, fB2, fB3, fB4, fB5, fB6, fBlt⟩ := box7 (MSt.box (MSt.nth (L1 := [_, _, _, _, _, _]) H2.out))
        have hsq := H2.out.size
        go_wp2_with (at_builtin; refine appV _ rfl (.tmp 50) (.tmp 52) rfl w.heap.size _ j cells rfl ((MSt.nth (L1 := [_, _, _]) H2.out).row.alloc _) (some ⟨wq.heap.size, 0, none⟩) 1 1 (wq.heap.size + 1) [.int .i64 xy0, .int .i64 xy1, .int .i64 xy2, .string xy3, .slice xy4 xn4 xc4, .slice xy5 xn5 xc5, .slice xy6 xn6 xc6] rfl rfl (row_new wq #[.int .i64 xy0, .int .i64 xy1, .int .i64 xy2, .string xy3, .slice xy4 xn4 xc4, .slice xy5 xn5 xc5, .slice xy6 xn6 xc6] 28) (by intro u hu; simp at hu; rcases hu with rfl | rfl | rfl | rfl | rfl | rfl | rfl <;> rfl) (by omega) (by simp; omega) ?_; intro v3 w3 hown3 hgr3 hn3; obtain ⟨A9, q9, rfl⟩ := own_slice hown3; have h3 := MSt.nth (L1 := [_, _, _]) (MSt.push (MSt.nth (L1 := [_, _]) (MSt.nth (L1 := [_, _, _]) (MSt.nth (L1 := [_, _, _, _]) (((MSt.nth (L1 := [_, _, _]) H2.out).alloc (.cells #[.int .i64 xy0, .int .i64 xy1, .int .i64 xy2, .string xy3, .slice xy4 xn4 xc4, .slice xy5 xn5 xc5, .slice xy6 xn6 xc6] 28)).app hgr3 hown3 hn3.2))))); have H3 := Lib.hid h3; clear h3 hown3 hgr3 hn3; obtain ⟨p0, p1, p2, p3, p4, p5, p6, plt⟩ := box7 (MSt.box H3.out); obtain ⟨o0, o1, o2, o3, o4, o5, o6⟩ := box7z (MSt.box H3.out))
        have h4 := MSt.subB (H3.out.set1 4 (.slice A9 (j + 1) q9)) (.cons_cons _ (.cons_cons _ (.cons_cons _ (.cons _ (List.Sublist.refl _)))))
        rw [chkD_yes hok, ← numDs_nextV] at h4
        have H4 := Lib.hid h4
        clear h4
        exact ⟨⟨j + 1, _, _, _, by omega, by simp, Lib.hid (HA.out.next hok), H4⟩, by simp [intOf]; omega⟩
    · obtain rfl : j = i := by omega
      obtain ⟨fA0, fA1, fA2, fA3, fA4, fA5, fA6, fAlt⟩ := box7 (MSt.box (MSt.nth (L1 := [_, _, _, _, _]) H1.out))
      obtain ⟨fB0, fB1, fB2, fB3, fB4, fB5, fB6, fBlt⟩ := box7 (MSt.box (MSt.nth (L1 := [_, _, _, _]) H1.out))
      obtain ⟨fO0, fO1, fO2, fO3, fO4, fO5, fO6, fOlt⟩ := box7 (MSt.box H1.out)
      obtain ⟨fR0, fR1, fR2, fR3, fR4, fR5, fR6, fRlt⟩ := box7 (MSt.box (MSt.nth (L1 := [_, _, _]) H1.out))
      obtain ⟨zR0, zR1, zR2, zR3, zR4, zR5, zR6⟩ := box7z (MSt.box (MSt.nth (L1 := [_, _, _]) H1.out))
      go_wp2_with fail
      obtain ⟨W7, hW, hg, y0, y1, y2, y3, y4, y5, y6⟩ := MSt.put (MSt.nth (L1 := [_, _, _]) H1.out) (.int .i64 3) (.int .i64 0) (.int .i64 0) (.string ⟨#[]⟩) (.slice A3 j q3) (.slice none 0 0) (.slice none 0 0)
      rw [← hW]
      refine bodyPost_ret (v := .agg #[.int .i64 3, .int .i64 0, .int .i64 0, .string ⟨#[]⟩, .slice A3 j q3, .slice none 0 0, .slice none 0 0]) (by simp [results, Tryz.results23, go_sem, y0, y1, y2, y3, y4, y5, y6]) rfl (by rw [HD.out, takeS_yes HA.out]; exact ((MSt.nth (L1 := [_, _, _]) (MSt.nth (L1 := [_, _, _]) hg)).close (numDs_len _ _ _).symm).list.give)

end Go.Proofs.YtabcmnlmmpbmnaaGreat
