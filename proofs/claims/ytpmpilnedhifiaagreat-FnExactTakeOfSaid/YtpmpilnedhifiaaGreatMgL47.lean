/-
  Texts that the proof rests on, put together: TakeI.
-/
import Derived.Test.YtpmpilnedhifiaaGreatMgL46
import Derived.Deep.RegionLaw
/-
  The first elements, the program's. (Written by genlst.py.)
-/

namespace Go.Proofs.YtpmpilnedhifiaaGreat
open Go.RowKit
set_option linter.unusedVariables false
set_option linter.unusedSimpArgs false

set_option maxHeartbeats 12800000 in
set_option maxRecDepth 100000 in
theorem implTake_any {a b : Dt} (ha : IsVal a) (hb : IsVal b) (hwt : a.wt + b.wt ≤ 1048576) (cs cs' : List Value) (w : World) (h : Rd w w.heap.size a cs) (h' : Rd w w.heap.size b cs') (d : Dt) (hd : Two takeD a b d) :
    Calls Tryz.prog 37 #[.agg cs.toArray, .agg cs'.toArray] w (ToA w d) := by
  have HV := Lib.hid (And.intro ha (And.intro hb (And.intro hwt (And.intro h (And.intro h' hd)))))
  obtain ⟨k, n, s, t, l, c, r, hl, hr⟩ := ha
  obtain ⟨k', n', s', t', l', c', r', hl', hr'⟩ := hb
  obtain ⟨A4, q4, A5, q5, A6, q6, rfl, -, -, -⟩ := Rd.ofValue h
  obtain ⟨A4', q4', A5', q5', A6', q6', rfl, r4', -, -⟩ := Rd.ofValue h'
  have HR := Lib.hid r4'
  simp only [List.length_map] at HV ⊢
  clear hd r4' h h' hl hr hl' hr' hwt
  have h0 := ((((MSt.start w).new 32 7 #[.int .i64 k, .int .i64 n, .int .i64 s, .string t, .slice A4 l.length q4, .slice A5 c.length q5, .slice A6 r.length q6] rfl).new 32 7 #[.int .i64 k', .int .i64 n', .int .i64 s', .string t', .slice A4' l'.length q4', .slice A5' c'.length q5', .slice A6' r'.length q6'] rfl).new 32 7 #[.int .i64 0, .int .i64 0, .int .i64 0, .string ⟨#[]⟩, .slice none 0 0, .slice none 0 0, .slice none 0 0] rfl)
  simp only [World.size_alloc] at h0
  have H0 := Lib.hid h0
  clear h0
  go_enter Tryz.func37, Tryz.ntmps37
  go_wp2_with fail
  refine (implPair_any HV.out.1 HV.out.2.1 HV.out.2.2.1 _ _ _ ((HV.out.2.2.2.1.below H0.out.bel).more H0.out.size) ((HV.out.2.2.2.2.1.below H0.out.bel).more H0.out.size)).mono ?_
  rintro e w1 ⟨⟨hok, rfl⟩ | ⟨ec, he, rfl⟩, hb⟩
  rotate_left
  · obtain rfl := HV.out.2.2.2.2.2.errI he take_neg
    clear he
    have H1 := Lib.hid ((H0.out.later hb).new 32 7 #[.int .i64 6, .int .i64 ec, .int .i64 0, .string ⟨#[]⟩, .slice none 0 0, .slice none 0 0, .slice none 0 0] rfl)
    have hz := hb.size
    first | simp at hz | skip
    clear hb
    obtain ⟨fR0, fR1, fR2, fR3, fR4, fR5, fR6, fRlt⟩ := box7 (MSt.box (MSt.nth (L1 := [_]) H1.out))
    obtain ⟨zR0, zR1, zR2, zR3, zR4, zR5, zR6⟩ := box7z (MSt.box (MSt.nth (L1 := [_]) H1.out))
    go_wp2_with fail
    obtain ⟨W7, hW, hg, y0, y1, y2, y3, y4, y5, y6⟩ := MSt.put (MSt.nth (L1 := [_]) H1.out) (.int .i64 6) (.int .i64 ec) (.int .i64 0) (.string ⟨#[]⟩) (.slice none 0 0) (.slice none 0 0) (.slice none 0 0)
    rw [← hW]
    refine bodyPost_ret (v := .agg #[.int .i64 6, .int .i64 ec, .int .i64 0, .string ⟨#[]⟩, .slice none 0 0, .slice none 0 0, .slice none 0 0]) (by simp [results, Tryz.results37, go_sem, y0, y1, y2, y3, y4, y5, y6]) rfl (toA_flat0 rfl hg.bel)
  have hd := HV.out.2.2.2.2.2.one (.ok hok.1)
  obtain ⟨hf, hf2, hk1, hkk⟩ := hok.1
  obtain rfl : k = 1 := hk1
  have hna := numOf_fine HV.out.1 hf rfl
  unfold NumOk at hna
  simp only [Dt.nm] at hna
  have HN := Lib.hid hf2
  have hneg : ¬ n < 0 := hok.2
  clear hf hf2 hok
  obtain ⟨i, rfl⟩ : ∃ i : Nat, n = i := ⟨n.toNat, by omega⟩
  clear hneg
  have H1 := Lib.hid ((H0.out.later hb).new 32 7 #[.int .i64 0, .int .i64 0, .int .i64 0, .string ⟨#[]⟩, .slice none 0 0, .slice none 0 0, .slice none 0 0] rfl)
  have hz := hb.size
  first | simp at hz | skip
  clear hb
  by_cases h8 : i ≤ 8
  rotate_left
  · obtain rfl : d = errD 5 := hd.trans (take_out (by simp only [Dt.nm]; omega))
    have h9 : (8 : Int) < (i : Int) := by omega
    clear hd
    obtain ⟨fA0, fA1, fA2, fA3, fA4, fA5, fA6, fAlt⟩ := box7 (MSt.box (MSt.nth (L1 := [_, _, _]) H1.out))
    obtain ⟨fB0, fB1, fB2, fB3, fB4, fB5, fB6, fBlt⟩ := box7 (MSt.box (MSt.nth (L1 := [_, _]) H1.out))
    go_wp2_with fail
    refine (implErrorValue_any 5 _).mono ?_
    rintro e w2 ⟨rfl, hb⟩
    have H2 := Lib.hid (H1.out.later hb)
    clear hb
    clear fA0 fA1 fA2 fA3 fA4 fA5 fA6 fAlt fB0 fB1 fB2 fB3 fB4 fB5 fB6 fBlt
    obtain ⟨fR0, fR1, fR2, fR3, fR4, fR5, fR6, fRlt⟩ := box7 (MSt.box (MSt.nth (L1 := [_]) H2.out))
    obtain ⟨zR0, zR1, zR2, zR3, zR4, zR5, zR6⟩ := box7z (MSt.box (MSt.nth (L1 := [_]) H2.out))
    go_wp2_with fail
    obtain ⟨W7, hW, hg, y0, y1, y2, y3, y4, y5, y6⟩ := MSt.put (MSt.nth (L1 := [_]) H2.out) (.int .i64 6) (.int .i64 5) (.int .i64 0) (.string ⟨#[]⟩) (.slice none 0 0) (.slice none 0 0) (.slice none 0 0)
    rw [← hW]
    refine bodyPost_ret (v := .agg #[.int .i64 6, .int .i64 5, .int .i64 0, .string ⟨#[]⟩, .slice none 0 0, .slice none 0 0, .slice none 0 0]) (by simp [results, Tryz.results37, go_sem, y0, y1, y2, y3, y4, y5, y6]) rfl (toA_flat0 rfl hg.bel)
  have h9 : (i : Int) ≤ 8 := by omega
  by_cases hl3 : k' = 3
  · subst hl3
    have hle := (lst_fine HV.out.2.1 HN.out rfl).1
    simp only [Dt.el] at hle
    clear hkk
    obtain ⟨m, hm⟩ : ∃ m : Nat, m = min i l'.length := ⟨_, rfl⟩
    obtain rfl : d = valD 3 0 ⟨#[]⟩ (l'.take m) := by rw [← take_min hm]; exact hd.trans (by exact take_lst (i := i) rfl h8 rfl)
    have hml : m ≤ l'.length := by omega
    have hsub := HR.out.takeTo (fun x hx => (el_val HV.out.2.1 x hx).width) m hml
    have hlv : ∀ x ∈ l'.take m, IsVal x := fun x hx => el_val HV.out.2.1 x (List.mem_of_mem_take hx)
    have hlw : Dt.wt (.lst (l'.take m)) ≤ 1048576 := by have h1 := el_wt HV.out.2.1; have h2 := HV.out.2.2.1; have h3 := wts_takeL l' m; simp only [Dt.el, Dt.wt, List.length_take] at h1 h2 ⊢; omega
    have hmin : min (i : Int) (l'.length : Int) = (m : Int) := by omega
    have hln : (l'.take m).length = m := by rw [List.length_take]; omega
    have hq := HR.out.lst_len
    have hq1 : m ≤ q4' := by omega
    have hq2 : (m : Int) ≤ (q4' : Int) := by omega
    have HS := Lib.hid (And.intro hsub (And.intro hlv (And.intro hlw hln)))
    clear hd hsub hlv hlw hm hln
    obtain ⟨fA0, fA1, fA2, fA3, fA4, fA5, fA6, fAlt⟩ := box7 (MSt.box (MSt.nth (L1 := [_, _, _]) H1.out))
    obtain ⟨fB0, fB1, fB2, fB3, fB4, fB5, fB6, fBlt⟩ := box7 (MSt.box (MSt.nth (L1 := [_, _]) H1.out))
    go_wp2_with fail
    refine (implListM_any _ m HS.out.2.2.2.symm HS.out.2.1 HS.out.2.2.1 A4' q4' _ ((HS.out.1.below H1.out.bel).more H1.out.size)).mono ?_
    rintro e w2 ⟨csT, fpT, rfl, how, hnf, hb⟩
    obtain ⟨vy0, vy1, vy2, vy3, vy4, vn4, vc4, vy5, vn5, vc5, vy6, vn6, vc6, rfl⟩ := IsVal.form (isVal_valD _ _ _ _ HS.out.2.1) how.read
    have H2 := Lib.hid (H1.out.add hb (owA_at how hnf))
    clear how hnf hb
    clear fA0 fA1 fA2 fA3 fA4 fA5 fA6 fAlt fB0 fB1 fB2 fB3 fB4 fB5 fB6 fBlt
    obtain ⟨fR0, fR1, fR2, fR3, fR4, fR5, fR6, fRlt⟩ := box7 (MSt.box (MSt.nth (L1 := [_, _]) H2.out))
    obtain ⟨zR0, zR1, zR2, zR3, zR4, zR5, zR6⟩ := box7z (MSt.box (MSt.nth (L1 := [_, _]) H2.out))
    go_wp2_with fail
    obtain ⟨W7, hW, hg, y0, y1, y2, y3, y4, y5, y6⟩ := MSt.put (MSt.nth (L1 := [_, _]) H2.out) (.int .i64 vy0) (.int .i64 vy1) (.int .i64 vy2) (.string vy3) (.slice vy4 vn4 vc4) (.slice vy5 vn5 vc5) (.slice vy6 vn6 vc6)
    rw [← hW]
    refine bodyPost_ret (v := .agg #[.int .i64 vy0, .int .i64 vy1, .int .i64 vy2, .string vy3, .slice vy4 vn4 vc4, .slice vy5 vn5 vc5, .slice vy6 vn6 vc6]) (by simp [results, Tryz.results37, go_sem, y0, y1, y2, y3, y4, y5, y6]) rfl ((MSt.nth (L1 := [_]) hg).give)
  obtain rfl : k' = 4 := by rcases hkk with h | h; exact absurd h hl3; exact h
  have hst := str_fine HV.out.2.1 HN.out rfl
  unfold NumOk at hst
  simp only [Dt.nm, Dt.stp] at hst
  obtain ⟨⟨b1, b2⟩, b3, b4⟩ := hst
  clear hl3 hkk
  obtain rfl : d = takeS n' s' i := hd.trans (by exact take_str (i := i) rfl h8 (by simp [Dt.kd]))
  clear hd
  obtain ⟨fA0, fA1, fA2, fA3, fA4, fA5, fA6, fAlt⟩ := box7 (MSt.box (MSt.nth (L1 := [_, _, _]) H1.out))
  obtain ⟨fB0, fB1, fB2, fB3, fB4, fB5, fB6, fBlt⟩ := box7 (MSt.box (MSt.nth (L1 := [_, _]) H1.out))
  go_wp2_with fail
  go_region_law (first
    | (
      go_simp
      go_at_call 83
      refine (streamOf_b _ _ _ _ _ _ _ _).mono ?_
      rintro e w2 ⟨gS, rfl, ⟨fS1, fS2, fSlt⟩, hb⟩
      have H2 := Lib.hid (H1.out.drew.later hb)
      clear hb
      obtain ⟨fA0, fA1, fA2, fA3, fA4, fA5, fA6, fAlt⟩ := box7 (MSt.box (MSt.nth (L1 := [_, _, _]) H2.out)))
    | (
      go_simp
      go_at_call 85
      refine (first_any n' s' b1 b2 b3 b4 i h8 gS _ fSlt fS1 fS2).mono ?_
      rintro e w3 ⟨csT, fpT, rfl, how, hnf, hb⟩
      obtain ⟨vy0, vy1, vy2, vy3, vy4, vn4, vc4, vy5, vn5, vc5, vy6, vn6, vc6, rfl⟩ := IsVal.form (isVal_takeS _ _ _) how.read
      have H3 := Lib.hid (H2.out.add hb (owA_at how hnf))
      clear how hnf hb
      obtain ⟨fR0, fR1, fR2, fR3, fR4, fR5, fR6, fRlt⟩ := box7 (MSt.box (MSt.nth (L1 := [_, _]) H3.out))
      obtain ⟨zR0, zR1, zR2, zR3, zR4, zR5, zR6⟩ := box7z (MSt.box (MSt.nth (L1 := [_, _]) H3.out)))
    | fail)
  all_goals
    go_wp2_with fail
    obtain ⟨W7, hW, hg, y0, y1, y2, y3, y4, y5, y6⟩ := MSt.put (MSt.nth (L1 := [_, _]) H3.out) (.int .i64 vy0) (.int .i64 vy1) (.int .i64 vy2) (.string vy3) (.slice vy4 vn4 vc4) (.slice vy5 vn5 vc5) (.slice vy6 vn6 vc6)
    rw [← hW]
    refine bodyPost_ret (v := .agg #[.int .i64 vy0, .int .i64 vy1, .int .i64 vy2, .string vy3, .slice vy4 vn4 vc4, .slice vy5 vn5 vc5, .slice vy6 vn6 vc6]) (by simp [results, Tryz.results37, go_sem, y0, y1, y2, y3, y4, y5, y6]) rfl (MSt.nth (L1 := [_]) hg).give

end Go.Proofs.YtpmpilnedhifiaaGreat
