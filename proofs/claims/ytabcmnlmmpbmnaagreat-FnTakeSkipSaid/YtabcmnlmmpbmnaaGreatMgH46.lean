/-
  Texts that the proof rests on, put together: Nth, Stream, TakeI.
-/
import Derived.Test.YtabcmnlmmpbmnaaGreatMgH45
import Derived.Test.YtabcmnlmmpbmnaaGreatMgH12
import Derived.Test.YtabcmnlmmpbmnaaGreatMgH6
import Derived.Test.YtabcmnlmmpbmnaaGreatMgH19
import Derived.Deep.RegionLaw
import Derived.Test.YtabcmnlmmpbmnaaGreatMgH40
import Derived.Test.YtabcmnlmmpbmnaaGreatMgH15
import Derived.Test.YtabcmnlmmpbmnaaGreatMgH20
import Derived.Test.YtabcmnlmmpbmnaaGreatMgH7
/-
  Elements, the program's and the model's. (Written by genlst.py.)
-/

namespace Go.Proofs.YtabcmnlmmpbmnaaGreat
open Go.RowKit
set_option linter.unusedVariables false
set_option linter.unusedSimpArgs false

theorem one_wt {a : Dt} (ha : IsVal a) {i : Nat} (h : i < a.el.length) : Dt.wt (.lst [a.el[i]]) ≤ a.wt := by
  have h1 := wts_in (List.getElem_mem h)
  have h2 := el_wt ha
  simp only [Dt.wt, wts, List.length_cons, List.length_nil] at h2 ⊢
  omega

set_option maxHeartbeats 12800000 in
set_option maxRecDepth 100000 in
theorem implNth_any {a b : Dt} (ha : IsVal a) (hb : IsVal b) (hwt : a.wt + b.wt ≤ 1048576) (cs cs' : List Value) (w : World) (h : Rd w w.heap.size a cs) (h' : Rd w w.heap.size b cs') (d : Dt) (hd : Two nthD a b d) :
    Calls Tryz.prog 25 #[.agg cs.toArray, .agg cs'.toArray] w (ToA w d) := by
  have HV := Lib.hid (And.intro ha (And.intro hb (And.intro hwt (And.intro h (And.intro h' hd)))))
  obtain ⟨k, n, s, t, l, c, r, hl, hr⟩ := ha
  obtain ⟨k', n', s', t', l', c', r', hl', hr'⟩ := hb
  obtain ⟨A4, q4, A5, q5, A6, q6, rfl, -, -, -⟩ := Rd.ofValue h
  obtain ⟨A4', q4', A5', q5', A6', q6', rfl, r4', -, -⟩ := Rd.ofValue h'
  have HR := Lib.hid r4'
  simp only [List.length_map] at HV ⊢
  clear hd r4' h h' hl hr hl' hr' hwt
  have h0 := ((((MSt.start w).new 28 7 #[.int .i64 k, .int .i64 n, .int .i64 s, .string t, .slice A4 l.length q4, .slice A5 c.length q5, .slice A6 r.length q6] rfl).new 28 7 #[.int .i64 k', .int .i64 n', .int .i64 s', .string t', .slice A4' l'.length q4', .slice A5' c'.length q5', .slice A6' r'.length q6'] rfl).new 28 7 #[.int .i64 0, .int .i64 0, .int .i64 0, .string ⟨#[]⟩, .slice none 0 0, .slice none 0 0, .slice none 0 0] rfl)
  simp only [World.size_alloc] at h0
  have H0 := Lib.hid h0
  clear h0
  go_enter Tryz.func25, Tryz.ntmps25
  go_wp2_with fail
  refine (implPair_any HV.out.1 HV.out.2.1 HV.out.2.2.1 _ _ _ ((HV.out.2.2.2.1.below H0.out.bel).more H0.out.size) ((HV.out.2.2.2.2.1.below H0.out.bel).more H0.out.size)).mono ?_
  rintro e w1 ⟨⟨hok, rfl⟩ | ⟨ec, he, rfl⟩, hb⟩
  rotate_left
  · obtain rfl := HV.out.2.2.2.2.2.errI he nth_neg
    clear he
    have H1 := Lib.hid ((H0.out.later hb).new 28 7 #[.int .i64 6, .int .i64 ec, .int .i64 0, .string ⟨#[]⟩, .slice none 0 0, .slice none 0 0, .slice none 0 0] rfl)
    have hz := hb.size
    first | simp at hz | skip
    clear hb
    obtain ⟨fR0, fR1, fR2, fR3, fR4, fR5, fR6, fRlt⟩ := box7 (MSt.box (MSt.nth (L1 := [_]) H1.out))
    obtain ⟨zR0, zR1, zR2, zR3, zR4, zR5, zR6⟩ := box7z (MSt.box (MSt.nth (L1 := [_]) H1.out))
    go_wp2_with fail
    obtain ⟨W7, hW, hg, y0, y1, y2, y3, y4, y5, y6⟩ := MSt.put (MSt.nth (L1 := [_]) H1.out) (.int .i64 6) (.int .i64 ec) (.int .i64 0) (.string ⟨#[]⟩) (.slice none 0 0) (.slice none 0 0) (.slice none 0 0)
    rw [← hW]
    refine bodyPost_ret (v := .agg #[.int .i64 6, .int .i64 ec, .int .i64 0, .string ⟨#[]⟩, .slice none 0 0, .slice none 0 0, .slice none 0 0]) (by simp [results, Tryz.results25, go_sem, y0, y1, y2, y3, y4, y5, y6]) rfl (toA_flat0 rfl hg.bel)
  have hd := HV.out.2.2.2.2.2.one (.ok hok.1)
  obtain ⟨hf, hf2, hk1, hkk⟩ := hok.1
  obtain rfl : k = 1 := hk1
  have hna := numOf_fine HV.out.1 hf rfl
  unfold NumOk at hna
  simp only [Dt.nm] at hna
  have HN := Lib.hid hf2
  have hneg : ¬ n < 0 := hok.2
  clear hf hf2 hok
  obtain ⟨i, rfl⟩ : ∃ i : Nat, n = i := ⟨n.toNat, by omega⟩
  clear hneg
  have H1 := Lib.hid ((H0.out.later hb).new 28 7 #[.int .i64 0, .int .i64 0, .int .i64 0, .string ⟨#[]⟩, .slice none 0 0, .slice none 0 0, .slice none 0 0] rfl)
  have hz := hb.size
  first | simp at hz | skip
  clear hb
  by_cases hl3 : k' = 3
  · subst hl3
    have hle := (lst_fine HV.out.2.1 HN.out rfl).1
    simp only [Dt.el] at hle
    clear hkk
    by_cases hlt : i < l'.length
    · have hd : d = l'[i] := hd.trans (by exact nth_in (i := i) (l := l') rfl rfl rfl hlt)
      have hiv : IsVal d := hd ▸ el_val HV.out.2.1 _ (List.getElem_mem hlt)
      have hdw : d.wt ≤ 1048576 := by rw [hd]; have := one_wt HV.out.2.1 (i := i) hlt; have := HV.out.2.2.1; simp only [Dt.el, Dt.wt, wts] at *; omega
      obtain ⟨b, o, cs, hA, hbB, hrd, hlen, hcell⟩ := (HR.out.below H1.out.bel).at (k := 7) (fun x hx => (el_val HV.out.2.1 x hx).width) (by omega) i hlt
      subst hA
      rw [← hd] at hrd
      obtain ⟨uy0, uy1, uy2, uy3, uy4, un4, uc4, uy5, un5, uc5, uy6, un6, uc6, rfl⟩ := IsVal.form hiv hrd
      have HS := Lib.hid (And.intro hrd (And.intro hiv hdw))
      have h00 := hcell 0 (by omega)
      have h01 := hcell 1 (by omega)
      have h02 := hcell 2 (by omega)
      have h03 := hcell 3 (by omega)
      have h04 := hcell 4 (by omega)
      have h05 := hcell 5 (by omega)
      have h06 := hcell 6 (by omega)
      simp only [List.getElem?_cons_zero, List.getElem?_cons_succ, Nat.add_zero] at h00 h01 h02 h03 h04 h05 h06
      have hbl : b < w1.heap.size := by omega
      clear hrd hiv hdw hcell hlen hd hle
      obtain ⟨fA0, fA1, fA2, fA3, fA4, fA5, fA6, fAlt⟩ := box7 (MSt.box (MSt.nth (L1 := [_, _, _]) H1.out))
      obtain ⟨fB0, fB1, fB2, fB3, fB4, fB5, fB6, fBlt⟩ := box7 (MSt.box (MSt.nth (L1 := [_, _]) H1.out))
      go_wp2_with fail
      refine (cloneValue_any HS.out.2.1 HS.out.2.2 _ _ (HS.out.1.more H1.out.size)).mono ?_
      rintro e w2 ⟨csT, fpT, rfl, how, hnf, hb⟩
      obtain ⟨vy0, vy1, vy2, vy3, vy4, vn4, vc4, vy5, vn5, vc5, vy6, vn6, vc6, rfl⟩ := IsVal.form (HS.out.2.1) how.read
      have H2 := Lib.hid (H1.out.add hb (owA_at how hnf))
      clear how hnf hb
      clear h00 h01 h02 h03 h04 h05 h06 hbl
      clear fA0 fA1 fA2 fA3 fA4 fA5 fA6 fAlt fB0 fB1 fB2 fB3 fB4 fB5 fB6 fBlt
      obtain ⟨fR0, fR1, fR2, fR3, fR4, fR5, fR6, fRlt⟩ := box7 (MSt.box (MSt.nth (L1 := [_, _]) H2.out))
      obtain ⟨zR0, zR1, zR2, zR3, zR4, zR5, zR6⟩ := box7z (MSt.box (MSt.nth (L1 := [_, _]) H2.out))
      go_wp2_with fail
      obtain ⟨W7, hW, hg, y0, y1, y2, y3, y4, y5, y6⟩ := MSt.put (MSt.nth (L1 := [_, _]) H2.out) (.int .i64 vy0) (.int .i64 vy1) (.int .i64 vy2) (.string vy3) (.slice vy4 vn4 vc4) (.slice vy5 vn5 vc5) (.slice vy6 vn6 vc6)
      rw [← hW]
      refine bodyPost_ret (v := .agg #[.int .i64 vy0, .int .i64 vy1, .int .i64 vy2, .string vy3, .slice vy4 vn4 vc4, .slice vy5 vn5 vc5, .slice vy6 vn6 vc6]) (by simp [results, Tryz.results25, go_sem, y0, y1, y2, y3, y4, y5, y6]) rfl ((MSt.nth (L1 := [_]) hg).give)
    · obtain rfl : d = errD 5 := by rw [hd]; exact nth_out (i := i) rfl rfl hlt
      clear hd
      obtain ⟨fA0, fA1, fA2, fA3, fA4, fA5, fA6, fAlt⟩ := box7 (MSt.box (MSt.nth (L1 := [_, _, _]) H1.out))
      obtain ⟨fB0, fB1, fB2, fB3, fB4, fB5, fB6, fBlt⟩ := box7 (MSt.box (MSt.nth (L1 := [_, _]) H1.out))
      go_wp2_with fail
      refine (implErrorValue_any 5 _).mono ?_
      rintro e w2 ⟨rfl, hb⟩
      have H2 := Lib.hid (H1.out.later hb)
      clear hb
      clear fA0 fA1 fA2 fA3 fA4 fA5 fA6 fAlt fB0 fB1 fB2 fB3 fB4 fB5 fB6 fBlt
      obtain ⟨fR0, fR1, fR2, fR3, fR4, fR5, fR6, fRlt⟩ := box7 (MSt.box (MSt.nth (L1 := [_]) H2.out))
      obtain ⟨zR0, zR1, zR2, zR3, zR4, zR5, zR6⟩ := box7z (MSt.box (MSt.nth (L1 := [_]) H2.out))
      go_wp2_with fail
      obtain ⟨W7, hW, hg, y0, y1, y2, y3, y4, y5, y6⟩ := MSt.put (MSt.nth (L1 := [_]) H2.out) (.int .i64 6) (.int .i64 5) (.int .i64 0) (.string ⟨#[]⟩) (.slice none 0 0) (.slice none 0 0) (.slice none 0 0)
      rw [← hW]
      refine bodyPost_ret (v := .agg #[.int .i64 6, .int .i64 5, .int .i64 0, .string ⟨#[]⟩, .slice none 0 0, .slice none 0 0, .slice none 0 0]) (by simp [results, Tryz.results25, go_sem, y0, y1, y2, y3, y4, y5, y6]) rfl (toA_flat0 rfl hg.bel)
  obtain rfl : k' = 4 := by rcases hkk with h | h; exact absurd h hl3; exact h
  have hst := str_fine HV.out.2.1 HN.out rfl
  unfold NumOk at hst
  simp only [Dt.nm, Dt.stp] at hst
  obtain ⟨⟨b1, b2⟩, b3, b4⟩ := hst
  clear hl3 hkk
  obtain rfl : d = valD (chkK (n' + (i : Int) * s')) (chkN (n' + (i : Int) * s')) ⟨#[]⟩ [] := hd.trans (by exact nth_str (by simp [Dt.nm]) (by simp [Dt.kd]))
  clear hd
  obtain ⟨⟨m1, m2⟩, m3, m4⟩ := prod_bd b1 b2 b3 b4 (i := (i : Int)) (by omega) (by omega)
  obtain ⟨fA0, fA1, fA2, fA3, fA4, fA5, fA6, fAlt⟩ := box7 (MSt.box (MSt.nth (L1 := [_, _, _]) H1.out))
  obtain ⟨fB0, fB1, fB2, fB3, fB4, fB5, fB6, fBlt⟩ := box7 (MSt.box (MSt.nth (L1 := [_, _]) H1.out))
  go_wp2_with fail
  go_region_law (first
    | (
      go_simp
      go_at_call 67
      refine (streamOf_b _ _ _ _ _ _ _ _).mono ?_
      rintro e w2 ⟨gS, rfl, ⟨fS1, fS2, fSlt⟩, hb⟩
      have H2 := Lib.hid (H1.out.drew.later hb)
      clear hb
      obtain ⟨fA0, fA1, fA2, fA3, fA4, fA5, fA6, fAlt⟩ := box7 (MSt.box (MSt.nth (L1 := [_, _, _]) H2.out)))
    | (
      go_simp
      go_at_call 130
      refine (streamEl_any n' s' (i : Int) b1 b2 b3 b4 (by omega) (by omega) _ _ fSlt fS1 fS2).mono ?_
      rintro e w3 ⟨rfl, hb⟩
      have H3 := Lib.hid (H2.out.later hb)
      clear hb
      clear fS1 fS2 fSlt fA0 fA1 fA2 fA3 fA4 fA5 fA6 fAlt
      obtain ⟨fR0, fR1, fR2, fR3, fR4, fR5, fR6, fRlt⟩ := box7 (MSt.box (MSt.nth (L1 := [_]) H3.out))
      obtain ⟨zR0, zR1, zR2, zR3, zR4, zR5, zR6⟩ := box7z (MSt.box (MSt.nth (L1 := [_]) H3.out)))
    | fail)
  all_goals
    go_wp2_with fail
    obtain ⟨W7, hW, hg, y0, y1, y2, y3, y4, y5, y6⟩ := MSt.put (MSt.nth (L1 := [_]) H3.out) (.int .i64 (chkK (n' + (i : Int) * s'))) (.int .i64 (chkN (n' + (i : Int) * s'))) (.int .i64 0) (.string ⟨#[]⟩) (.slice none 0 0) (.slice none 0 0) (.slice none 0 0)
    rw [← hW]
    refine bodyPost_ret (v := .agg #[.int .i64 (chkK (n' + (i : Int) * s')), .int .i64 (chkN (n' + (i : Int) * s')), .int .i64 0, .string ⟨#[]⟩, .slice none 0 0, .slice none 0 0, .slice none 0 0]) (by simp [results, Tryz.results25, go_sem, y0, y1, y2, y3, y4, y5, y6]) rfl (toA_flat0 rfl hg.bel)

set_option maxHeartbeats 12800000 in
set_option maxRecDepth 100000 in
theorem specNth_any {a b : Dt} (ha : IsVal a) (hb : IsVal b) (hwt : a.wt + b.wt ≤ 1048576) (cs cs' : List Value) (w : World) (h : Rd w w.heap.size a cs) (h' : Rd w w.heap.size b cs') (d : Dt) (hd : Two nthD a b d) :
    Calls Tryz.prog 72 #[.agg cs.toArray, .agg cs'.toArray] w (ToA w d) := by
  have HV := Lib.hid (And.intro ha (And.intro hb (And.intro hwt (And.intro h (And.intro h' hd)))))
  obtain ⟨k, n, s, t, l, c, r, hl, hr⟩ := ha
  obtain ⟨k', n', s', t', l', c', r', hl', hr'⟩ := hb
  obtain ⟨A4, q4, A5, q5, A6, q6, rfl, -, -, -⟩ := Rd.ofValue h
  obtain ⟨A4', q4', A5', q5', A6', q6', rfl, r4', -, -⟩ := Rd.ofValue h'
  have HR := Lib.hid r4'
  simp only [List.length_map] at HV ⊢
  clear hd r4' h h' hl hr hl' hr' hwt
  have h0 := ((((MSt.start w).new 28 7 #[.int .i64 k, .int .i64 n, .int .i64 s, .string t, .slice A4 l.length q4, .slice A5 c.length q5, .slice A6 r.length q6] rfl).new 28 7 #[.int .i64 k', .int .i64 n', .int .i64 s', .string t', .slice A4' l'.length q4', .slice A5' c'.length q5', .slice A6' r'.length q6'] rfl).new 28 7 #[.int .i64 0, .int .i64 0, .int .i64 0, .string ⟨#[]⟩, .slice none 0 0, .slice none 0 0, .slice none 0 0] rfl)
  simp only [World.size_alloc] at h0
  have H0 := Lib.hid h0
  clear h0
  go_enter Tryz.func72, Tryz.ntmps72
  go_wp2_with fail
  refine (specPair_any HV.out.1 HV.out.2.1 HV.out.2.2.1 _ _ _ ((HV.out.2.2.2.1.below H0.out.bel).more H0.out.size) ((HV.out.2.2.2.2.1.below H0.out.bel).more H0.out.size)).mono ?_
  rintro e w1 ⟨⟨hok, rfl⟩ | ⟨ec, he, rfl⟩, hb⟩
  rotate_left
  · obtain rfl := HV.out.2.2.2.2.2.one (.err ec he)
    clear he
    have H1 := Lib.hid ((H0.out.later hb).new 28 7 #[.int .i64 6, .int .i64 ec, .int .i64 0, .string ⟨#[]⟩, .slice none 0 0, .slice none 0 0, .slice none 0 0] rfl)
    have hz := hb.size
    first | simp at hz | skip
    clear hb
    obtain ⟨fR0, fR1, fR2, fR3, fR4, fR5, fR6, fRlt⟩ := box7 (MSt.box (MSt.nth (L1 := [_]) H1.out))
    obtain ⟨zR0, zR1, zR2, zR3, zR4, zR5, zR6⟩ := box7z (MSt.box (MSt.nth (L1 := [_]) H1.out))
    go_wp2_with fail
    obtain ⟨W7, hW, hg, y0, y1, y2, y3, y4, y5, y6⟩ := MSt.put (MSt.nth (L1 := [_]) H1.out) (.int .i64 6) (.int .i64 ec) (.int .i64 0) (.string ⟨#[]⟩) (.slice none 0 0) (.slice none 0 0) (.slice none 0 0)
    rw [← hW]
    refine bodyPost_ret (v := .agg #[.int .i64 6, .int .i64 ec, .int .i64 0, .string ⟨#[]⟩, .slice none 0 0, .slice none 0 0, .slice none 0 0]) (by simp [results, Tryz.results72, go_sem, y0, y1, y2, y3, y4, y5, y6]) rfl (toA_flat0 rfl hg.bel)
  have hd := HV.out.2.2.2.2.2.one (.ok hok)
  obtain ⟨hf, hf2, hk1, hkk⟩ := hok
  obtain rfl : k = 1 := hk1
  have hna := numOf_fine HV.out.1 hf rfl
  unfold NumOk at hna
  simp only [Dt.nm] at hna
  have HN := Lib.hid hf2
  by_cases hneg : n < 0
  · obtain rfl : d = errD 5 := by rw [hd]; exact nth_neg hneg
    clear hf hf2 hna hkk hd
    have H1 := Lib.hid ((H0.out.later hb).new 28 7 #[.int .i64 0, .int .i64 0, .int .i64 0, .string ⟨#[]⟩, .slice none 0 0, .slice none 0 0, .slice none 0 0] rfl)
    have hz := hb.size
    first | simp at hz | skip
    clear hb
    have hz1 : (1 : Int) ≤ 8 := by omega
    obtain ⟨fA0, fA1, fA2, fA3, fA4, fA5, fA6, fAlt⟩ := box7 (MSt.box (MSt.nth (L1 := [_, _, _]) H1.out))
    obtain ⟨fB0, fB1, fB2, fB3, fB4, fB5, fB6, fBlt⟩ := box7 (MSt.box (MSt.nth (L1 := [_, _]) H1.out))
    go_wp2_with fail
    refine (specErrorValue_any 5 _).mono ?_
    rintro e w2 ⟨rfl, hb⟩
    have H2 := Lib.hid (H1.out.later hb)
    clear hb
    clear fA0 fA1 fA2 fA3 fA4 fA5 fA6 fAlt fB0 fB1 fB2 fB3 fB4 fB5 fB6 fBlt
    obtain ⟨fR0, fR1, fR2, fR3, fR4, fR5, fR6, fRlt⟩ := box7 (MSt.box (MSt.nth (L1 := [_]) H2.out))
    obtain ⟨zR0, zR1, zR2, zR3, zR4, zR5, zR6⟩ := box7z (MSt.box (MSt.nth (L1 := [_]) H2.out))
    go_wp2_with fail
    obtain ⟨W7, hW, hg, y0, y1, y2, y3, y4, y5, y6⟩ := MSt.put (MSt.nth (L1 := [_]) H2.out) (.int .i64 6) (.int .i64 5) (.int .i64 0) (.string ⟨#[]⟩) (.slice none 0 0) (.slice none 0 0) (.slice none 0 0)
    rw [← hW]
    refine bodyPost_ret (v := .agg #[.int .i64 6, .int .i64 5, .int .i64 0, .string ⟨#[]⟩, .slice none 0 0, .slice none 0 0, .slice none 0 0]) (by simp [results, Tryz.results72, go_sem, y0, y1, y2, y3, y4, y5, y6]) rfl (toA_flat0 rfl hg.bel)
  clear hf hf2
  obtain ⟨i, rfl⟩ : ∃ i : Nat, n = i := ⟨n.toNat, by omega⟩
  clear hneg
  have H1 := Lib.hid ((H0.out.later hb).new 28 7 #[.int .i64 0, .int .i64 0, .int .i64 0, .string ⟨#[]⟩, .slice none 0 0, .slice none 0 0, .slice none 0 0] rfl)
  have hz := hb.size
  first | simp at hz | skip
  clear hb
  by_cases hl3 : k' = 3
  · subst hl3
    have hle := (lst_fine HV.out.2.1 HN.out rfl).1
    simp only [Dt.el] at hle
    clear hkk
    by_cases hlt : i < l'.length
    · have hd : d = l'[i] := hd.trans (by exact nth_in (i := i) (l := l') rfl rfl rfl hlt)
      have hiv : IsVal d := hd ▸ el_val HV.out.2.1 _ (List.getElem_mem hlt)
      have hdw : d.wt ≤ 1048576 := by rw [hd]; have := one_wt HV.out.2.1 (i := i) hlt; have := HV.out.2.2.1; simp only [Dt.el, Dt.wt, wts] at *; omega
      obtain ⟨b, o, cs, hA, hbB, hrd, hlen, hcell⟩ := (HR.out.below H1.out.bel).at (k := 7) (fun x hx => (el_val HV.out.2.1 x hx).width) (by omega) i hlt
      subst hA
      rw [← hd] at hrd
      obtain ⟨uy0, uy1, uy2, uy3, uy4, un4, uc4, uy5, un5, uc5, uy6, un6, uc6, rfl⟩ := IsVal.form hiv hrd
      have HS := Lib.hid (And.intro hrd (And.intro hiv hdw))
      have h00 := hcell 0 (by omega)
      have h01 := hcell 1 (by omega)
      have h02 := hcell 2 (by omega)
      have h03 := hcell 3 (by omega)
      have h04 := hcell 4 (by omega)
      have h05 := hcell 5 (by omega)
      have h06 := hcell 6 (by omega)
      simp only [List.getElem?_cons_zero, List.getElem?_cons_succ, Nat.add_zero] at h00 h01 h02 h03 h04 h05 h06
      have hbl : b < w1.heap.size := by omega
      clear hrd hiv hdw hcell hlen hd hle
      obtain ⟨fA0, fA1, fA2, fA3, fA4, fA5, fA6, fAlt⟩ := box7 (MSt.box (MSt.nth (L1 := [_, _, _]) H1.out))
      obtain ⟨fB0, fB1, fB2, fB3, fB4, fB5, fB6, fBlt⟩ := box7 (MSt.box (MSt.nth (L1 := [_, _]) H1.out))
      go_wp2_with fail
      refine (l3Copy_any HS.out.2.1 HS.out.2.2 _ _ (HS.out.1.more H1.out.size)).mono ?_
      rintro e w2 ⟨csT, fpT, rfl, how, hnf, hb⟩
      obtain ⟨vy0, vy1, vy2, vy3, vy4, vn4, vc4, vy5, vn5, vc5, vy6, vn6, vc6, rfl⟩ := IsVal.form (HS.out.2.1) how.read
      have H2 := Lib.hid (H1.out.add hb (owA_at how hnf))
      clear how hnf hb
      clear h00 h01 h02 h03 h04 h05 h06 hbl
      clear fA0 fA1 fA2 fA3 fA4 fA5 fA6 fAlt fB0 fB1 fB2 fB3 fB4 fB5 fB6 fBlt
      obtain ⟨fR0, fR1, fR2, fR3, fR4, fR5, fR6, fRlt⟩ := box7 (MSt.box (MSt.nth (L1 := [_, _]) H2.out))
      obtain ⟨zR0, zR1, zR2, zR3, zR4, zR5, zR6⟩ := box7z (MSt.box (MSt.nth (L1 := [_, _]) H2.out))
      go_wp2_with fail
      obtain ⟨W7, hW, hg, y0, y1, y2, y3, y4, y5, y6⟩ := MSt.put (MSt.nth (L1 := [_, _]) H2.out) (.int .i64 vy0) (.int .i64 vy1) (.int .i64 vy2) (.string vy3) (.slice vy4 vn4 vc4) (.slice vy5 vn5 vc5) (.slice vy6 vn6 vc6)
      rw [← hW]
      refine bodyPost_ret (v := .agg #[.int .i64 vy0, .int .i64 vy1, .int .i64 vy2, .string vy3, .slice vy4 vn4 vc4, .slice vy5 vn5 vc5, .slice vy6 vn6 vc6]) (by simp [results, Tryz.results72, go_sem, y0, y1, y2, y3, y4, y5, y6]) rfl ((MSt.nth (L1 := [_]) hg).give)
    · obtain rfl : d = errD 5 := by rw [hd]; exact nth_out (i := i) rfl rfl hlt
      clear hd
      obtain ⟨fA0, fA1, fA2, fA3, fA4, fA5, fA6, fAlt⟩ := box7 (MSt.box (MSt.nth (L1 := [_, _, _]) H1.out))
      obtain ⟨fB0, fB1, fB2, fB3, fB4, fB5, fB6, fBlt⟩ := box7 (MSt.box (MSt.nth (L1 := [_, _]) H1.out))
      go_wp2_with fail
      refine (specErrorValue_any 5 _).mono ?_
      rintro e w2 ⟨rfl, hb⟩
      have H2 := Lib.hid (H1.out.later hb)
      clear hb
      clear fA0 fA1 fA2 fA3 fA4 fA5 fA6 fAlt fB0 fB1 fB2 fB3 fB4 fB5 fB6 fBlt
      obtain ⟨fR0, fR1, fR2, fR3, fR4, fR5, fR6, fRlt⟩ := box7 (MSt.box (MSt.nth (L1 := [_]) H2.out))
      obtain ⟨zR0, zR1, zR2, zR3, zR4, zR5, zR6⟩ := box7z (MSt.box (MSt.nth (L1 := [_]) H2.out))
      go_wp2_with fail
      obtain ⟨W7, hW, hg, y0, y1, y2, y3, y4, y5, y6⟩ := MSt.put (MSt.nth (L1 := [_]) H2.out) (.int .i64 6) (.int .i64 5) (.int .i64 0) (.string ⟨#[]⟩) (.slice none 0 0) (.slice none 0 0) (.slice none 0 0)
      rw [← hW]
      refine bodyPost_ret (v := .agg #[.int .i64 6, .int .i64 5, .int .i64 0, .string ⟨#[]⟩, .slice none 0 0, .slice none 0 0, .slice none 0 0]) (by simp [results, Tryz.results72, go_sem, y0, y1, y2, y3, y4, y5, y6]) rfl (toA_flat0 rfl hg.bel)
  obtain rfl : k' = 4 := by rcases hkk with h | h; exact absurd h hl3; exact h
  have hst := str_fine HV.out.2.1 HN.out rfl
  unfold NumOk at hst
  simp only [Dt.nm, Dt.stp] at hst
  obtain ⟨⟨b1, b2⟩, b3, b4⟩ := hst
  clear hl3 hkk
  obtain rfl : d = valD (chkK (n' + (i : Int) * s')) (chkN (n' + (i : Int) * s')) ⟨#[]⟩ [] := hd.trans (by exact nth_str (by simp [Dt.nm]) (by simp [Dt.kd]))
  clear hd
  obtain ⟨⟨m1, m2⟩, m3, m4⟩ := prod_bd b1 b2 b3 b4 (i := (i : Int)) (by omega) (by omega)
  obtain ⟨fA0, fA1, fA2, fA3, fA4, fA5, fA6, fAlt⟩ := box7 (MSt.box (MSt.nth (L1 := [_, _, _]) H1.out))
  obtain ⟨fB0, fB1, fB2, fB3, fB4, fB5, fB6, fBlt⟩ := box7 (MSt.box (MSt.nth (L1 := [_, _]) H1.out))
  go_wp2_with fail
  refine (specChecked_any (n' + (i : Int) * s') _).mono ?_
  rintro e w2 ⟨rfl, hb⟩
  have H2 := Lib.hid (H1.out.later hb)
  clear hb
  clear fA0 fA1 fA2 fA3 fA4 fA5 fA6 fAlt fB0 fB1 fB2 fB3 fB4 fB5 fB6 fBlt
  obtain ⟨fR0, fR1, fR2, fR3, fR4, fR5, fR6, fRlt⟩ := box7 (MSt.box (MSt.nth (L1 := [_]) H2.out))
  obtain ⟨zR0, zR1, zR2, zR3, zR4, zR5, zR6⟩ := box7z (MSt.box (MSt.nth (L1 := [_]) H2.out))
  go_wp2_with fail
  obtain ⟨W7, hW, hg, y0, y1, y2, y3, y4, y5, y6⟩ := MSt.put (MSt.nth (L1 := [_]) H2.out) (.int .i64 (chkK (n' + (i : Int) * s'))) (.int .i64 (chkN (n' + (i : Int) * s'))) (.int .i64 0) (.string ⟨#[]⟩) (.slice none 0 0) (.slice none 0 0) (.slice none 0 0)
  rw [← hW]
  refine bodyPost_ret (v := .agg #[.int .i64 (chkK (n' + (i : Int) * s')), .int .i64 (chkN (n' + (i : Int) * s')), .int .i64 0, .string ⟨#[]⟩, .slice none 0 0, .slice none 0 0, .slice none 0 0]) (by simp [results, Tryz.results72, go_sem, y0, y1, y2, y3, y4, y5, y6]) rfl (toA_flat0 rfl hg.bel)

end Go.Proofs.YtabcmnlmmpbmnaaGreat

/-
  The first elements of a stream. (Written by genlst.py.)
-/

namespace Go.Proofs.YtabcmnlmmpbmnaaGreat
open Go.RowKit
set_option linter.unusedVariables false
set_option linter.unusedSimpArgs false

theorem streamEl_yes (n p i : Int) (h1 : -1000000000 ≤ n) (h2 : n ≤ 1000000000) (h3 : -1000000000 ≤ p) (h4 : p ≤ 1000000000) (h5 : 0 ≤ i) (h6 : i ≤ 1000000000) (hk : NumOk (n + i * p)) (g : Nat) (w : World) (hg : g < w.heap.size) (hn : w.cell? ⟨g, 1, none⟩ = some (.int .i64 n)) (hp : w.cell? ⟨g, 2, none⟩ = some (.int .i64 p)) :
    Calls Tryz.prog 130 #[.int .i64 i, .pointer (some ⟨g, 0, none⟩)] w fun e w' => e = .returned (.agg #[.int .i64 1, .int .i64 (n + i * p), .int .i64 0, .string ⟨#[]⟩, .slice none 0 0, .slice none 0 0, .slice none 0 0]) ∧ Below w.heap.size w w' := by
  have h := streamEl_any n p i h1 h2 h3 h4 h5 h6 g w hg hn hp
  rwa [(chk_yes hk).1, (chk_yes hk).2] at h
theorem streamEl_no (n p i : Int) (h1 : -1000000000 ≤ n) (h2 : n ≤ 1000000000) (h3 : -1000000000 ≤ p) (h4 : p ≤ 1000000000) (h5 : 0 ≤ i) (h6 : i ≤ 1000000000) (hk : ¬ NumOk (n + i * p)) (g : Nat) (w : World) (hg : g < w.heap.size) (hn : w.cell? ⟨g, 1, none⟩ = some (.int .i64 n)) (hp : w.cell? ⟨g, 2, none⟩ = some (.int .i64 p)) :
    Calls Tryz.prog 130 #[.int .i64 i, .pointer (some ⟨g, 0, none⟩)] w fun e w' => e = .returned (.agg #[.int .i64 6, .int .i64 5, .int .i64 0, .string ⟨#[]⟩, .slice none 0 0, .slice none 0 0, .slice none 0 0]) ∧ Below w.heap.size w w' := by
  have h := streamEl_any n p i h1 h2 h3 h4 h5 h6 g w hg hn hp
  rwa [(chk_no hk).1, (chk_no hk).2] at h
theorem implListM_any (l : List Dt) (n : Nat) (hn : n = l.length) (hl : ∀ x ∈ l, IsVal x) (hwt : Dt.wt (.lst l) ≤ 1048576) (A4 : Option Addr) (c4 : Nat) (w : World) (h : Rd w w.heap.size (.lst l) [.slice A4 n c4]) :
    Calls Tryz.prog 69 #[.slice A4 n c4] w (ToA w (valD 3 0 ⟨#[]⟩ l)) := by
  subst hn
  exact implList_any l hl hwt A4 c4 w h
theorem specListM_any (l : List Dt) (n : Nat) (hn : n = l.length) (hl : ∀ x ∈ l, IsVal x) (hwt : Dt.wt (.lst l) ≤ 1048576) (A4 : Option Addr) (c4 : Nat) (w : World) (h : Rd w w.heap.size (.lst l) [.slice A4 n c4]) :
    Calls Tryz.prog 73 #[.slice A4 n c4] w (ToA w (valD 3 0 ⟨#[]⟩ l)) := by
  subst hn
  exact specList_any l hl hwt A4 c4 w h
set_option maxHeartbeats 1600000 in
set_option maxRecDepth 100000 in
theorem first_any (n p : Int) (h1 : -1000000000 ≤ n) (h2 : n ≤ 1000000000) (h3 : -1000000000 ≤ p) (h4 : p ≤ 1000000000) (k : Nat) (hk : k ≤ 8) (g : Nat) (w : World) (hg : g < w.heap.size) (hn : w.cell? ⟨g, 1, none⟩ = some (.int .i64 n)) (hp : w.cell? ⟨g, 2, none⟩ = some (.int .i64 p)) :
    Calls Tryz.prog 68 #[.func (.func 130) #[] #[.pointer (some ⟨g, 0, none⟩)], .int .i64 (k : Int)] w (ToA w (takeS n p k)) := by
  have HC := Lib.hid (And.intro hn hp)
  have h0 := ((MSt.start w).new 28 7 #[.int .i64 0, .int .i64 0, .int .i64 0, .string ⟨#[]⟩, .slice none 0 0, .slice none 0 0, .slice none 0 0] rfl).nilRow0 28 7
  have H0 := Lib.hid h0
  clear h0 hn hp
  go_enter Tryz.func68, Tryz.ntmps68
  go_wp2_with fail
  go_loopw [5, 9] (fun v i wr => ∃ j : Nat, j ≤ k ∧ i = .int .i64 (j : Int) ∧ Hid (AllIn n p j) ∧ Hid (MSt w [rowA 28 7 v j (numV (seqN n p j)), boxA 28 7 w.heap.size [.int .i64 0, .int .i64 0, .int .i64 0, .string ⟨#[]⟩, .slice none 0 0, .slice none 0 0, .slice none 0 0]] wr)) (fun _ i _ => k - (intOf i).toNat)
  case atStart => exact ⟨0, Nat.zero_le _, rfl, Lib.hid (allIn_zero n p), H0⟩
  case round =>
    obtain ⟨j, hj, rfl, HA, H1⟩ := hrel
    have c1 := (H1.out.bel.cell (p := ⟨g, 1, none⟩) hg).trans HC.out.1
    have c2 := (H1.out.bel.cell (p := ⟨g, 2, none⟩) hg).trans HC.out.2
    have hgr : g < wr.heap.size := by have := H1.out.size; omega
    have hsz := H1.out.size
    obtain ⟨A3, q3, rfl⟩ := own_slice H1.out.row
    by_cases hlt : j < k
    · by_cases hok : NumOk (n + (j : Int) * p)
      · go_wp2_with fail
        refine (streamEl_yes n p (j : Int) h1 h2 h3 h4 (by omega) (by omega) hok g wr hgr c1 c2).mono ?_
        rintro e w2 ⟨rfl, hb⟩
        have H2 := Lib.hid (H1.out.later hb)
        clear hb c1 c2
        have hs2 := H2.out.size
        go_wp2_with (at_builtin; refine appV _ rfl (.tmp 19) (.tmp 21) rfl w.heap.size _ j (numV (seqN n p j)) rfl ((H2.out.row.alloc _).alloc _) (some ⟨w2.heap.size + 1, 0, none⟩) 1 1 (w2.heap.size + 1 + 1) (flatV 1 (n + (j : Int) * p) 0 ⟨#[]⟩) rfl rfl (by have := row_new (w2.alloc (.cells (flatV 1 (n + (j : Int) * p) 0 ⟨#[]⟩).toArray 28)) (flatV 1 (n + (j : Int) * p) 0 ⟨#[]⟩).toArray 28; simp only [World.size_alloc] at this; exact this) (flat_one _ _ _ _) (by omega) (by simp; omega) ?_; intro v3 w3 hown3 hgr3 hn3)
        have h3 := (((H2.out.alloc (.cells (flatV 1 (n + (j : Int) * p) 0 ⟨#[]⟩).toArray 28)).alloc (.cells (flatV 1 (n + (j : Int) * p) 0 ⟨#[]⟩).toArray 28)).app hgr3 hown3 hn3.2)
        rw [← numV_seq] at h3
        have H3 := Lib.hid h3
        clear h3 hown3 hgr3 hn3
        exact ⟨⟨j + 1, by omega, by simp, Lib.hid (HA.out.next hok), H3⟩, by simp [intOf]; omega⟩
      · go_wp2_with fail
        refine (streamEl_no n p (j : Int) h1 h2 h3 h4 (by omega) (by omega) hok g wr hgr c1 c2).mono ?_
        rintro e w2 ⟨rfl, hb⟩
        have H2 := Lib.hid ((H1.out.later hb).new 28 7 #[.int .i64 6, .int .i64 5, .int .i64 0, .string ⟨#[]⟩, .slice none 0 0, .slice none 0 0, .slice none 0 0] rfl)
        have hz := hb.size
        first | simp at hz | skip
        clear hb
        obtain ⟨fR0, fR1, fR2, fR3, fR4, fR5, fR6, fRlt⟩ := box7 (MSt.box (MSt.nth (L1 := [_, _]) H2.out))
        obtain ⟨zR0, zR1, zR2, zR3, zR4, zR5, zR6⟩ := box7z (MSt.box (MSt.nth (L1 := [_, _]) H2.out))
        go_wp2_with fail
        obtain ⟨W7, hW, hg, y0, y1, y2, y3, y4, y5, y6⟩ := MSt.put (MSt.nth (L1 := [_, _]) H2.out) (.int .i64 6) (.int .i64 5) (.int .i64 0) (.string ⟨#[]⟩) (.slice none 0 0) (.slice none 0 0) (.slice none 0 0)
        rw [← hW]
        refine bodyPost_ret (v := .agg #[.int .i64 6, .int .i64 5, .int .i64 0, .string ⟨#[]⟩, .slice none 0 0, .slice none 0 0, .slice none 0 0]) (by simp [results, Tryz.results68, go_sem, y0, y1, y2, y3, y4, y5, y6]) rfl (by rw [takeS_no hlt hok]; exact toA_flat0 rfl hg.bel)
    · obtain rfl : j = k := by omega
      have hv := H1.out.close0 (xs := numDs n p j) (fun w' => ow_seq w' n p j) (numDs_len n p j).symm
      have H2 := Lib.hid hv
      clear hv H1 c1 c2
      go_wp2_with fail
      refine (implListM_any (numDs n p j) j (numDs_len n p j).symm (numDs_val n p j) (by simp only [Dt.wt, numDs_len, wts_numDs]; omega) A3 q3 _ H2.out.read).mono ?_
      rintro e w3 ⟨csT, fpT, rfl, how, hnf, hb⟩
      obtain ⟨ty0, ty1, ty2, ty3, ty4, tn4, tc4, ty5, tn5, tc5, ty6, tn6, tc6, rfl⟩ := IsVal.form (isVal_valD _ _ _ _ (numDs_val n p j)) how.read
      have H3 := Lib.hid (H2.out.add hb (owA_at how hnf))
      clear how hnf hb
      obtain ⟨fR0, fR1, fR2, fR3, fR4, fR5, fR6, fRlt⟩ := box7 (MSt.box (MSt.nth (L1 := [_, _]) H3.out))
      obtain ⟨zR0, zR1, zR2, zR3, zR4, zR5, zR6⟩ := box7z (MSt.box (MSt.nth (L1 := [_, _]) H3.out))
      go_wp2_with fail
      obtain ⟨W7, hW, hg, y0, y1, y2, y3, y4, y5, y6⟩ := MSt.put (MSt.nth (L1 := [_, _]) H3.out) (.int .i64 ty0) (.int .i64 ty1) (.int .i64 ty2) (.string ty3) (.slice ty4 tn4 tc4) (.slice ty5 tn5 tc5) (.slice ty6 tn6 tc6)
      rw [← hW]
      refine bodyPost_ret (v := .agg #[.int .i64 ty0, .int .i64 ty1, .int .i64 ty2, .string ty3, .slice ty4 tn4 tc4, .slice ty5 tn5 tc5, .slice ty6 tn6 tc6]) (by simp [results, Tryz.results68, go_sem, y0, y1, y2, y3, y4, y5, y6]) rfl (by rw [takeS_yes HA.out]; exact (MSt.nth (L1 := [_]) hg).give)

end Go.Proofs.YtabcmnlmmpbmnaaGreat

/-
  The first elements, the program's. (Written by genlst.py.)
-/

namespace Go.Proofs.YtabcmnlmmpbmnaaGreat
open Go.RowKit
set_option linter.unusedVariables false
set_option linter.unusedSimpArgs false

set_option maxHeartbeats 12800000 in
set_option maxRecDepth 100000 in
theorem implTake_any {a b : Dt} (ha : IsVal a) (hb : IsVal b) (hwt : a.wt + b.wt ≤ 1048576) (cs cs' : List Value) (w : World) (h : Rd w w.heap.size a cs) (h' : Rd w w.heap.size b cs') (d : Dt) (hd : Two takeD a b d) :
    Calls Tryz.prog 21 #[.agg cs.toArray, .agg cs'.toArray] w (ToA w d) := by
  have HV := Lib.hid (And.intro ha (And.intro hb (And.intro hwt (And.intro h (And.intro h' hd)))))
  obtain ⟨k, n, s, t, l, c, r, hl, hr⟩ := ha
  obtain ⟨k', n', s', t', l', c', r', hl', hr'⟩ := hb
  obtain ⟨A4, q4, A5, q5, A6, q6, rfl, -, -, -⟩ := Rd.ofValue h
  obtain ⟨A4', q4', A5', q5', A6', q6', rfl, r4', -, -⟩ := Rd.ofValue h'
  have HR := Lib.hid r4'
  simp only [List.length_map] at HV ⊢
  clear hd r4' h h' hl hr hl' hr' hwt
  have h0 := ((((MSt.start w).new 28 7 #[.int .i64 k, .int .i64 n, .int .i64 s, .string t, .slice A4 l.length q4, .slice A5 c.length q5, .slice A6 r.length q6] rfl).new 28 7 #[.int .i64 k', .int .i64 n', .int .i64 s', .string t', .slice A4' l'.length q4', .slice A5' c'.length q5', .slice A6' r'.length q6'] rfl).new 28 7 #[.int .i64 0, .int .i64 0, .int .i64 0, .string ⟨#[]⟩, .slice none 0 0, .slice none 0 0, .slice none 0 0] rfl)
  simp only [World.size_alloc] at h0
  have H0 := Lib.hid h0
  clear h0
  go_enter Tryz.func21, Tryz.ntmps21
  go_wp2_with fail
  refine (implPair_any HV.out.1 HV.out.2.1 HV.out.2.2.1 _ _ _ ((HV.out.2.2.2.1.below H0.out.bel).more H0.out.size) ((HV.out.2.2.2.2.1.below H0.out.bel).more H0.out.size)).mono ?_
  rintro e w1 ⟨⟨hok, rfl⟩ | ⟨ec, he, rfl⟩, hb⟩
  rotate_left
  · obtain rfl := HV.out.2.2.2.2.2.errI he take_neg
    clear he
    have H1 := Lib.hid ((H0.out.later hb).new 28 7 #[.int .i64 6, .int .i64 ec, .int .i64 0, .string ⟨#[]⟩, .slice none 0 0, .slice none 0 0, .slice none 0 0] rfl)
    have hz := hb.size
    first | simp at hz | skip
    clear hb
    obtain ⟨fR0, fR1, fR2, fR3, fR4, fR5, fR6, fRlt⟩ := box7 (MSt.box (MSt.nth (L1 := [_]) H1.out))
    obtain ⟨zR0, zR1, zR2, zR3, zR4, zR5, zR6⟩ := box7z (MSt.box (MSt.nth (L1 := [_]) H1.out))
    go_wp2_with fail
    obtain ⟨W7, hW, hg, y0, y1, y2, y3, y4, y5, y6⟩ := MSt.put (MSt.nth (L1 := [_]) H1.out) (.int .i64 6) (.int .i64 ec) (.int .i64 0) (.string ⟨#[]⟩) (.slice none 0 0) (.slice none 0 0) (.slice none 0 0)
    rw [← hW]
    refine bodyPost_ret (v := .agg #[.int .i64 6, .int .i64 ec, .int .i64 0, .string ⟨#[]⟩, .slice none 0 0, .slice none 0 0, .slice none 0 0]) (by simp [results, Tryz.results21, go_sem, y0, y1, y2, y3, y4, y5, y6]) rfl (toA_flat0 rfl hg.bel)
  have hd := HV.out.2.2.2.2.2.one (.ok hok.1)
  obtain ⟨hf, hf2, hk1, hkk⟩ := hok.1
  obtain rfl : k = 1 := hk1
  have hna := numOf_fine HV.out.1 hf rfl
  unfold NumOk at hna
  simp only [Dt.nm] at hna
  have HN := Lib.hid hf2
  have hneg : ¬ n < 0 := hok.2
  clear hf hf2 hok
  obtain ⟨i, rfl⟩ : ∃ i : Nat, n = i := ⟨n.toNat, by omega⟩
  clear hneg
  have H1 := Lib.hid ((H0.out.later hb).new 28 7 #[.int .i64 0, .int .i64 0, .int .i64 0, .string ⟨#[]⟩, .slice none 0 0, .slice none 0 0, .slice none 0 0] rfl)
  have hz := hb.size
  first | simp at hz | skip
  clear hb
  by_cases h8 : i ≤ 8
  rotate_left
  · obtain rfl : d = errD 5 := hd.trans (take_out (by simp only [Dt.nm]; omega))
    have h9 : (8 : Int) < (i : Int) := by omega
    clear hd
    obtain ⟨fA0, fA1, fA2, fA3, fA4, fA5, fA6, fAlt⟩ := box7 (MSt.box (MSt.nth (L1 := [_, _, _]) H1.out))
    obtain ⟨fB0, fB1, fB2, fB3, fB4, fB5, fB6, fBlt⟩ := box7 (MSt.box (MSt.nth (L1 := [_, _]) H1.out))
    go_wp2_with fail
    refine (implErrorValue_any 5 _).mono ?_
    rintro e w2 ⟨rfl, hb⟩
    have H2 := Lib.hid (H1.out.later hb)
    clear hb
    clear fA0 fA1 fA2 fA3 fA4 fA5 fA6 fAlt fB0 fB1 fB2 fB3 fB4 fB5 fB6 fBlt
    obtain ⟨fR0, fR1, fR2, fR3, fR4, fR5, fR6, fRlt⟩ := box7 (MSt.box (MSt.nth (L1 := [_]) H2.out))
    obtain ⟨zR0, zR1, zR2, zR3, zR4, zR5, zR6⟩ := box7z (MSt.box (MSt.nth (L1 := [_]) H2.out))
    go_wp2_with fail
    obtain ⟨W7, hW, hg, y0, y1, y2, y3, y4, y5, y6⟩ := MSt.put (MSt.nth (L1 := [_]) H2.out) (.int .i64 6) (.int .i64 5) (.int .i64 0) (.string ⟨#[]⟩) (.slice none 0 0) (.slice none 0 0) (.slice none 0 0)
    rw [← hW]
    refine bodyPost_ret (v := .agg #[.int .i64 6, .int .i64 5, .int .i64 0, .string ⟨#[]⟩, .slice none 0 0, .slice none 0 0, .slice none 0 0]) (by simp [results, Tryz.results21, go_sem, y0, y1, y2, y3, y4, y5, y6]) rfl (toA_flat0 rfl hg.bel)
  have h9 : (i : Int) ≤ 8 := by omega
  by_cases hl3 : k' = 3
  · subst hl3
    have hle := (lst_fine HV.out.2.1 HN.out rfl).1
    simp only [Dt.el] at hle
    clear hkk
    obtain ⟨m, hm⟩ : ∃ m : Nat, m = min i l'.length := ⟨_, rfl⟩
    obtain rfl : d = valD 3 0 ⟨#[]⟩ (l'.take m) := by rw [← take_min hm]; exact hd.trans (by exact take_lst (i := i) rfl h8 rfl)
    have hml : m ≤ l'.length := by omega
    have hsub := HR.out.takeTo (fun x hx => (el_val HV.out.2.1 x hx).width) m hml
    have hlv : ∀ x ∈ l'.take m, IsVal x := fun x hx => el_val HV.out.2.1 x (List.mem_of_mem_take hx)
    have hlw : Dt.wt (.lst (l'.take m)) ≤ 1048576 := by have h1 := el_wt HV.out.2.1; have h2 := HV.out.2.2.1; have h3 := wts_takeL l' m; simp only [Dt.el, Dt.wt, List.length_take] at h1 h2 ⊢; omega
    have hmin : min (i : Int) (l'.length : Int) = (m : Int) := by omega
    have hln : (l'.take m).length = m := by rw [List.length_take]; omega
    have hq := HR.out.lst_len
    have hq1 : m ≤ q4' := by omega
    have hq2 : (m : Int) ≤ (q4' : Int) := by omega
    have HS := Lib.hid (And.intro hsub (And.intro hlv (And.intro hlw hln)))
    clear hd hsub hlv hlw hm hln
    obtain ⟨fA0, fA1, fA2, fA3, fA4, fA5, fA6, fAlt⟩ := box7 (MSt.box (MSt.nth (L1 := [_, _, _]) H1.out))
    obtain ⟨fB0, fB1, fB2, fB3, fB4, fB5, fB6, fBlt⟩ := box7 (MSt.box (MSt.nth (L1 := [_, _]) H1.out))
    go_wp2_with fail
    refine (implListM_any _ m HS.out.2.2.2.symm HS.out.2.1 HS.out.2.2.1 A4' q4' _ ((HS.out.1.below H1.out.bel).more H1.out.size)).mono ?_
    rintro e w2 ⟨csT, fpT, rfl, how, hnf, hb⟩
    obtain ⟨vy0, vy1, vy2, vy3, vy4, vn4, vc4, vy5, vn5, vc5, vy6, vn6, vc6, rfl⟩ := IsVal.form (isVal_valD _ _ _ _ HS.out.2.1) how.read
    have H2 := Lib.hid (H1.out.add hb (owA_at how hnf))
    clear how hnf hb
    clear fA0 fA1 fA2 fA3 fA4 fA5 fA6 fAlt fB0 fB1 fB2 fB3 fB4 fB5 fB6 fBlt
    obtain ⟨fR0, fR1, fR2, fR3, fR4, fR5, fR6, fRlt⟩ := box7 (MSt.box (MSt.nth (L1 := [_, _]) H2.out))
    obtain ⟨zR0, zR1, zR2, zR3, zR4, zR5, zR6⟩ := box7z (MSt.box (MSt.nth (L1 := [_, _]) H2.out))
    go_wp2_with fail
    obtain ⟨W7, hW, hg, y0, y1, y2, y3, y4, y5, y6⟩ := MSt.put (MSt.nth (L1 := [_, _]) H2.out) (.int .i64 vy0) (.int .i64 vy1) (.int .i64 vy2) (.string vy3) (.slice vy4 vn4 vc4) (.slice vy5 vn5 vc5) (.slice vy6 vn6 vc6)
    rw [← hW]
    refine bodyPost_ret (v := .agg #[.int .i64 vy0, .int .i64 vy1, .int .i64 vy2, .string vy3, .slice vy4 vn4 vc4, .slice vy5 vn5 vc5, .slice vy6 vn6 vc6]) (by simp [results, Tryz.results21, go_sem, y0, y1, y2, y3, y4, y5, y6]) rfl ((MSt.nth (L1 := [_]) hg).give)
  obtain rfl : k' = 4 := by rcases hkk with h | h; exact absurd h hl3; exact h
  have hst := str_fine HV.out.2.1 HN.out rfl
  unfold NumOk at hst
  simp only [Dt.nm, Dt.stp] at hst
  obtain ⟨⟨b1, b2⟩, b3, b4⟩ := hst
  clear hl3 hkk
  obtain rfl : d = takeS n' s' i := hd.trans (by exact take_str (i := i) rfl h8 (by simp [Dt.kd]))
  clear hd
  obtain ⟨fA0, fA1, fA2, fA3, fA4, fA5, fA6, fAlt⟩ := box7 (MSt.box (MSt.nth (L1 := [_, _, _]) H1.out))
  obtain ⟨fB0, fB1, fB2, fB3, fB4, fB5, fB6, fBlt⟩ := box7 (MSt.box (MSt.nth (L1 := [_, _]) H1.out))
  go_wp2_with fail
  go_region_law (first
    | (
      go_simp
      go_at_call 67
      refine (streamOf_b _ _ _ _ _ _ _ _).mono ?_
      rintro e w2 ⟨gS, rfl, ⟨fS1, fS2, fSlt⟩, hb⟩
      have H2 := Lib.hid (H1.out.drew.later hb)
      clear hb
      obtain ⟨fA0, fA1, fA2, fA3, fA4, fA5, fA6, fAlt⟩ := box7 (MSt.box (MSt.nth (L1 := [_, _, _]) H2.out)))
    | (
      go_simp
      go_at_call 68
      refine (first_any n' s' b1 b2 b3 b4 i h8 gS _ fSlt fS1 fS2).mono ?_
      rintro e w3 ⟨csT, fpT, rfl, how, hnf, hb⟩
      obtain ⟨vy0, vy1, vy2, vy3, vy4, vn4, vc4, vy5, vn5, vc5, vy6, vn6, vc6, rfl⟩ := IsVal.form (isVal_takeS _ _ _) how.read
      have H3 := Lib.hid (H2.out.add hb (owA_at how hnf))
      clear how hnf hb
      obtain ⟨fR0, fR1, fR2, fR3, fR4, fR5, fR6, fRlt⟩ := box7 (MSt.box (MSt.nth (L1 := [_, _]) H3.out))
      obtain ⟨zR0, zR1, zR2, zR3, zR4, zR5, zR6⟩ := box7z (MSt.box (MSt.nth (L1 := [_, _]) H3.out)))
    | fail)
  all_goals
    go_wp2_with fail
    obtain ⟨W7, hW, hg, y0, y1, y2, y3, y4, y5, y6⟩ := MSt.put (MSt.nth (L1 := [_, _]) H3.out) (.int .i64 vy0) (.int .i64 vy1) (.int .i64 vy2) (.string vy3) (.slice vy4 vn4 vc4) (.slice vy5 vn5 vc5) (.slice vy6 vn6 vc6)
    rw [← hW]
    refine bodyPost_ret (v := .agg #[.int .i64 vy0, .int .i64 vy1, .int .i64 vy2, .string vy3, .slice vy4 vn4 vc4, .slice vy5 vn5 vc5, .slice vy6 vn6 vc6]) (by simp [results, Tryz.results21, go_sem, y0, y1, y2, y3, y4, y5, y6]) rfl (MSt.nth (L1 := [_]) hg).give

end Go.Proofs.YtabcmnlmmpbmnaaGreat
