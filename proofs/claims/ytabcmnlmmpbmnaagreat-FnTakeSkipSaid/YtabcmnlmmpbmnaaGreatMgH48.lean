/-
  Texts that the proof rests on, put together: SkipI, SkipS, LstMath2.
-/
import Derived.Test.YtabcmnlmmpbmnaaGreatMgH46
import Derived.Deep.RegionLaw
import Derived.Test.YtabcmnlmmpbmnaaGreatMgH40
/-
  The other elements, the program's. (Written by genlst.py.)
-/

namespace Go.Proofs.YtabcmnlmmpbmnaaGreat
open Go.RowKit
set_option linter.unusedVariables false
set_option linter.unusedSimpArgs false

theorem toA_str {w w' : World} {n s : Int} (hb : Below w.heap.size w w') : ToA w (strD n s) (.returned (.agg #[.int .i64 4, .int .i64 n, .int .i64 s, .string ⟨#[]⟩, .slice none 0 0, .slice none 0 0, .slice none 0 0])) w' :=
  ⟨[.int .i64 4, .int .i64 n, .int .i64 s, .string ⟨#[]⟩, .slice none 0 0, .slice none 0 0, .slice none 0 0], [], rfl, ow_flat w' 4 n s ⟨#[]⟩, New.nil _, hb⟩
set_option maxHeartbeats 1600000 in
set_option maxRecDepth 100000 in
theorem l1Min_any (x y z : Int) (hz : z = min x y) (w : World) : Calls Tryz.prog 74 #[.int .i64 x, .int .i64 y] w fun e w' => e = .returned (.int .i64 z) ∧ Below w.heap.size w w' := by
  by_cases h : x < y
  · obtain rfl : z = x := by omega
    clear hz
    go_enter Tryz.func74, Tryz.ntmps74
    go_wp2_with fail
    go_ret
    exact ⟨rfl, Below.refl _ _⟩
  · obtain rfl : z = y := by omega
    clear hz
    go_enter Tryz.func74, Tryz.ntmps74
    go_wp2_with fail
    go_ret
    exact ⟨rfl, Below.refl _ _⟩
/-- A value without memory of its own, in a caller's hands. -/
theorem ToA.flat {w : World} {k n s : Int} {t : ByteArray} {e : Ending} {w' : World} (h : ToA w (.agg [.int k, .int n, .int s, .str t, .lst [], .lst [], .lst []]) e w') :
    ∃ A4 c4 A5 c5 A6 c6 fp, e = .returned (.agg #[.int .i64 k, .int .i64 n, .int .i64 s, .string t, .slice A4 0 c4, .slice A5 0 c5, .slice A6 0 c6]) ∧ Ow w' (.agg [.int k, .int n, .int s, .str t, .lst [], .lst [], .lst []]) [.int .i64 k, .int .i64 n, .int .i64 s, .string t, .slice A4 0 c4, .slice A5 0 c5, .slice A6 0 c6] fp ∧ New w.heap.size fp ∧ Below w.heap.size w w' := by
  obtain ⟨cs, fp, rfl, how, hnf, hb⟩ := h
  obtain ⟨A4, c4, A5, c5, A6, c6, rfl, -⟩ := Rd.ofValue how.read
  exact ⟨A4, c4, A5, c5, A6, c6, fp, rfl, how, hnf, hb⟩

set_option maxHeartbeats 12800000 in
set_option maxRecDepth 100000 in
theorem implSkip_any {a b : Dt} (ha : IsVal a) (hb : IsVal b) (hwt : a.wt + b.wt ≤ 1048576) (cs cs' : List Value) (w : World) (h : Rd w w.heap.size a cs) (h' : Rd w w.heap.size b cs') (d : Dt) (hd : Two skipD a b d) :
    Calls Tryz.prog 22 #[.agg cs.toArray, .agg cs'.toArray] w (ToA w d) := by
  have HV := Lib.hid (And.intro ha (And.intro hb (And.intro hwt (And.intro h (And.intro h' hd)))))
  obtain ⟨k, n, s, t, l, c, r, hl, hr⟩ := ha
  obtain ⟨k', n', s', t', l', c', r', hl', hr'⟩ := hb
  obtain ⟨A4, q4, A5, q5, A6, q6, rfl, -, -, -⟩ := Rd.ofValue h
  obtain ⟨A4', q4', A5', q5', A6', q6', rfl, r4', -, -⟩ := Rd.ofValue h'
  have HR := Lib.hid r4'
  simp only [List.length_map] at HV ⊢
  clear hd r4' h h' hl hr hl' hr' hwt
  have h0 := ((((MSt.start w).new 28 7 #[.int .i64 k, .int .i64 n, .int .i64 s, .string t, .slice A4 l.length q4, .slice A5 c.length q5, .slice A6 r.length q6] rfl).new 28 7 #[.int .i64 k', .int .i64 n', .int .i64 s', .string t', .slice A4' l'.length q4', .slice A5' c'.length q5', .slice A6' r'.length q6'] rfl).new 28 7 #[.int .i64 0, .int .i64 0, .int .i64 0, .string ⟨#[]⟩, .slice none 0 0, .slice none 0 0, .slice none 0 0] rfl)
  simp only [World.size_alloc] at h0
  have H0 := Lib.hid h0
  clear h0
  go_enter Tryz.func22, Tryz.ntmps22
  go_wp2_with fail
  refine (implPair_any HV.out.1 HV.out.2.1 HV.out.2.2.1 _ _ _ ((HV.out.2.2.2.1.below H0.out.bel).more H0.out.size) ((HV.out.2.2.2.2.1.below H0.out.bel).more H0.out.size)).mono ?_
  rintro e w1 ⟨⟨hok, rfl⟩ | ⟨ec, he, rfl⟩, hb⟩
  rotate_left
  · obtain rfl := HV.out.2.2.2.2.2.errI he skip_neg
    clear he
    have H1 := Lib.hid ((H0.out.later hb).new 28 7 #[.int .i64 6, .int .i64 ec, .int .i64 0, .string ⟨#[]⟩, .slice none 0 0, .slice none 0 0, .slice none 0 0] rfl)
    have hz := hb.size
    first | simp at hz | skip
    clear hb
    obtain ⟨fR0, fR1, fR2, fR3, fR4, fR5, fR6, fRlt⟩ := box7 (MSt.box (MSt.nth (L1 := [_]) H1.out))
    obtain ⟨zR0, zR1, zR2, zR3, zR4, zR5, zR6⟩ := box7z (MSt.box (MSt.nth (L1 := [_]) H1.out))
    go_wp2_with fail
    obtain ⟨W7, hW, hg, y0, y1, y2, y3, y4, y5, y6⟩ := MSt.put (MSt.nth (L1 := [_]) H1.out) (.int .i64 6) (.int .i64 ec) (.int .i64 0) (.string ⟨#[]⟩) (.slice none 0 0) (.slice none 0 0) (.slice none 0 0)
    rw [← hW]
    refine bodyPost_ret (v := .agg #[.int .i64 6, .int .i64 ec, .int .i64 0, .string ⟨#[]⟩, .slice none 0 0, .slice none 0 0, .slice none 0 0]) (by simp [results, Tryz.results22, go_sem, y0, y1, y2, y3, y4, y5, y6]) rfl (toA_flat0 rfl hg.bel)
  have hd := HV.out.2.2.2.2.2.one (.ok hok.1)
  obtain ⟨hf, hf2, hk1, hkk⟩ := hok.1
  obtain rfl : k = 1 := hk1
  have hna := numOf_fine HV.out.1 hf rfl
  unfold NumOk at hna
  simp only [Dt.nm] at hna
  have HN := Lib.hid hf2
  have hneg : ¬ n < 0 := hok.2
  clear hf hf2 hok
  obtain ⟨i, rfl⟩ : ∃ i : Nat, n = i := ⟨n.toNat, by omega⟩
  clear hneg
  have H1 := Lib.hid ((H0.out.later hb).new 28 7 #[.int .i64 0, .int .i64 0, .int .i64 0, .string ⟨#[]⟩, .slice none 0 0, .slice none 0 0, .slice none 0 0] rfl)
  have hz := hb.size
  first | simp at hz | skip
  clear hb
  by_cases hl3 : k' = 3
  · subst hl3
    have hle := (lst_fine HV.out.2.1 HN.out rfl).1
    simp only [Dt.el] at hle
    clear hkk
    obtain ⟨m, hm⟩ : ∃ m : Nat, m = min i l'.length := ⟨_, rfl⟩
    obtain rfl : d = valD 3 0 ⟨#[]⟩ (l'.drop m) := by rw [← drop_min hm]; exact hd.trans (by exact skip_lst (i := i) rfl rfl)
    have hml : m ≤ l'.length := by omega
    have hsub := HR.out.dropTo (fun x hx => (el_val HV.out.2.1 x hx).width) m hml
    have hlv : ∀ x ∈ l'.drop m, IsVal x := fun x hx => el_val HV.out.2.1 x (List.mem_of_mem_drop hx)
    have hlw : Dt.wt (.lst (l'.drop m)) ≤ 1048576 := by have h1 := el_wt HV.out.2.1; have h2 := HV.out.2.2.1; have h3 := wts_dropL l' m; simp only [Dt.el, Dt.wt, List.length_drop] at h1 h2 ⊢; omega
    have hmin : min (i : Int) (l'.length : Int) = (m : Int) := by omega
    have hln : (l'.drop m).length = l'.length - m := List.length_drop ..
    have hq := HR.out.lst_len
    have hq1 : m ≤ q4' := by omega
    clear hd
    by_cases hq4 : q4' = m
    · subst hq4
      have hz0 : l'.length - q4' = 0 := by omega
      rw [if_pos rfl, Nat.sub_self, hz0] at hsub
      rw [hz0] at hln
      have HS := Lib.hid (And.intro hsub (And.intro hlv (And.intro hlw hln)))
      clear hsub hlv hlw hm hln
      obtain ⟨fA0, fA1, fA2, fA3, fA4, fA5, fA6, fAlt⟩ := box7 (MSt.box (MSt.nth (L1 := [_, _, _]) H1.out))
      obtain ⟨fB0, fB1, fB2, fB3, fB4, fB5, fB6, fBlt⟩ := box7 (MSt.box (MSt.nth (L1 := [_, _]) H1.out))
      go_wp2_with fail
      refine (implListM_any _ 0 HS.out.2.2.2.symm HS.out.2.1 HS.out.2.2.1 A4' 0 _ ((HS.out.1.below H1.out.bel).more H1.out.size)).mono ?_
      rintro e w2 ⟨csT, fpT, rfl, how, hnf, hb⟩
      obtain ⟨vy0, vy1, vy2, vy3, vy4, vn4, vc4, vy5, vn5, vc5, vy6, vn6, vc6, rfl⟩ := IsVal.form (isVal_valD _ _ _ _ HS.out.2.1) how.read
      have H2 := Lib.hid (H1.out.add hb (owA_at how hnf))
      clear how hnf hb
      clear fA0 fA1 fA2 fA3 fA4 fA5 fA6 fAlt fB0 fB1 fB2 fB3 fB4 fB5 fB6 fBlt
      obtain ⟨fR0, fR1, fR2, fR3, fR4, fR5, fR6, fRlt⟩ := box7 (MSt.box (MSt.nth (L1 := [_, _]) H2.out))
      obtain ⟨zR0, zR1, zR2, zR3, zR4, zR5, zR6⟩ := box7z (MSt.box (MSt.nth (L1 := [_, _]) H2.out))
      go_wp2_with fail
      obtain ⟨W7, hW, hg, y0, y1, y2, y3, y4, y5, y6⟩ := MSt.put (MSt.nth (L1 := [_, _]) H2.out) (.int .i64 vy0) (.int .i64 vy1) (.int .i64 vy2) (.string vy3) (.slice vy4 vn4 vc4) (.slice vy5 vn5 vc5) (.slice vy6 vn6 vc6)
      rw [← hW]
      refine bodyPost_ret (v := .agg #[.int .i64 vy0, .int .i64 vy1, .int .i64 vy2, .string vy3, .slice vy4 vn4 vc4, .slice vy5 vn5 vc5, .slice vy6 vn6 vc6]) (by simp [results, Tryz.results22, go_sem, y0, y1, y2, y3, y4, y5, y6]) rfl ((MSt.nth (L1 := [_]) hg).give)
    · rw [if_neg hq4] at hsub
      have HS := Lib.hid (And.intro hsub (And.intro hlv (And.intro hlw hln)))
      clear hsub hlv hlw hm hln
      obtain ⟨fA0, fA1, fA2, fA3, fA4, fA5, fA6, fAlt⟩ := box7 (MSt.box (MSt.nth (L1 := [_, _, _]) H1.out))
      obtain ⟨fB0, fB1, fB2, fB3, fB4, fB5, fB6, fBlt⟩ := box7 (MSt.box (MSt.nth (L1 := [_, _]) H1.out))
      go_wp2_with fail
      refine (implListM_any _ (l'.length - m) HS.out.2.2.2.symm HS.out.2.1 HS.out.2.2.1 (Option.map (fun x => x.add (m * 7)) A4') (q4' - m) _ ((HS.out.1.below H1.out.bel).more H1.out.size)).mono ?_
      rintro e w2 ⟨csT, fpT, rfl, how, hnf, hb⟩
      obtain ⟨vy0, vy1, vy2, vy3, vy4, vn4, vc4, vy5, vn5, vc5, vy6, vn6, vc6, rfl⟩ := IsVal.form (isVal_valD _ _ _ _ HS.out.2.1) how.read
      have H2 := Lib.hid (H1.out.add hb (owA_at how hnf))
      clear how hnf hb
      clear fA0 fA1 fA2 fA3 fA4 fA5 fA6 fAlt fB0 fB1 fB2 fB3 fB4 fB5 fB6 fBlt
      obtain ⟨fR0, fR1, fR2, fR3, fR4, fR5, fR6, fRlt⟩ := box7 (MSt.box (MSt.nth (L1 := [_, _]) H2.out))
      obtain ⟨zR0, zR1, zR2, zR3, zR4, zR5, zR6⟩ := box7z (MSt.box (MSt.nth (L1 := [_, _]) H2.out))
      go_wp2_with fail
      obtain ⟨W7, hW, hg, y0, y1, y2, y3, y4, y5, y6⟩ := MSt.put (MSt.nth (L1 := [_, _]) H2.out) (.int .i64 vy0) (.int .i64 vy1) (.int .i64 vy2) (.string vy3) (.slice vy4 vn4 vc4) (.slice vy5 vn5 vc5) (.slice vy6 vn6 vc6)
      rw [← hW]
      refine bodyPost_ret (v := .agg #[.int .i64 vy0, .int .i64 vy1, .int .i64 vy2, .string vy3, .slice vy4 vn4 vc4, .slice vy5 vn5 vc5, .slice vy6 vn6 vc6]) (by simp [results, Tryz.results22, go_sem, y0, y1, y2, y3, y4, y5, y6]) rfl ((MSt.nth (L1 := [_]) hg).give)
  obtain rfl : k' = 4 := by rcases hkk with h | h; exact absurd h hl3; exact h
  have hst := str_fine HV.out.2.1 HN.out rfl
  unfold NumOk at hst
  simp only [Dt.nm, Dt.stp] at hst
  obtain ⟨⟨b1, b2⟩, b3, b4⟩ := hst
  clear hl3 hkk
  obtain ⟨⟨m1, m2⟩, m3, m4⟩ := prod_bd b1 b2 b3 b4 (i := (i : Int)) (by omega) (by omega)
  have hy : NumOk (n' + (i : Int) * s') → d = strD (n' + (i : Int) * s') s' := fun h => hd.trans (by exact skip_yes (by simp [Dt.nm]) (by simp [Dt.kd]) h)
  have hn : ¬ NumOk (n' + (i : Int) * s') → d = errD 5 := fun h => hd.trans (by exact skip_no (by simp [Dt.nm]) (by simp [Dt.kd]) h)
  have HD := Lib.hid (And.intro hy hn)
  clear hy hn hd
  obtain ⟨fA0, fA1, fA2, fA3, fA4, fA5, fA6, fAlt⟩ := box7 (MSt.box (MSt.nth (L1 := [_, _, _]) H1.out))
  obtain ⟨fB0, fB1, fB2, fB3, fB4, fB5, fB6, fBlt⟩ := box7 (MSt.box (MSt.nth (L1 := [_, _]) H1.out))
  go_upto_region 5 with fail
  clear fA0 fA1 fA2 fA3 fA4 fA5 fA6 fAlt fB0 fB1 fB2 fB3 fB4 fB5 fB6 fBlt
  generalize hW1 : w1.alloc (.cells #[.int .i64 0, .int .i64 0, .int .i64 0, .string ⟨#[]⟩, .slice none 0 0, .slice none 0 0, .slice none 0 0] 28) = W1 at H1 ⊢
  clear hW1 hz
  obtain ⟨fA0, fA1, fA2, fA3, fA4, fA5, fA6, fAlt⟩ := box7 (MSt.box (MSt.nth (L1 := [_, _, _]) H1.out))
  obtain ⟨fB0, fB1, fB2, fB3, fB4, fB5, fB6, fBlt⟩ := box7 (MSt.box (MSt.nth (L1 := [_, _]) H1.out))
  go_cut [7] from 19 to 24 (fun p wx => ∃ gX : Nat, p = .pointer (some ⟨gX, 0, none⟩) ∧ MSt w (boxA 28 7 gX [.int .i64 (chkK (n' + (i : Int) * s')), .int .i64 (chkN (n' + (i : Int) * s')), .int .i64 0, .string ⟨#[]⟩, .slice none 0 0, .slice none 0 0, .slice none 0 0] :: [boxA 28 7 (w.heap.size + 1 + 1) [.int .i64 0, .int .i64 0, .int .i64 0, .string ⟨#[]⟩, .slice none 0 0, .slice none 0 0, .slice none 0 0], boxA 28 7 (w.heap.size + 1) [.int .i64 4, .int .i64 n', .int .i64 s', .string t', .slice A4' l'.length q4', .slice A5' c'.length q5', .slice A6' r'.length q6'], boxA 28 7 (w.heap.size) [.int .i64 1, .int .i64 (i : Int), .int .i64 s, .string t, .slice A4 l.length q4, .slice A5 c.length q5, .slice A6 r.length q6]]) wx)
  case first =>
    go_region_law (first
      | (
        go_simp
        go_at_call 67
        refine (streamOf_b _ _ _ _ _ _ _ _).mono ?_
        rintro e w2 ⟨gS, rfl, ⟨fS1, fS2, fSlt⟩, hb⟩
        first | (have HL := Lib.hid (H1.out.drew.later hb)) | (have hx0 := (H1.out.drew.new 28 7 #[.int .i64 0, .int .i64 0, .int .i64 0, .string ⟨#[]⟩, .slice none 0 0, .slice none 0 0, .slice none 0 0] rfl).later hb; simp only [World.size_drew] at hx0; have HX := Lib.hid hx0; clear hx0) | fail
        have hws := hb.size
        first | simp at hws | skip
        clear hb
        first | have hbm := MSt.hasB HL.out (a := boxA 28 7 (w.heap.size) [.int .i64 1, .int .i64 (i : Int), .int .i64 s, .string t, .slice A4 l.length q4, .slice A5 c.length q5, .slice A6 r.length q6]) (by simp) | have hbm := MSt.hasB HX.out (a := boxA 28 7 (w.heap.size) [.int .i64 1, .int .i64 (i : Int), .int .i64 s, .string t, .slice A4 l.length q4, .slice A5 c.length q5, .slice A6 r.length q6]) (by simp) | fail
        obtain ⟨fA0, fA1, fA2, fA3, fA4, fA5, fA6, fAlt⟩ := box7 hbm
        clear hbm
        first | (have hbx := MSt.box HX.out; obtain ⟨fX0, fX1, fX2, fX3, fX4, fX5, fX6, fXlt⟩ := box7 hbx; obtain ⟨zX0, zX1, zX2, zX3, zX4, zX5, zX6⟩ := box7z hbx; clear hbx) | skip)
      | (
        go_simp
        go_at_call 130
        refine (streamEl_any n' s' (i : Int) b1 b2 b3 b4 (by omega) (by omega) _ _ (by first | exact fSlt | (simp; omega)) (by first | exact fS1 | exact (((Below.refl _ _).alloc (Nat.le_refl _) _).cell (p := ⟨gS, 1, none⟩) fSlt).trans fS1) (by first | exact fS2 | exact (((Below.refl _ _).alloc (Nat.le_refl _) _).cell (p := ⟨gS, 2, none⟩) fSlt).trans fS2)).mono ?_
        rintro e w3 ⟨rfl, hb⟩
        first | (have HY := Lib.hid (HX.out.later hb)) | (have HM := Lib.hid (HL.out.later hb)) | (have HY := Lib.hid ((HL.out.new 28 7 #[.int .i64 0, .int .i64 0, .int .i64 0, .string ⟨#[]⟩, .slice none 0 0, .slice none 0 0, .slice none 0 0] rfl).later hb)) | fail
        clear hb
        first | (have hbx := MSt.box HY.out; obtain ⟨fX0, fX1, fX2, fX3, fX4, fX5, fX6, fXlt⟩ := box7 hbx; obtain ⟨zX0, zX1, zX2, zX3, zX4, zX5, zX6⟩ := box7z hbx; clear hbx) | skip)
      | fail)
    all_goals
      go_wp2_with fail
      go_meet
      refine ⟨_, rfl, ?_⟩
      first
        | (have hg := MSt.set7 (e := 28) HY.out [.int .i64 (chkK (n' + (i : Int) * s')), .int .i64 (chkN (n' + (i : Int) * s')), .int .i64 0, .string ⟨#[]⟩, .slice none 0 0, .slice none 0 0, .slice none 0 0] (by simp); simp only [World.setCells, Nat.zero_add, Nat.reduceAdd, World.size_drew] at hg; (with_reducible exact MSt.subB hg (.cons_cons _ (.cons _ (List.Sublist.refl _)))))
        | (with_reducible exact MSt.subB (HM.out.new 28 7 #[.int .i64 (chkK (n' + (i : Int) * s')), .int .i64 (chkN (n' + (i : Int) * s')), .int .i64 0, .string ⟨#[]⟩, .slice none 0 0, .slice none 0 0, .slice none 0 0] rfl) (.cons_cons _ (.cons _ (List.Sublist.refl _))))
  case rest =>
    obtain ⟨gX, rfl, hM⟩ := hcut
    have H2 := Lib.hid hM
    clear hM H1
    clear fA0 fA1 fA2 fA3 fA4 fA5 fA6 fAlt fB0 fB1 fB2 fB3 fB4 fB5 fB6 fBlt
    by_cases hok : NumOk (n' + (i : Int) * s')
    · have hck := chk_yes hok
      rw [hck.1, hck.2] at H2
      clear hck
      obtain rfl := HD.out.1 hok
      obtain ⟨fX0, fX1, fX2, fX3, fX4, fX5, fX6, fXlt⟩ := box7 (MSt.box H2.out)
      obtain ⟨fB0, fB1, fB2, fB3, fB4, fB5, fB6, fBlt⟩ := box7 (MSt.box (MSt.nth (L1 := [_, _]) H2.out))
      go_wp2_with fail
      refine (implStreamValue_any (n' + (i : Int) * s') s' _).mono ?_
      rintro e w3 ⟨rfl, hb⟩
      have H3 := Lib.hid (H2.out.later hb)
      clear hb
      clear fX0 fX1 fX2 fX3 fX4 fX5 fX6 fXlt fB0 fB1 fB2 fB3 fB4 fB5 fB6 fBlt
      obtain ⟨fR0, fR1, fR2, fR3, fR4, fR5, fR6, fRlt⟩ := box7 (MSt.box (MSt.nth (L1 := [_]) H3.out))
      obtain ⟨zR0, zR1, zR2, zR3, zR4, zR5, zR6⟩ := box7z (MSt.box (MSt.nth (L1 := [_]) H3.out))
      go_wp2_with fail
      obtain ⟨W7, hW, hg, y0, y1, y2, y3, y4, y5, y6⟩ := MSt.put (MSt.nth (L1 := [_]) H3.out) (.int .i64 4) (.int .i64 (n' + (i : Int) * s')) (.int .i64 s') (.string ⟨#[]⟩) (.slice none 0 0) (.slice none 0 0) (.slice none 0 0)
      rw [← hW]
      refine bodyPost_ret (v := .agg #[.int .i64 4, .int .i64 (n' + (i : Int) * s'), .int .i64 s', .string ⟨#[]⟩, .slice none 0 0, .slice none 0 0, .slice none 0 0]) (by simp [results, Tryz.results22, go_sem, y0, y1, y2, y3, y4, y5, y6]) rfl (toA_str hg.bel)
    · have hck := chk_no hok
      rw [hck.1, hck.2] at H2
      clear hck
      obtain rfl := HD.out.2 hok
      obtain ⟨fX0, fX1, fX2, fX3, fX4, fX5, fX6, fXlt⟩ := box7 (MSt.box H2.out)
      obtain ⟨fR0, fR1, fR2, fR3, fR4, fR5, fR6, fRlt⟩ := box7 (MSt.box (MSt.nth (L1 := [_]) H2.out))
      obtain ⟨zR0, zR1, zR2, zR3, zR4, zR5, zR6⟩ := box7z (MSt.box (MSt.nth (L1 := [_]) H2.out))
      go_wp2_with fail
      obtain ⟨W7, hW, hg, y0, y1, y2, y3, y4, y5, y6⟩ := MSt.put (MSt.nth (L1 := [_]) H2.out) (.int .i64 6) (.int .i64 5) (.int .i64 0) (.string ⟨#[]⟩) (.slice none 0 0) (.slice none 0 0) (.slice none 0 0)
      rw [← hW]
      refine bodyPost_ret (v := .agg #[.int .i64 6, .int .i64 5, .int .i64 0, .string ⟨#[]⟩, .slice none 0 0, .slice none 0 0, .slice none 0 0]) (by simp [results, Tryz.results22, go_sem, y0, y1, y2, y3, y4, y5, y6]) rfl (toA_flat0 rfl hg.bel)

end Go.Proofs.YtabcmnlmmpbmnaaGreat

/-
  The other elements, the model's. (Written by genlst.py.)
-/

namespace Go.Proofs.YtabcmnlmmpbmnaaGreat
open Go.RowKit
set_option linter.unusedVariables false
set_option linter.unusedSimpArgs false

set_option maxHeartbeats 12800000 in
set_option maxRecDepth 100000 in
theorem specSkip_any {a b : Dt} (ha : IsVal a) (hb : IsVal b) (hwt : a.wt + b.wt ≤ 1048576) (cs cs' : List Value) (w : World) (h : Rd w w.heap.size a cs) (h' : Rd w w.heap.size b cs') (d : Dt) (hd : Two skipD a b d) :
    Calls Tryz.prog 24 #[.agg cs.toArray, .agg cs'.toArray] w (ToA w d) := by
  have HV := Lib.hid (And.intro ha (And.intro hb (And.intro hwt (And.intro h (And.intro h' hd)))))
  obtain ⟨k, n, s, t, l, c, r, hl, hr⟩ := ha
  obtain ⟨k', n', s', t', l', c', r', hl', hr'⟩ := hb
  obtain ⟨A4, q4, A5, q5, A6, q6, rfl, -, -, -⟩ := Rd.ofValue h
  obtain ⟨A4', q4', A5', q5', A6', q6', rfl, r4', -, -⟩ := Rd.ofValue h'
  have HR := Lib.hid r4'
  simp only [List.length_map] at HV ⊢
  clear hd r4' h h' hl hr hl' hr' hwt
  have h0 := ((((MSt.start w).new 28 7 #[.int .i64 k, .int .i64 n, .int .i64 s, .string t, .slice A4 l.length q4, .slice A5 c.length q5, .slice A6 r.length q6] rfl).new 28 7 #[.int .i64 k', .int .i64 n', .int .i64 s', .string t', .slice A4' l'.length q4', .slice A5' c'.length q5', .slice A6' r'.length q6'] rfl).new 28 7 #[.int .i64 0, .int .i64 0, .int .i64 0, .string ⟨#[]⟩, .slice none 0 0, .slice none 0 0, .slice none 0 0] rfl)
  simp only [World.size_alloc] at h0
  have H0 := Lib.hid h0
  clear h0
  go_enter Tryz.func24, Tryz.ntmps24
  go_wp2_with fail
  refine (specPair_any HV.out.1 HV.out.2.1 HV.out.2.2.1 _ _ _ ((HV.out.2.2.2.1.below H0.out.bel).more H0.out.size) ((HV.out.2.2.2.2.1.below H0.out.bel).more H0.out.size)).mono ?_
  rintro e w1 ⟨⟨hok, rfl⟩ | ⟨ec, he, rfl⟩, hb⟩
  rotate_left
  · obtain rfl := HV.out.2.2.2.2.2.one (.err ec he)
    clear he
    have H1 := Lib.hid ((H0.out.later hb).new 28 7 #[.int .i64 6, .int .i64 ec, .int .i64 0, .string ⟨#[]⟩, .slice none 0 0, .slice none 0 0, .slice none 0 0] rfl)
    have hz := hb.size
    first | simp at hz | skip
    clear hb
    obtain ⟨fR0, fR1, fR2, fR3, fR4, fR5, fR6, fRlt⟩ := box7 (MSt.box (MSt.nth (L1 := [_]) H1.out))
    obtain ⟨zR0, zR1, zR2, zR3, zR4, zR5, zR6⟩ := box7z (MSt.box (MSt.nth (L1 := [_]) H1.out))
    go_wp2_with fail
    obtain ⟨W7, hW, hg, y0, y1, y2, y3, y4, y5, y6⟩ := MSt.put (MSt.nth (L1 := [_]) H1.out) (.int .i64 6) (.int .i64 ec) (.int .i64 0) (.string ⟨#[]⟩) (.slice none 0 0) (.slice none 0 0) (.slice none 0 0)
    rw [← hW]
    refine bodyPost_ret (v := .agg #[.int .i64 6, .int .i64 ec, .int .i64 0, .string ⟨#[]⟩, .slice none 0 0, .slice none 0 0, .slice none 0 0]) (by simp [results, Tryz.results24, go_sem, y0, y1, y2, y3, y4, y5, y6]) rfl (toA_flat0 rfl hg.bel)
  have hd := HV.out.2.2.2.2.2.one (.ok hok)
  obtain ⟨hf, hf2, hk1, hkk⟩ := hok
  obtain rfl : k = 1 := hk1
  have hna := numOf_fine HV.out.1 hf rfl
  unfold NumOk at hna
  simp only [Dt.nm] at hna
  have HN := Lib.hid hf2
  have HFA := Lib.hid hf
  by_cases hneg : n < 0
  · obtain rfl : d = errD 5 := by rw [hd]; exact skip_neg hneg
    clear hf hf2 hna hkk hd
    have H1 := Lib.hid ((H0.out.later hb).new 28 7 #[.int .i64 0, .int .i64 0, .int .i64 0, .string ⟨#[]⟩, .slice none 0 0, .slice none 0 0, .slice none 0 0] rfl)
    have hz := hb.size
    first | simp at hz | skip
    clear hb
    have hz1 : (1 : Int) ≤ 8 := by omega
    obtain ⟨fA0, fA1, fA2, fA3, fA4, fA5, fA6, fAlt⟩ := box7 (MSt.box (MSt.nth (L1 := [_, _, _]) H1.out))
    obtain ⟨fB0, fB1, fB2, fB3, fB4, fB5, fB6, fBlt⟩ := box7 (MSt.box (MSt.nth (L1 := [_, _]) H1.out))
    go_wp2_with fail
    refine (specErrorValue_any 5 _).mono ?_
    rintro e w2 ⟨rfl, hb⟩
    have H2 := Lib.hid (H1.out.later hb)
    clear hb
    clear fA0 fA1 fA2 fA3 fA4 fA5 fA6 fAlt fB0 fB1 fB2 fB3 fB4 fB5 fB6 fBlt
    obtain ⟨fR0, fR1, fR2, fR3, fR4, fR5, fR6, fRlt⟩ := box7 (MSt.box (MSt.nth (L1 := [_]) H2.out))
    obtain ⟨zR0, zR1, zR2, zR3, zR4, zR5, zR6⟩ := box7z (MSt.box (MSt.nth (L1 := [_]) H2.out))
    go_wp2_with fail
    obtain ⟨W7, hW, hg, y0, y1, y2, y3, y4, y5, y6⟩ := MSt.put (MSt.nth (L1 := [_]) H2.out) (.int .i64 6) (.int .i64 5) (.int .i64 0) (.string ⟨#[]⟩) (.slice none 0 0) (.slice none 0 0) (.slice none 0 0)
    rw [← hW]
    refine bodyPost_ret (v := .agg #[.int .i64 6, .int .i64 5, .int .i64 0, .string ⟨#[]⟩, .slice none 0 0, .slice none 0 0, .slice none 0 0]) (by simp [results, Tryz.results24, go_sem, y0, y1, y2, y3, y4, y5, y6]) rfl (toA_flat0 rfl hg.bel)
  clear hf hf2
  obtain ⟨i, rfl⟩ : ∃ i : Nat, n = i := ⟨n.toNat, by omega⟩
  clear hneg
  have H1 := Lib.hid ((H0.out.later hb).new 28 7 #[.int .i64 0, .int .i64 0, .int .i64 0, .string ⟨#[]⟩, .slice none 0 0, .slice none 0 0, .slice none 0 0] rfl)
  have hz := hb.size
  first | simp at hz | skip
  clear hb
  by_cases hl3 : k' = 3
  · subst hl3
    have hle := (lst_fine HV.out.2.1 HN.out rfl).1
    simp only [Dt.el] at hle
    clear hkk
    obtain ⟨m, hm⟩ : ∃ m : Nat, m = min i l'.length := ⟨_, rfl⟩
    obtain rfl : d = valD 3 0 ⟨#[]⟩ (l'.drop m) := by rw [← drop_min hm]; exact hd.trans (by exact skip_lst (i := i) rfl rfl)
    have hml : m ≤ l'.length := by omega
    have hsub := HR.out.dropTo (fun x hx => (el_val HV.out.2.1 x hx).width) m hml
    have hlv : ∀ x ∈ l'.drop m, IsVal x := fun x hx => el_val HV.out.2.1 x (List.mem_of_mem_drop hx)
    have hlw : Dt.wt (.lst (l'.drop m)) ≤ 1048576 := by have h1 := el_wt HV.out.2.1; have h2 := HV.out.2.2.1; have h3 := wts_dropL l' m; simp only [Dt.el, Dt.wt, List.length_drop] at h1 h2 ⊢; omega
    have hmin : min (i : Int) (l'.length : Int) = (m : Int) := by omega
    have hln : (l'.drop m).length = l'.length - m := List.length_drop ..
    have hq := HR.out.lst_len
    have hq1 : m ≤ q4' := by omega
    clear hd
    by_cases hq4 : q4' = m
    · subst hq4
      have hz0 : l'.length - q4' = 0 := by omega
      rw [if_pos rfl, Nat.sub_self, hz0] at hsub
      rw [hz0] at hln
      have HS := Lib.hid (And.intro hsub (And.intro hlv (And.intro hlw hln)))
      clear hsub hlv hlw hm hln
      obtain ⟨fA0, fA1, fA2, fA3, fA4, fA5, fA6, fAlt⟩ := box7 (MSt.box (MSt.nth (L1 := [_, _, _]) H1.out))
      obtain ⟨fB0, fB1, fB2, fB3, fB4, fB5, fB6, fBlt⟩ := box7 (MSt.box (MSt.nth (L1 := [_, _]) H1.out))
      go_wp2_with fail
      go_region_law (first
        | (
          go_simp
          go_at_call 74
          refine (l1Min_any (i : Int) (l'.length : Int) (q4' : Int) hmin.symm _).mono ?_
          rintro e w2 ⟨rfl, hb⟩
          have H2 := Lib.hid (H1.out.drew.later hb)
          clear hb
          obtain ⟨fA0, fA1, fA2, fA3, fA4, fA5, fA6, fAlt⟩ := box7 (MSt.box (MSt.nth (L1 := [_, _, _]) H2.out))
          obtain ⟨fB0, fB1, fB2, fB3, fB4, fB5, fB6, fBlt⟩ := box7 (MSt.box (MSt.nth (L1 := [_, _]) H2.out)))
        | (
          go_simp
          go_at_call 73
          refine (specListM_any _ 0 HS.out.2.2.2.symm HS.out.2.1 HS.out.2.2.1 A4' 0 _ ((HS.out.1.below H2.out.bel).more H2.out.size)).mono ?_
          rintro e w3 ⟨csT, fpT, rfl, how, hnf, hb⟩
          obtain ⟨vy0, vy1, vy2, vy3, vy4, vn4, vc4, vy5, vn5, vc5, vy6, vn6, vc6, rfl⟩ := IsVal.form (isVal_valD _ _ _ _ HS.out.2.1) how.read
          have H3 := Lib.hid (H2.out.add hb (owA_at how hnf))
          clear how hnf hb
          obtain ⟨fR0, fR1, fR2, fR3, fR4, fR5, fR6, fRlt⟩ := box7 (MSt.box (MSt.nth (L1 := [_, _]) H3.out))
          obtain ⟨zR0, zR1, zR2, zR3, zR4, zR5, zR6⟩ := box7z (MSt.box (MSt.nth (L1 := [_, _]) H3.out)))
        | fail)
      all_goals
        go_wp2_with fail
        obtain ⟨W7, hW, hg, y0, y1, y2, y3, y4, y5, y6⟩ := MSt.put (MSt.nth (L1 := [_, _]) H3.out) (.int .i64 vy0) (.int .i64 vy1) (.int .i64 vy2) (.string vy3) (.slice vy4 vn4 vc4) (.slice vy5 vn5 vc5) (.slice vy6 vn6 vc6)
        rw [← hW]
        refine bodyPost_ret (v := .agg #[.int .i64 vy0, .int .i64 vy1, .int .i64 vy2, .string vy3, .slice vy4 vn4 vc4, .slice vy5 vn5 vc5, .slice vy6 vn6 vc6]) (by simp [results, Tryz.results24, go_sem, y0, y1, y2, y3, y4, y5, y6]) rfl (MSt.nth (L1 := [_]) hg).give
    · rw [if_neg hq4] at hsub
      have HS := Lib.hid (And.intro hsub (And.intro hlv (And.intro hlw hln)))
      clear hsub hlv hlw hm hln
      obtain ⟨fA0, fA1, fA2, fA3, fA4, fA5, fA6, fAlt⟩ := box7 (MSt.box (MSt.nth (L1 := [_, _, _]) H1.out))
      obtain ⟨fB0, fB1, fB2, fB3, fB4, fB5, fB6, fBlt⟩ := box7 (MSt.box (MSt.nth (L1 := [_, _]) H1.out))
      go_wp2_with fail
      go_region_law (first
        | (
          go_simp
          go_at_call 74
          refine (l1Min_any (i : Int) (l'.length : Int) (m : Int) hmin.symm _).mono ?_
          rintro e w2 ⟨rfl, hb⟩
          have H2 := Lib.hid (H1.out.drew.later hb)
          clear hb
          obtain ⟨fA0, fA1, fA2, fA3, fA4, fA5, fA6, fAlt⟩ := box7 (MSt.box (MSt.nth (L1 := [_, _, _]) H2.out))
          obtain ⟨fB0, fB1, fB2, fB3, fB4, fB5, fB6, fBlt⟩ := box7 (MSt.box (MSt.nth (L1 := [_, _]) H2.out)))
        | (
          go_simp
          go_at_call 73
          refine (specListM_any _ (l'.length - m) HS.out.2.2.2.symm HS.out.2.1 HS.out.2.2.1 (Option.map (fun x => x.add (m * 7)) A4') (q4' - m) _ ((HS.out.1.below H2.out.bel).more H2.out.size)).mono ?_
          rintro e w3 ⟨csT, fpT, rfl, how, hnf, hb⟩
          obtain ⟨vy0, vy1, vy2, vy3, vy4, vn4, vc4, vy5, vn5, vc5, vy6, vn6, vc6, rfl⟩ := IsVal.form (isVal_valD _ _ _ _ HS.out.2.1) how.read
          have H3 := Lib.hid (H2.out.add hb (owA_at how hnf))
          clear how hnf hb
          obtain ⟨fR0, fR1, fR2, fR3, fR4, fR5, fR6, fRlt⟩ := box7 (MSt.box (MSt.nth (L1 := [_, _]) H3.out))
          obtain ⟨zR0, zR1, zR2, zR3, zR4, zR5, zR6⟩ := box7z (MSt.box (MSt.nth (L1 := [_, _]) H3.out)))
        | fail)
      all_goals
        go_wp2_with fail
        obtain ⟨W7, hW, hg, y0, y1, y2, y3, y4, y5, y6⟩ := MSt.put (MSt.nth (L1 := [_, _]) H3.out) (.int .i64 vy0) (.int .i64 vy1) (.int .i64 vy2) (.string vy3) (.slice vy4 vn4 vc4) (.slice vy5 vn5 vc5) (.slice vy6 vn6 vc6)
        rw [← hW]
        refine bodyPost_ret (v := .agg #[.int .i64 vy0, .int .i64 vy1, .int .i64 vy2, .string vy3, .slice vy4 vn4 vc4, .slice vy5 vn5 vc5, .slice vy6 vn6 vc6]) (by simp [results, Tryz.results24, go_sem, y0, y1, y2, y3, y4, y5, y6]) rfl (MSt.nth (L1 := [_]) hg).give
  obtain rfl : k' = 4 := by rcases hkk with h | h; exact absurd h hl3; exact h
  have hst := str_fine HV.out.2.1 HN.out rfl
  unfold NumOk at hst
  simp only [Dt.nm, Dt.stp] at hst
  obtain ⟨⟨b1, b2⟩, b3, b4⟩ := hst
  clear hl3 hkk
  obtain ⟨⟨m1, m2⟩, m3, m4⟩ := prod_bd b1 b2 b3 b4 (i := (i : Int)) (by omega) (by omega)
  have hy : NumOk (n' + (i : Int) * s') → d = strD (n' + (i : Int) * s') s' := fun h => hd.trans (by exact skip_yes (by simp [Dt.nm]) (by simp [Dt.kd]) h)
  have hn : ¬ NumOk (n' + (i : Int) * s') → d = errD 5 := fun h => hd.trans (by exact skip_no (by simp [Dt.nm]) (by simp [Dt.kd]) h)
  have HD := Lib.hid (And.intro hy hn)
  clear hy hn hd
  by_cases hok : NumOk (n' + (i : Int) * s')
  · obtain rfl := HD.out.1 hok
    have htw := Two.ok (f := nthD) ⟨HFA.out, HN.out, rfl, .inr rfl⟩
    rw [nth_str (by simp [Dt.nm]) (by simp [Dt.kd])] at htw
    have htw := (show chkD (n' + (i : Int) * s') = valD 1 (n' + (i : Int) * s') ⟨#[]⟩ [] from chkD_yes hok) ▸ htw
    have HT := Lib.hid htw
    clear htw
    obtain ⟨fA0, fA1, fA2, fA3, fA4, fA5, fA6, fAlt⟩ := box7 (MSt.box (MSt.nth (L1 := [_, _, _]) H1.out))
    obtain ⟨fB0, fB1, fB2, fB3, fB4, fB5, fB6, fBlt⟩ := box7 (MSt.box (MSt.nth (L1 := [_, _]) H1.out))
    go_wp2_with fail
    clear fA0 fA1 fA2 fA3 fA4 fA5 fA6 fAlt fB0 fB1 fB2 fB3 fB4 fB5 fB6 fBlt
    refine ((specNth_any HV.out.1 HV.out.2.1 HV.out.2.2.1 _ _ _ ((HV.out.2.2.2.1.below H1.out.bel).more H1.out.size) ((HV.out.2.2.2.2.1.below H1.out.bel).more H1.out.size) (valD 1 (n' + (i : Int) * s') ⟨#[]⟩ []) HT.out).mono fun e w' h => ToA.flat h).mono ?_
    rintro e w2 ⟨A7, e7, A8, e8, A9, e9, fp, rfl, how, hnf, hb⟩
    have H2 := Lib.hid (H1.out.add hb (owA_at how hnf))
    clear how hnf hb
    obtain ⟨fB0, fB1, fB2, fB3, fB4, fB5, fB6, fBlt⟩ := box7 (MSt.box (MSt.nth (L1 := [_, _, _]) H2.out))
    go_wp2_with fail
    clear fB0 fB1 fB2 fB3 fB4 fB5 fB6 fBlt
    have H3 := Lib.hid (H2.out.new 28 7 #[.int .i64 1, .int .i64 (n' + (i : Int) * s'), .int .i64 0, .string ⟨#[]⟩, .slice A7 0 e7, .slice A8 0 e8, .slice A9 0 e9] rfl)
    refine (specStreamValue_any (n' + (i : Int) * s') s' _).mono ?_
    rintro e w4 ⟨rfl, hb⟩
    have H4 := Lib.hid (H3.out.later hb)
    clear hb
    obtain ⟨fR0, fR1, fR2, fR3, fR4, fR5, fR6, fRlt⟩ := box7 (MSt.box (MSt.nth (L1 := [_, _, _]) H4.out))
    obtain ⟨zR0, zR1, zR2, zR3, zR4, zR5, zR6⟩ := box7z (MSt.box (MSt.nth (L1 := [_, _, _]) H4.out))
    go_wp2_with fail
    obtain ⟨W7, hW, hg, y0, y1, y2, y3, y4, y5, y6⟩ := MSt.put (MSt.nth (L1 := [_, _, _]) H4.out) (.int .i64 4) (.int .i64 (n' + (i : Int) * s')) (.int .i64 s') (.string ⟨#[]⟩) (.slice none 0 0) (.slice none 0 0) (.slice none 0 0)
    rw [← hW]
    refine bodyPost_ret (v := .agg #[.int .i64 4, .int .i64 (n' + (i : Int) * s'), .int .i64 s', .string ⟨#[]⟩, .slice none 0 0, .slice none 0 0, .slice none 0 0]) (by simp [results, Tryz.results24, go_sem, y0, y1, y2, y3, y4, y5, y6]) rfl (toA_str hg.bel)
  · obtain rfl := HD.out.2 hok
    have htw := Two.ok (f := nthD) ⟨HFA.out, HN.out, rfl, .inr rfl⟩
    rw [nth_str (by simp [Dt.nm]) (by simp [Dt.kd])] at htw
    have htw := (show chkD (n' + (i : Int) * s') = valD 6 5 ⟨#[]⟩ [] from chkD_no hok) ▸ htw
    have HT := Lib.hid htw
    clear htw
    obtain ⟨fA0, fA1, fA2, fA3, fA4, fA5, fA6, fAlt⟩ := box7 (MSt.box (MSt.nth (L1 := [_, _, _]) H1.out))
    obtain ⟨fB0, fB1, fB2, fB3, fB4, fB5, fB6, fBlt⟩ := box7 (MSt.box (MSt.nth (L1 := [_, _]) H1.out))
    go_wp2_with fail
    clear fA0 fA1 fA2 fA3 fA4 fA5 fA6 fAlt fB0 fB1 fB2 fB3 fB4 fB5 fB6 fBlt
    refine ((specNth_any HV.out.1 HV.out.2.1 HV.out.2.2.1 _ _ _ ((HV.out.2.2.2.1.below H1.out.bel).more H1.out.size) ((HV.out.2.2.2.2.1.below H1.out.bel).more H1.out.size) (valD 6 5 ⟨#[]⟩ []) HT.out).mono fun e w' h => ToA.flat h).mono ?_
    rintro e w2 ⟨A7, e7, A8, e8, A9, e9, fp, rfl, how, hnf, hb⟩
    have H2 := Lib.hid (H1.out.add hb (owA_at how hnf))
    clear how hnf hb
    obtain ⟨fR0, fR1, fR2, fR3, fR4, fR5, fR6, fRlt⟩ := box7 (MSt.box (MSt.nth (L1 := [_, _]) H2.out))
    obtain ⟨zR0, zR1, zR2, zR3, zR4, zR5, zR6⟩ := box7z (MSt.box (MSt.nth (L1 := [_, _]) H2.out))
    go_wp2_with fail
    obtain ⟨W7, hW, hg, y0, y1, y2, y3, y4, y5, y6⟩ := MSt.put (MSt.nth (L1 := [_, _]) H2.out) (.int .i64 6) (.int .i64 5) (.int .i64 0) (.string ⟨#[]⟩) (.slice A7 0 e7) (.slice A8 0 e8) (.slice A9 0 e9)
    rw [← hW]
    have hg2 := hg.alloc (.cells #[.int .i64 6, .int .i64 5, .int .i64 0, .string ⟨#[]⟩, .slice A7 0 e7, .slice A8 0 e8, .slice A9 0 e9] 28)
    clear hg y0 y1 y2 y3 y4 y5 y6
    have hg := hg2
    obtain ⟨y0, y1, y2, y3, y4, y5, y6, ylt⟩ := box7 (MSt.box hg2)
    refine bodyPost_ret (v := .agg #[.int .i64 6, .int .i64 5, .int .i64 0, .string ⟨#[]⟩, .slice A7 0 e7, .slice A8 0 e8, .slice A9 0 e9]) (by simp [results, Tryz.results24, go_sem, y0, y1, y2, y3, y4, y5, y6]) rfl (MSt.nth (L1 := [_]) hg).give

end Go.Proofs.YtabcmnlmmpbmnaaGreat

/-
  More of what the functions of lists and streams give.
-/

namespace Go.Proofs.YtabcmnlmmpbmnaaGreat
open Go.RowKit
set_option linter.unusedVariables false

theorem Two.wtTake {a b d : Dt} (h : Two takeD a b d) (hb : IsVal b) (hw : b.wt ≤ 1048576) : d.wt ≤ 1048576 := by
  cases h with
  | err c h => rw [wt_err]; omega
  | ok h => exact wt_takeD a hb hw
/-- A value's list can be read. -/
theorem rd_lst4 {w : World} {B : Nat} {k m s : Int} {t : ByteArray} {l c r : List Dt} {y0 y1 y2 : Int} {y3 : ByteArray} {A4 : Option Addr} {n4 q4 : Nat} {v5 v6 : Value}
    (h : Rd w B (.agg [.int k, .int m, .int s, .str t, .lst l, .lst c, .lst r]) [.int .i64 y0, .int .i64 y1, .int .i64 y2, .string y3, .slice A4 n4 q4, v5, v6]) : n4 = l.length ∧ Rd w B (.lst l) [.slice A4 l.length q4] := by
  obtain ⟨A4', c4, A5, c5, A6, c6, he, h4, -⟩ := Rd.ofValue h
  simp only [List.cons.injEq, Value.slice.injEq] at he
  obtain ⟨-, -, -, -, ⟨rfl, rfl, rfl⟩, -⟩ := he
  exact ⟨rfl, h4⟩
/-- All sums on the way are in range, if the last one is. -/
theorem sum_part {l : List Dt} (h : (sumL l).kd = 1) {j : Nat} (hj : j ≤ l.length) : ∃ s, NumOk s ∧ sumL (l.take j) = valD 1 s ⟨#[]⟩ [] := by
  rcases ne_sum (l.take j) with ⟨s, h1, h2⟩ | ⟨c, h1, h2, h3⟩
  · exact ⟨s, h1, h2⟩
  · have h4 := sum_stop hj (by rw [h3]; rfl)
    rw [h4, h3] at h
    exact absurd (show (6 : Int) = 1 from h) (by decide)
theorem sum_step {l : List Dt} (h : (sumL l).kd = 1) {j : Nat} (hj : j < l.length) {s : Int} (hs : sumL (l.take j) = valD 1 s ⟨#[]⟩ []) :
    NumOk (s + (l[j]).nm) ∧ sumL (l.take (j + 1)) = valD 1 (s + (l[j]).nm) ⟨#[]⟩ [] := by
  obtain ⟨s', h1, h2⟩ := sum_part h (j := j + 1) hj
  have h3 := sum_next hj
  have hk : (sumL (l.take j)).kd = 1 := by rw [hs]; rfl
  by_cases hx : (l[j]).kd = 1
  · rw [step_num hk hx, hs] at h3
    have h4 : sumL (l.take (j + 1)) = chkD (s + (l[j]).nm) := h3
    by_cases hn : NumOk (s + (l[j]).nm)
    · exact ⟨hn, by rw [h4, chkD_yes hn]⟩
    · rw [h4, chkD_no hn] at h2
      exact absurd (show (6 : Int) = 1 from congrArg Dt.kd h2) (by decide)
  · rw [step_type hk hx, h2] at h3
    exact absurd (show (1 : Int) = 6 from congrArg Dt.kd h3) (by decide)
/-- A sum that is a number is that of the list. -/
theorem sum_fine {a d : Dt} (h : One sumD a d) (hk : a.kd = 3) (hd : d.kd = 1) : d = sumL a.el := by
  cases h with
  | err c h => exact absurd (show (6 : Int) = 1 from hd) (by decide)
  | ok h => exact if_pos hk
end Go.Proofs.YtabcmnlmmpbmnaaGreat
