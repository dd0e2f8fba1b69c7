/-
  Texts that the proof rests on, put together: ApIlo, ApIhi, ApSpec, ApS1, ApS2.
-/
import Derived.Test.YtabcmnlmmpbmnaaGreatMgH51
/-
  ApplyOperator, the program's, at one operator. (Written by genopwalk.py.)
-/

namespace Go.Proofs.YtabcmnlmmpbmnaaGreat
open Go.RowKit
set_option linter.unusedVariables false

set_option maxHeartbeats 3200000 in
set_option maxRecDepth 100000 in
theorem implAp_lo {a b : Dt} (ha : IsVal a) (hb : IsVal b) (hwt : a.wt + b.wt ≤ 1048576) (cs cs' : List Value) (w : World) (h : Rd w w.heap.size a cs) (h' : Rd w w.heap.size b cs') (op : Int) (hop : op < 1) (hf : Fine a) (hf2 : Fine b) :
    Calls Tryz.prog 13 #[.int .i64 op, .agg cs.toArray, .agg cs'.toArray] w (ToA w (errD 4)) := by
  have HV := Lib.hid (And.intro ha (And.intro hb (And.intro hwt (And.intro (fine_num ha hf) (fine_num hb hf2)))))
  have hfd := field_app
  have HOP := Lib.hid hop
  clear hop
  have hfirst := fun (wx : World) (hb0 : Below w.heap.size w wx) (g : Nat) (ho : wx.ownsRow 0 28 7 (.slice (some ⟨g, 0, none⟩) 2 2) 2 (cs ++ cs')) => implFirst_none ha hb (by omega) (by omega) cs cs' wx ((h.below hb0).more hb0.size) ((h'.below hb0).more hb0.size) g ho hf hf2
  have HH := Lib.hid (And.intro h h')
  obtain ⟨k, n, s, t, l, c, r, hl, hr⟩ := ha
  obtain ⟨k', n', s', t', l', c', r', hl', hr'⟩ := hb
  obtain ⟨A4, q4, A5, q5, A6, q6, rfl, -, -, -⟩ := Rd.ofValue h
  obtain ⟨A4', q4', A5', q5', A6', q6', rfl, -, -, -⟩ := Rd.ofValue h'
  simp only [List.length_map] at HH hfirst ⊢
  have HF := Lib.hid hfirst
  clear hfirst h h' hl hr hl' hr'
  have h0 := ((((MSt.start w).new 28 7 #[.int .i64 k, .int .i64 n, .int .i64 s, .string t, .slice A4 l.length q4, .slice A5 c.length q5, .slice A6 r.length q6] rfl).new 28 7 #[.int .i64 k', .int .i64 n', .int .i64 s', .string t', .slice A4' l'.length q4', .slice A5' c'.length q5', .slice A6' r'.length q6'] rfl).new 28 7 #[.int .i64 0, .int .i64 0, .int .i64 0, .string ⟨#[]⟩, .slice none 0 0, .slice none 0 0, .slice none 0 0] rfl).alloc (.cells #[.int .i64 k, .int .i64 n, .int .i64 s, .string t, .slice A4 l.length q4, .slice A5 c.length q5, .slice A6 r.length q6, .int .i64 k', .int .i64 n', .int .i64 s', .string t', .slice A4' l'.length q4', .slice A5' c'.length q5', .slice A6' r'.length q6'] 28)
  simp only [World.size_alloc] at h0
  have H0 := Lib.hid h0
  have ho := World.ownsRow_lit (base := 0) (e := 28) (size := 7) (((w.alloc (.cells #[.int .i64 k, .int .i64 n, .int .i64 s, .string t, .slice A4 l.length q4, .slice A5 c.length q5, .slice A6 r.length q6] 28)).alloc (.cells #[.int .i64 k', .int .i64 n', .int .i64 s', .string t', .slice A4' l'.length q4', .slice A5' c'.length q5', .slice A6' r'.length q6'] 28)).alloc (.cells #[.int .i64 0, .int .i64 0, .int .i64 0, .string ⟨#[]⟩, .slice none 0 0, .slice none 0 0, .slice none 0 0] 28)) #[.int .i64 k, .int .i64 n, .int .i64 s, .string t, .slice A4 l.length q4, .slice A5 c.length q5, .slice A6 r.length q6, .int .i64 k', .int .i64 n', .int .i64 s', .string t', .slice A4' l'.length q4', .slice A5' c'.length q5', .slice A6' r'.length q6'] 2 (Nat.zero_le _) (by unfold maxLen; omega) rfl
  simp only [World.size_alloc] at ho
  have HO := Lib.hid ho
  clear h0 ho
  clear hf hf2 hwt
  go_enter Tryz.func13, Tryz.ntmps13
  go_wp2_with fail
  refine (HF.out _ H0.out.bel _ HO.out).mono ?_
  rintro e w1 ⟨rfl, hb⟩
  have H1 := Lib.hid ((H0.out.later hb).new 28 7 #[.int .i64 0, .int .i64 0, .int .i64 0, .string ⟨#[]⟩, .slice none 0 0, .slice none 0 0, .slice none 0 0] rfl)
  have hz := hb.size
  simp at hz
  clear hb
  go_wp2_with fail
  generalize hW1 : w1.alloc (.cells #[.int .i64 0, .int .i64 0, .int .i64 0, .string ⟨#[]⟩, .slice none 0 0, .slice none 0 0, .slice none 0 0] 28) = W1 at H1 ⊢
  clear hW1 hz
  have hbx := (MSt.nth (L1 := [_, _, _]) H1.out).box
  obtain ⟨p0, p1, p2, p3, p4, p5, p6, plt⟩ := box7 hbx
  clear hbx
  have hbx := (MSt.nth (L1 := [_, _]) H1.out).box
  obtain ⟨q0, q1, q2, q3, q4, q5, q6, qlt⟩ := box7 hbx
  clear hbx
  go_region_law (first
    | (go_simp
       go_at_call 49
       refine (operatorOf_lo op HOP.out _).mono ?_
       rintro e w2 ⟨rfl, hb⟩
       have H2 := Lib.hid (H1.out.drew.later hb)
       have hbx := (MSt.nth (L1 := [_, _, _]) H2.out).box
       obtain ⟨u0, u1, u2, u3, u4, u5, u6, ult⟩ := box7 hbx
       clear hbx
       have hbx := (MSt.nth (L1 := [_, _]) H2.out).box
       obtain ⟨v0, v1, v2, v3, v4, v5, v6, vlt⟩ := box7 hbx
       clear hbx
       clear hb)
    | (go_simp
       go_at_call 121
       refine (noOperator_any HV.out.1 HV.out.2.1 HV.out.2.2.1 HV.out.2.2.2.1 HV.out.2.2.2.2 _ _ _ ((HH.out.1.below H2.out.bel).more H2.out.size) ((HH.out.2.below H2.out.bel).more H2.out.size)).mono ?_
       rintro e w3 ⟨cs, fp, rfl, how, hnf, hb⟩
       obtain ⟨y0, y1, y2, y3, y4, m4, q4y, y5, m5, q5y, y6, m6, q6y, rfl⟩ := IsVal.form (isVal_flatD _ _ _) how.read
       have H3 := Lib.hid (H2.out.add hb (owA_at how hnf))
       clear how hnf hb
       have hbx := (MSt.nth (L1 := [_, _]) H3.out).box
       obtain ⟨x0, x1, x2, x3, x4, x5, x6, xlt⟩ := box7 hbx
       obtain ⟨xz0, xz1, xz2, xz3, xz4, xz5, xz6⟩ := box7z hbx
       clear hbx)
    | fail)
  all_goals
    go_wp2_with fail
    have hg := (MSt.nth (L1 := [_, _]) H3.out).set7 [.int .i64 y0, .int .i64 y1, .int .i64 y2, .string y3, .slice y4 m4 q4y, .slice y5 m5 q5y, .slice y6 m6 q6y] rfl
    simp only [World.setCells, Nat.zero_add, Nat.reduceAdd] at hg
    generalize (((((((w3.setCell ⟨w.heap.size + 1 + 1, 0, none⟩ (.int .i64 y0)).setCell ⟨w.heap.size + 1 + 1, 1, none⟩ (.int .i64 y1)).setCell ⟨w.heap.size + 1 + 1, 2, none⟩ (.int .i64 y2)).setCell ⟨w.heap.size + 1 + 1, 3, none⟩ (.string y3)).setCell ⟨w.heap.size + 1 + 1, 4, none⟩ (.slice y4 m4 q4y)).setCell ⟨w.heap.size + 1 + 1, 5, none⟩ (.slice y5 m5 q5y)).setCell ⟨w.heap.size + 1 + 1, 6, none⟩ (.slice y6 m6 q6y)) = W7 at hg ⊢
    obtain ⟨z0, z1, z2, z3, z4, z5, z6, hlz⟩ := box7 hg.box
    refine bodyPost_ret (v := .agg #[.int .i64 y0, .int .i64 y1, .int .i64 y2, .string y3, .slice y4 m4 q4y, .slice y5 m5 q5y, .slice y6 m6 q6y]) (by simp [results, Tryz.results13, go_sem, z0, z1, z2, z3, z4, z5, z6]) rfl ⟨[.int .i64 y0, .int .i64 y1, .int .i64 y2, .string y3, .slice y4 m4 q4y, .slice y5 m5 q5y, .slice y6 m6 q6y], _, rfl, (MSt.nth (L1 := [_]) hg).objs.out.1, (MSt.nth (L1 := [_]) hg).objs.out.2, hg.bel⟩

end Go.Proofs.YtabcmnlmmpbmnaaGreat

/-
  ApplyOperator, the program's, at one operator. (Written by genopwalk.py.)
-/

namespace Go.Proofs.YtabcmnlmmpbmnaaGreat
open Go.RowKit
set_option linter.unusedVariables false

set_option maxHeartbeats 3200000 in
set_option maxRecDepth 100000 in
theorem implAp_hi {a b : Dt} (ha : IsVal a) (hb : IsVal b) (hwt : a.wt + b.wt ≤ 1048576) (cs cs' : List Value) (w : World) (h : Rd w w.heap.size a cs) (h' : Rd w w.heap.size b cs') (op : Int) (hop : 5 < op) (hf : Fine a) (hf2 : Fine b) :
    Calls Tryz.prog 13 #[.int .i64 op, .agg cs.toArray, .agg cs'.toArray] w (ToA w (errD 4)) := by
  have HV := Lib.hid (And.intro ha (And.intro hb (And.intro hwt (And.intro (fine_num ha hf) (fine_num hb hf2)))))
  have hfd := field_app
  have HOP := Lib.hid hop
  clear hop
  have hfirst := fun (wx : World) (hb0 : Below w.heap.size w wx) (g : Nat) (ho : wx.ownsRow 0 28 7 (.slice (some ⟨g, 0, none⟩) 2 2) 2 (cs ++ cs')) => implFirst_none ha hb (by omega) (by omega) cs cs' wx ((h.below hb0).more hb0.size) ((h'.below hb0).more hb0.size) g ho hf hf2
  have HH := Lib.hid (And.intro h h')
  obtain ⟨k, n, s, t, l, c, r, hl, hr⟩ := ha
  obtain ⟨k', n', s', t', l', c', r', hl', hr'⟩ := hb
  obtain ⟨A4, q4, A5, q5, A6, q6, rfl, -, -, -⟩ := Rd.ofValue h
  obtain ⟨A4', q4', A5', q5', A6', q6', rfl, -, -, -⟩ := Rd.ofValue h'
  simp only [List.length_map] at HH hfirst ⊢
  have HF := Lib.hid hfirst
  clear hfirst h h' hl hr hl' hr'
  have h0 := ((((MSt.start w).new 28 7 #[.int .i64 k, .int .i64 n, .int .i64 s, .string t, .slice A4 l.length q4, .slice A5 c.length q5, .slice A6 r.length q6] rfl).new 28 7 #[.int .i64 k', .int .i64 n', .int .i64 s', .string t', .slice A4' l'.length q4', .slice A5' c'.length q5', .slice A6' r'.length q6'] rfl).new 28 7 #[.int .i64 0, .int .i64 0, .int .i64 0, .string ⟨#[]⟩, .slice none 0 0, .slice none 0 0, .slice none 0 0] rfl).alloc (.cells #[.int .i64 k, .int .i64 n, .int .i64 s, .string t, .slice A4 l.length q4, .slice A5 c.length q5, .slice A6 r.length q6, .int .i64 k', .int .i64 n', .int .i64 s', .string t', .slice A4' l'.length q4', .slice A5' c'.length q5', .slice A6' r'.length q6'] 28)
  simp only [World.size_alloc] at h0
  have H0 := Lib.hid h0
  have ho := World.ownsRow_lit (base := 0) (e := 28) (size := 7) (((w.alloc (.cells #[.int .i64 k, .int .i64 n, .int .i64 s, .string t, .slice A4 l.length q4, .slice A5 c.length q5, .slice A6 r.length q6] 28)).alloc (.cells #[.int .i64 k', .int .i64 n', .int .i64 s', .string t', .slice A4' l'.length q4', .slice A5' c'.length q5', .slice A6' r'.length q6'] 28)).alloc (.cells #[.int .i64 0, .int .i64 0, .int .i64 0, .string ⟨#[]⟩, .slice none 0 0, .slice none 0 0, .slice none 0 0] 28)) #[.int .i64 k, .int .i64 n, .int .i64 s, .string t, .slice A4 l.length q4, .slice A5 c.length q5, .slice A6 r.length q6, .int .i64 k', .int .i64 n', .int .i64 s', .string t', .slice A4' l'.length q4', .slice A5' c'.length q5', .slice A6' r'.length q6'] 2 (Nat.zero_le _) (by unfold maxLen; omega) rfl
  simp only [World.size_alloc] at ho
  have HO := Lib.hid ho
  clear h0 ho
  clear hf hf2 hwt
  go_enter Tryz.func13, Tryz.ntmps13
  go_wp2_with fail
  refine (HF.out _ H0.out.bel _ HO.out).mono ?_
  rintro e w1 ⟨rfl, hb⟩
  have H1 := Lib.hid ((H0.out.later hb).new 28 7 #[.int .i64 0, .int .i64 0, .int .i64 0, .string ⟨#[]⟩, .slice none 0 0, .slice none 0 0, .slice none 0 0] rfl)
  have hz := hb.size
  simp at hz
  clear hb
  go_wp2_with fail
  generalize hW1 : w1.alloc (.cells #[.int .i64 0, .int .i64 0, .int .i64 0, .string ⟨#[]⟩, .slice none 0 0, .slice none 0 0, .slice none 0 0] 28) = W1 at H1 ⊢
  clear hW1 hz
  have hbx := (MSt.nth (L1 := [_, _, _]) H1.out).box
  obtain ⟨p0, p1, p2, p3, p4, p5, p6, plt⟩ := box7 hbx
  clear hbx
  have hbx := (MSt.nth (L1 := [_, _]) H1.out).box
  obtain ⟨q0, q1, q2, q3, q4, q5, q6, qlt⟩ := box7 hbx
  clear hbx
  go_region_law (first
    | (go_simp
       go_at_call 49
       refine (operatorOf_hi op HOP.out _).mono ?_
       rintro e w2 ⟨rfl, hb⟩
       have H2 := Lib.hid (H1.out.drew.later hb)
       have hbx := (MSt.nth (L1 := [_, _, _]) H2.out).box
       obtain ⟨u0, u1, u2, u3, u4, u5, u6, ult⟩ := box7 hbx
       clear hbx
       have hbx := (MSt.nth (L1 := [_, _]) H2.out).box
       obtain ⟨v0, v1, v2, v3, v4, v5, v6, vlt⟩ := box7 hbx
       clear hbx
       clear hb)
    | (go_simp
       go_at_call 121
       refine (noOperator_any HV.out.1 HV.out.2.1 HV.out.2.2.1 HV.out.2.2.2.1 HV.out.2.2.2.2 _ _ _ ((HH.out.1.below H2.out.bel).more H2.out.size) ((HH.out.2.below H2.out.bel).more H2.out.size)).mono ?_
       rintro e w3 ⟨cs, fp, rfl, how, hnf, hb⟩
       obtain ⟨y0, y1, y2, y3, y4, m4, q4y, y5, m5, q5y, y6, m6, q6y, rfl⟩ := IsVal.form (isVal_flatD _ _ _) how.read
       have H3 := Lib.hid (H2.out.add hb (owA_at how hnf))
       clear how hnf hb
       have hbx := (MSt.nth (L1 := [_, _]) H3.out).box
       obtain ⟨x0, x1, x2, x3, x4, x5, x6, xlt⟩ := box7 hbx
       obtain ⟨xz0, xz1, xz2, xz3, xz4, xz5, xz6⟩ := box7z hbx
       clear hbx)
    | fail)
  all_goals
    go_wp2_with fail
    have hg := (MSt.nth (L1 := [_, _]) H3.out).set7 [.int .i64 y0, .int .i64 y1, .int .i64 y2, .string y3, .slice y4 m4 q4y, .slice y5 m5 q5y, .slice y6 m6 q6y] rfl
    simp only [World.setCells, Nat.zero_add, Nat.reduceAdd] at hg
    generalize (((((((w3.setCell ⟨w.heap.size + 1 + 1, 0, none⟩ (.int .i64 y0)).setCell ⟨w.heap.size + 1 + 1, 1, none⟩ (.int .i64 y1)).setCell ⟨w.heap.size + 1 + 1, 2, none⟩ (.int .i64 y2)).setCell ⟨w.heap.size + 1 + 1, 3, none⟩ (.string y3)).setCell ⟨w.heap.size + 1 + 1, 4, none⟩ (.slice y4 m4 q4y)).setCell ⟨w.heap.size + 1 + 1, 5, none⟩ (.slice y5 m5 q5y)).setCell ⟨w.heap.size + 1 + 1, 6, none⟩ (.slice y6 m6 q6y)) = W7 at hg ⊢
    obtain ⟨z0, z1, z2, z3, z4, z5, z6, hlz⟩ := box7 hg.box
    refine bodyPost_ret (v := .agg #[.int .i64 y0, .int .i64 y1, .int .i64 y2, .string y3, .slice y4 m4 q4y, .slice y5 m5 q5y, .slice y6 m6 q6y]) (by simp [results, Tryz.results13, go_sem, z0, z1, z2, z3, z4, z5, z6]) rfl ⟨[.int .i64 y0, .int .i64 y1, .int .i64 y2, .string y3, .slice y4 m4 q4y, .slice y5 m5 q5y, .slice y6 m6 q6y], _, rfl, (MSt.nth (L1 := [_]) hg).objs.out.1, (MSt.nth (L1 := [_]) hg).objs.out.2, hg.bel⟩

end Go.Proofs.YtabcmnlmmpbmnaaGreat

/-
  ApplyOperator, the model's: errors. (Written by genopwalk.py.)
-/

namespace Go.Proofs.YtabcmnlmmpbmnaaGreat
open Go.RowKit
set_option linter.unusedVariables false

set_option maxHeartbeats 1600000 in
set_option maxRecDepth 100000 in
theorem specAp_err {a b : Dt} (ha : IsVal a) (hb : IsVal b) (hwt : a.wt + b.wt ≤ 1048576) (cs cs' : List Value) (w : World) (h : Rd w w.heap.size a cs) (h' : Rd w w.heap.size b cs') (op : Int) (ec : Int) (he : ErrOf a ec ∨ (Fine a ∧ ErrOf b ec)) :
    Calls Tryz.prog 15 #[.int .i64 op, .agg cs.toArray, .agg cs'.toArray] w (ToA w (errD ec)) := by
  rw [show errD ec = valD 6 ec ⟨#[]⟩ [] from rfl]
  have hfirst := fun (wx : World) (hb0 : Below w.heap.size w wx) (g : Nat) (ho : wx.ownsRow 0 28 7 (.slice (some ⟨g, 0, none⟩) 2 2) 2 (cs ++ cs')) => specFirst_yes ha hb hwt cs cs' wx ((h.below hb0).more hb0.size) ((h'.below hb0).more hb0.size) ec he g ho
  have HH := Lib.hid (And.intro h h')
  obtain ⟨k, n, s, t, l, c, r, hl, hr⟩ := ha
  obtain ⟨k', n', s', t', l', c', r', hl', hr'⟩ := hb
  obtain ⟨A4, q4, A5, q5, A6, q6, rfl, -, -, -⟩ := Rd.ofValue h
  obtain ⟨A4', q4', A5', q5', A6', q6', rfl, -, -, -⟩ := Rd.ofValue h'
  simp only [List.length_map] at HH hfirst ⊢
  have HF := Lib.hid hfirst
  clear hfirst h h' hl hr hl' hr'
  have h0 := ((((MSt.start w).new 28 7 #[.int .i64 k, .int .i64 n, .int .i64 s, .string t, .slice A4 l.length q4, .slice A5 c.length q5, .slice A6 r.length q6] rfl).new 28 7 #[.int .i64 k', .int .i64 n', .int .i64 s', .string t', .slice A4' l'.length q4', .slice A5' c'.length q5', .slice A6' r'.length q6'] rfl).new 28 7 #[.int .i64 0, .int .i64 0, .int .i64 0, .string ⟨#[]⟩, .slice none 0 0, .slice none 0 0, .slice none 0 0] rfl).alloc (.cells #[.int .i64 k, .int .i64 n, .int .i64 s, .string t, .slice A4 l.length q4, .slice A5 c.length q5, .slice A6 r.length q6, .int .i64 k', .int .i64 n', .int .i64 s', .string t', .slice A4' l'.length q4', .slice A5' c'.length q5', .slice A6' r'.length q6'] 28)
  simp only [World.size_alloc] at h0
  have H0 := Lib.hid h0
  have ho := World.ownsRow_lit (base := 0) (e := 28) (size := 7) (((w.alloc (.cells #[.int .i64 k, .int .i64 n, .int .i64 s, .string t, .slice A4 l.length q4, .slice A5 c.length q5, .slice A6 r.length q6] 28)).alloc (.cells #[.int .i64 k', .int .i64 n', .int .i64 s', .string t', .slice A4' l'.length q4', .slice A5' c'.length q5', .slice A6' r'.length q6'] 28)).alloc (.cells #[.int .i64 0, .int .i64 0, .int .i64 0, .string ⟨#[]⟩, .slice none 0 0, .slice none 0 0, .slice none 0 0] 28)) #[.int .i64 k, .int .i64 n, .int .i64 s, .string t, .slice A4 l.length q4, .slice A5 c.length q5, .slice A6 r.length q6, .int .i64 k', .int .i64 n', .int .i64 s', .string t', .slice A4' l'.length q4', .slice A5' c'.length q5', .slice A6' r'.length q6'] 2 (Nat.zero_le _) (by unfold maxLen; omega) rfl
  simp only [World.size_alloc] at ho
  have HO := Lib.hid ho
  clear h0 ho
  clear he hwt
  go_enter Tryz.func15, Tryz.ntmps15
  go_wp2_with fail
  refine (HF.out _ H0.out.bel _ HO.out).mono ?_
  rintro e w1 ⟨rfl, hb⟩
  have H1 := Lib.hid ((H0.out.later hb).new 28 7 #[.int .i64 6, .int .i64 ec, .int .i64 0, .string ⟨#[]⟩, .slice none 0 0, .slice none 0 0, .slice none 0 0] rfl)
  have hz := hb.size
  simp at hz
  clear hb
  have hbx := (MSt.nth (L1 := [_]) H1.out).box
  obtain ⟨x0, x1, x2, x3, x4, x5, x6, xlt⟩ := box7 hbx
  obtain ⟨xz0, xz1, xz2, xz3, xz4, xz5, xz6⟩ := box7z hbx
  clear hbx
  go_wp2_with fail
  have hg := (MSt.nth (L1 := [_]) H1.out).set7 [.int .i64 6, .int .i64 ec, .int .i64 0, .string ⟨#[]⟩, .slice none 0 0, .slice none 0 0, .slice none 0 0] rfl
  simp only [World.setCells, Nat.zero_add, Nat.reduceAdd] at hg
  generalize ((((((((w1.alloc (.cells #[.int .i64 6, .int .i64 ec, .int .i64 0, .string ⟨#[]⟩, .slice none 0 0, .slice none 0 0, .slice none 0 0] 28)).setCell ⟨w.heap.size + 1 + 1, 0, none⟩ (.int .i64 6)).setCell ⟨w.heap.size + 1 + 1, 1, none⟩ (.int .i64 ec)).setCell ⟨w.heap.size + 1 + 1, 2, none⟩ (.int .i64 0)).setCell ⟨w.heap.size + 1 + 1, 3, none⟩ (.string ⟨#[]⟩)).setCell ⟨w.heap.size + 1 + 1, 4, none⟩ (.slice none 0 0)).setCell ⟨w.heap.size + 1 + 1, 5, none⟩ (.slice none 0 0)).setCell ⟨w.heap.size + 1 + 1, 6, none⟩ (.slice none 0 0)) = W7 at hg ⊢
  obtain ⟨z0, z1, z2, z3, z4, z5, z6, hlz⟩ := box7 hg.box
  refine bodyPost_ret (v := .agg #[.int .i64 6, .int .i64 ec, .int .i64 0, .string ⟨#[]⟩, .slice none 0 0, .slice none 0 0, .slice none 0 0]) (by simp [results, Tryz.results15, go_sem, z0, z1, z2, z3, z4, z5, z6]) rfl (toA_flat rfl hg.bel)

end Go.Proofs.YtabcmnlmmpbmnaaGreat

/-
  ApplyOperator, the model's, at one operator. (Written by genopwalk.py.)
-/

namespace Go.Proofs.YtabcmnlmmpbmnaaGreat
open Go.RowKit
set_option linter.unusedVariables false

set_option maxHeartbeats 3200000 in
set_option maxRecDepth 100000 in
theorem specAp_1 {a b : Dt} (ha : IsVal a) (hb : IsVal b) (hwt : a.wt + b.wt ≤ 1048576) (cs cs' : List Value) (w : World) (h : Rd w w.heap.size a cs) (h' : Rd w w.heap.size b cs') (hf : Fine a) (hf2 : Fine b) :
    Calls Tryz.prog 15 #[.int .i64 1, .agg cs.toArray, .agg cs'.toArray] w (ToA w (addD a b)) := by
  have HV := Lib.hid (And.intro ha (And.intro hb (And.intro hwt (And.intro (fine_num ha hf) (fine_num hb hf2)))))
  have hfirst := fun (wx : World) (hb0 : Below w.heap.size w wx) (g : Nat) (ho : wx.ownsRow 0 28 7 (.slice (some ⟨g, 0, none⟩) 2 2) 2 (cs ++ cs')) => specFirst_none ha hb (by omega) (by omega) cs cs' wx ((h.below hb0).more hb0.size) ((h'.below hb0).more hb0.size) g ho hf hf2
  have HH := Lib.hid (And.intro h h')
  obtain ⟨k, n, s, t, l, c, r, hl, hr⟩ := ha
  obtain ⟨k', n', s', t', l', c', r', hl', hr'⟩ := hb
  obtain ⟨A4, q4, A5, q5, A6, q6, rfl, -, -, -⟩ := Rd.ofValue h
  obtain ⟨A4', q4', A5', q5', A6', q6', rfl, -, -, -⟩ := Rd.ofValue h'
  simp only [List.length_map] at HH hfirst ⊢
  have HF := Lib.hid hfirst
  clear hfirst h h' hl hr hl' hr'
  have h0 := ((((MSt.start w).new 28 7 #[.int .i64 k, .int .i64 n, .int .i64 s, .string t, .slice A4 l.length q4, .slice A5 c.length q5, .slice A6 r.length q6] rfl).new 28 7 #[.int .i64 k', .int .i64 n', .int .i64 s', .string t', .slice A4' l'.length q4', .slice A5' c'.length q5', .slice A6' r'.length q6'] rfl).new 28 7 #[.int .i64 0, .int .i64 0, .int .i64 0, .string ⟨#[]⟩, .slice none 0 0, .slice none 0 0, .slice none 0 0] rfl).alloc (.cells #[.int .i64 k, .int .i64 n, .int .i64 s, .string t, .slice A4 l.length q4, .slice A5 c.length q5, .slice A6 r.length q6, .int .i64 k', .int .i64 n', .int .i64 s', .string t', .slice A4' l'.length q4', .slice A5' c'.length q5', .slice A6' r'.length q6'] 28)
  simp only [World.size_alloc] at h0
  have H0 := Lib.hid h0
  have ho := World.ownsRow_lit (base := 0) (e := 28) (size := 7) (((w.alloc (.cells #[.int .i64 k, .int .i64 n, .int .i64 s, .string t, .slice A4 l.length q4, .slice A5 c.length q5, .slice A6 r.length q6] 28)).alloc (.cells #[.int .i64 k', .int .i64 n', .int .i64 s', .string t', .slice A4' l'.length q4', .slice A5' c'.length q5', .slice A6' r'.length q6'] 28)).alloc (.cells #[.int .i64 0, .int .i64 0, .int .i64 0, .string ⟨#[]⟩, .slice none 0 0, .slice none 0 0, .slice none 0 0] 28)) #[.int .i64 k, .int .i64 n, .int .i64 s, .string t, .slice A4 l.length q4, .slice A5 c.length q5, .slice A6 r.length q6, .int .i64 k', .int .i64 n', .int .i64 s', .string t', .slice A4' l'.length q4', .slice A5' c'.length q5', .slice A6' r'.length q6'] 2 (Nat.zero_le _) (by unfold maxLen; omega) rfl
  simp only [World.size_alloc] at ho
  have HO := Lib.hid ho
  clear h0 ho
  clear hf hf2 hwt
  have e1 : (k == 1) = true ∨ (k == 1) = false := by cases (k == 1) <;> simp
  have e2 : (k' == 1) = true ∨ (k' == 1) = false := by cases (k' == 1) <;> simp
  rcases e1 with e1 | e1
  · rcases e2 with e2 | e2
    all_goals
      go_enter Tryz.func15, Tryz.ntmps15
      go_wp2_with fail
      refine (HF.out _ H0.out.bel _ HO.out).mono ?_
      rintro e w1 ⟨rfl, hb⟩
      have H1 := Lib.hid ((H0.out.later hb).new 28 7 #[.int .i64 0, .int .i64 0, .int .i64 0, .string ⟨#[]⟩, .slice none 0 0, .slice none 0 0, .slice none 0 0] rfl)
      have hz := hb.size
      simp at hz
      clear hb
      have hbx := (MSt.nth (L1 := [_, _, _]) H1.out).box
      obtain ⟨p0, p1, p2, p3, p4, p5, p6, plt⟩ := box7 hbx
      clear hbx
      have hbx := (MSt.nth (L1 := [_, _]) H1.out).box
      obtain ⟨u0, u1, u2, u3, u4, u5, u6, ult⟩ := box7 hbx
      clear hbx
      go_wp2_with fail
      refine (specAdd_any HV.out.1 HV.out.2.1 HV.out.2.2.1 HV.out.2.2.2.1 HV.out.2.2.2.2 _ _ _ ((HH.out.1.below H1.out.bel).more H1.out.size) ((HH.out.2.below H1.out.bel).more H1.out.size)).mono ?_
      rintro e w3 ⟨cs, fp, rfl, how, hnf, hb⟩
      obtain ⟨y0, y1, y2, y3, y4, m4, q4y, y5, m5, q5y, y6, m6, q6y, rfl⟩ := IsVal.form (isVal_addD HV.out.1 HV.out.2.1) how.read
      have H3 := Lib.hid (H1.out.add hb (owA_at how hnf))
      clear how hnf hb
      have hbx := (MSt.nth (L1 := [_, _]) H3.out).box
      obtain ⟨x0, x1, x2, x3, x4, x5, x6, xlt⟩ := box7 hbx
      obtain ⟨xz0, xz1, xz2, xz3, xz4, xz5, xz6⟩ := box7z hbx
      clear hbx
      go_wp2_with fail
      have hg := (MSt.nth (L1 := [_, _]) H3.out).set7 [.int .i64 y0, .int .i64 y1, .int .i64 y2, .string y3, .slice y4 m4 q4y, .slice y5 m5 q5y, .slice y6 m6 q6y] rfl
      simp only [World.setCells, Nat.zero_add, Nat.reduceAdd] at hg
      generalize (((((((w3.setCell ⟨w.heap.size + 1 + 1, 0, none⟩ (.int .i64 y0)).setCell ⟨w.heap.size + 1 + 1, 1, none⟩ (.int .i64 y1)).setCell ⟨w.heap.size + 1 + 1, 2, none⟩ (.int .i64 y2)).setCell ⟨w.heap.size + 1 + 1, 3, none⟩ (.string y3)).setCell ⟨w.heap.size + 1 + 1, 4, none⟩ (.slice y4 m4 q4y)).setCell ⟨w.heap.size + 1 + 1, 5, none⟩ (.slice y5 m5 q5y)).setCell ⟨w.heap.size + 1 + 1, 6, none⟩ (.slice y6 m6 q6y)) = W7 at hg ⊢
      obtain ⟨z0, z1, z2, z3, z4, z5, z6, hlz⟩ := box7 hg.box
      refine bodyPost_ret (v := .agg #[.int .i64 y0, .int .i64 y1, .int .i64 y2, .string y3, .slice y4 m4 q4y, .slice y5 m5 q5y, .slice y6 m6 q6y]) (by simp [results, Tryz.results15, go_sem, z0, z1, z2, z3, z4, z5, z6]) rfl ⟨[.int .i64 y0, .int .i64 y1, .int .i64 y2, .string y3, .slice y4 m4 q4y, .slice y5 m5 q5y, .slice y6 m6 q6y], _, rfl, (MSt.nth (L1 := [_]) hg).objs.out.1, (MSt.nth (L1 := [_]) hg).objs.out.2, hg.bel⟩
  · clear e2
    go_enter Tryz.func15, Tryz.ntmps15
    go_wp2_with fail
    refine (HF.out _ H0.out.bel _ HO.out).mono ?_
    rintro e w1 ⟨rfl, hb⟩
    have H1 := Lib.hid ((H0.out.later hb).new 28 7 #[.int .i64 0, .int .i64 0, .int .i64 0, .string ⟨#[]⟩, .slice none 0 0, .slice none 0 0, .slice none 0 0] rfl)
    have hz := hb.size
    simp at hz
    clear hb
    have hbx := (MSt.nth (L1 := [_, _, _]) H1.out).box
    obtain ⟨p0, p1, p2, p3, p4, p5, p6, plt⟩ := box7 hbx
    clear hbx
    have hbx := (MSt.nth (L1 := [_, _]) H1.out).box
    obtain ⟨u0, u1, u2, u3, u4, u5, u6, ult⟩ := box7 hbx
    clear hbx
    go_wp2_with fail
    refine (specAdd_any HV.out.1 HV.out.2.1 HV.out.2.2.1 HV.out.2.2.2.1 HV.out.2.2.2.2 _ _ _ ((HH.out.1.below H1.out.bel).more H1.out.size) ((HH.out.2.below H1.out.bel).more H1.out.size)).mono ?_
    rintro e w3 ⟨cs, fp, rfl, how, hnf, hb⟩
    obtain ⟨y0, y1, y2, y3, y4, m4, q4y, y5, m5, q5y, y6, m6, q6y, rfl⟩ := IsVal.form (isVal_addD HV.out.1 HV.out.2.1) how.read
    have H3 := Lib.hid (H1.out.add hb (owA_at how hnf))
    clear how hnf hb
    have hbx := (MSt.nth (L1 := [_, _]) H3.out).box
    obtain ⟨x0, x1, x2, x3, x4, x5, x6, xlt⟩ := box7 hbx
    obtain ⟨xz0, xz1, xz2, xz3, xz4, xz5, xz6⟩ := box7z hbx
    clear hbx
    go_wp2_with fail
    have hg := (MSt.nth (L1 := [_, _]) H3.out).set7 [.int .i64 y0, .int .i64 y1, .int .i64 y2, .string y3, .slice y4 m4 q4y, .slice y5 m5 q5y, .slice y6 m6 q6y] rfl
    simp only [World.setCells, Nat.zero_add, Nat.reduceAdd] at hg
    generalize (((((((w3.setCell ⟨w.heap.size + 1 + 1, 0, none⟩ (.int .i64 y0)).setCell ⟨w.heap.size + 1 + 1, 1, none⟩ (.int .i64 y1)).setCell ⟨w.heap.size + 1 + 1, 2, none⟩ (.int .i64 y2)).setCell ⟨w.heap.size + 1 + 1, 3, none⟩ (.string y3)).setCell ⟨w.heap.size + 1 + 1, 4, none⟩ (.slice y4 m4 q4y)).setCell ⟨w.heap.size + 1 + 1, 5, none⟩ (.slice y5 m5 q5y)).setCell ⟨w.heap.size + 1 + 1, 6, none⟩ (.slice y6 m6 q6y)) = W7 at hg ⊢
    obtain ⟨z0, z1, z2, z3, z4, z5, z6, hlz⟩ := box7 hg.box
    refine bodyPost_ret (v := .agg #[.int .i64 y0, .int .i64 y1, .int .i64 y2, .string y3, .slice y4 m4 q4y, .slice y5 m5 q5y, .slice y6 m6 q6y]) (by simp [results, Tryz.results15, go_sem, z0, z1, z2, z3, z4, z5, z6]) rfl ⟨[.int .i64 y0, .int .i64 y1, .int .i64 y2, .string y3, .slice y4 m4 q4y, .slice y5 m5 q5y, .slice y6 m6 q6y], _, rfl, (MSt.nth (L1 := [_]) hg).objs.out.1, (MSt.nth (L1 := [_]) hg).objs.out.2, hg.bel⟩

end Go.Proofs.YtabcmnlmmpbmnaaGreat

/-
  ApplyOperator, the model's, at one operator. (Written by genopwalk.py.)
-/

namespace Go.Proofs.YtabcmnlmmpbmnaaGreat
open Go.RowKit
set_option linter.unusedVariables false

set_option maxHeartbeats 3200000 in
set_option maxRecDepth 100000 in
theorem specAp_2 {a b : Dt} (ha : IsVal a) (hb : IsVal b) (hwt : a.wt + b.wt ≤ 1048576) (cs cs' : List Value) (w : World) (h : Rd w w.heap.size a cs) (h' : Rd w w.heap.size b cs') (hf : Fine a) (hf2 : Fine b) :
    Calls Tryz.prog 15 #[.int .i64 2, .agg cs.toArray, .agg cs'.toArray] w (ToA w (numD (· - ·) a b)) := by
  have HV := Lib.hid (And.intro ha (And.intro hb (And.intro hwt (And.intro (fine_num ha hf) (fine_num hb hf2)))))
  have hfirst := fun (wx : World) (hb0 : Below w.heap.size w wx) (g : Nat) (ho : wx.ownsRow 0 28 7 (.slice (some ⟨g, 0, none⟩) 2 2) 2 (cs ++ cs')) => specFirst_none ha hb (by omega) (by omega) cs cs' wx ((h.below hb0).more hb0.size) ((h'.below hb0).more hb0.size) g ho hf hf2
  have HH := Lib.hid (And.intro h h')
  obtain ⟨k, n, s, t, l, c, r, hl, hr⟩ := ha
  obtain ⟨k', n', s', t', l', c', r', hl', hr'⟩ := hb
  obtain ⟨A4, q4, A5, q5, A6, q6, rfl, -, -, -⟩ := Rd.ofValue h
  obtain ⟨A4', q4', A5', q5', A6', q6', rfl, -, -, -⟩ := Rd.ofValue h'
  simp only [List.length_map] at HH hfirst ⊢
  have HF := Lib.hid hfirst
  clear hfirst h h' hl hr hl' hr'
  have h0 := ((((MSt.start w).new 28 7 #[.int .i64 k, .int .i64 n, .int .i64 s, .string t, .slice A4 l.length q4, .slice A5 c.length q5, .slice A6 r.length q6] rfl).new 28 7 #[.int .i64 k', .int .i64 n', .int .i64 s', .string t', .slice A4' l'.length q4', .slice A5' c'.length q5', .slice A6' r'.length q6'] rfl).new 28 7 #[.int .i64 0, .int .i64 0, .int .i64 0, .string ⟨#[]⟩, .slice none 0 0, .slice none 0 0, .slice none 0 0] rfl).alloc (.cells #[.int .i64 k, .int .i64 n, .int .i64 s, .string t, .slice A4 l.length q4, .slice A5 c.length q5, .slice A6 r.length q6, .int .i64 k', .int .i64 n', .int .i64 s', .string t', .slice A4' l'.length q4', .slice A5' c'.length q5', .slice A6' r'.length q6'] 28)
  simp only [World.size_alloc] at h0
  have H0 := Lib.hid h0
  have ho := World.ownsRow_lit (base := 0) (e := 28) (size := 7) (((w.alloc (.cells #[.int .i64 k, .int .i64 n, .int .i64 s, .string t, .slice A4 l.length q4, .slice A5 c.length q5, .slice A6 r.length q6] 28)).alloc (.cells #[.int .i64 k', .int .i64 n', .int .i64 s', .string t', .slice A4' l'.length q4', .slice A5' c'.length q5', .slice A6' r'.length q6'] 28)).alloc (.cells #[.int .i64 0, .int .i64 0, .int .i64 0, .string ⟨#[]⟩, .slice none 0 0, .slice none 0 0, .slice none 0 0] 28)) #[.int .i64 k, .int .i64 n, .int .i64 s, .string t, .slice A4 l.length q4, .slice A5 c.length q5, .slice A6 r.length q6, .int .i64 k', .int .i64 n', .int .i64 s', .string t', .slice A4' l'.length q4', .slice A5' c'.length q5', .slice A6' r'.length q6'] 2 (Nat.zero_le _) (by unfold maxLen; omega) rfl
  simp only [World.size_alloc] at ho
  have HO := Lib.hid ho
  clear h0 ho
  clear hf hf2 hwt
  by_cases d1 : k = 1
  · by_cases d2 : k' = 1
    · subst d1 d2
      have hx := HV.out.2.2.2.1 rfl
      have hy := HV.out.2.2.2.2 rfl
      unfold NumOk at hx hy
      simp only [Dt.nm] at hx hy
      obtain ⟨hx1, hx2⟩ := hx
      obtain ⟨hy1, hy2⟩ := hy
      obtain ⟨m1, m2⟩ := mul_bd hx1 hx2 hy1 hy2
      rw [show numD (· - ·) _ _ = valD (chkK (n - n')) (chkN (n - n')) ⟨#[]⟩ [] from numD_num rfl rfl]
      go_enter Tryz.func15, Tryz.ntmps15
      go_wp2_with fail
      refine (HF.out _ H0.out.bel _ HO.out).mono ?_
      rintro e w1 ⟨rfl, hb⟩
      have H1 := Lib.hid ((H0.out.later hb).new 28 7 #[.int .i64 0, .int .i64 0, .int .i64 0, .string ⟨#[]⟩, .slice none 0 0, .slice none 0 0, .slice none 0 0] rfl)
      have hz := hb.size
      simp at hz
      clear hb
      have hbx := (MSt.nth (L1 := [_, _, _]) H1.out).box
      obtain ⟨p0, p1, p2, p3, p4, p5, p6, plt⟩ := box7 hbx
      clear hbx
      have hbx := (MSt.nth (L1 := [_, _]) H1.out).box
      obtain ⟨u0, u1, u2, u3, u4, u5, u6, ult⟩ := box7 hbx
      clear hbx
      go_wp2_with fail
      refine (specChecked_any (n - n') _).mono ?_
      rintro e w2 ⟨rfl, hb⟩
      have H2 := Lib.hid (H1.out.later hb)
      clear hb
      have hbx := (MSt.nth (L1 := [_]) H2.out).box
      obtain ⟨x0, x1, x2, x3, x4, x5, x6, xlt⟩ := box7 hbx
      obtain ⟨xz0, xz1, xz2, xz3, xz4, xz5, xz6⟩ := box7z hbx
      clear hbx
      go_wp2_with fail
      have hg := (MSt.nth (L1 := [_]) H2.out).set7 [.int .i64 (chkK (n - n')), .int .i64 (chkN (n - n')), .int .i64 0, .string ⟨#[]⟩, .slice none 0 0, .slice none 0 0, .slice none 0 0] rfl
      simp only [World.setCells, Nat.zero_add, Nat.reduceAdd] at hg
      generalize (((((((w2.setCell ⟨w.heap.size + 1 + 1, 0, none⟩ (.int .i64 (chkK (n - n')))).setCell ⟨w.heap.size + 1 + 1, 1, none⟩ (.int .i64 (chkN (n - n')))).setCell ⟨w.heap.size + 1 + 1, 2, none⟩ (.int .i64 0)).setCell ⟨w.heap.size + 1 + 1, 3, none⟩ (.string ⟨#[]⟩)).setCell ⟨w.heap.size + 1 + 1, 4, none⟩ (.slice none 0 0)).setCell ⟨w.heap.size + 1 + 1, 5, none⟩ (.slice none 0 0)).setCell ⟨w.heap.size + 1 + 1, 6, none⟩ (.slice none 0 0)) = W7 at hg ⊢
      obtain ⟨z0, z1, z2, z3, z4, z5, z6, hlz⟩ := box7 hg.box
      refine bodyPost_ret (v := .agg #[.int .i64 (chkK (n - n')), .int .i64 (chkN (n - n')), .int .i64 0, .string ⟨#[]⟩, .slice none 0 0, .slice none 0 0, .slice none 0 0]) (by simp [results, Tryz.results15, go_sem, z0, z1, z2, z3, z4, z5, z6]) rfl (toA_flat rfl hg.bel)
    · rw [show numD (· - ·) _ _ = valD 6 4 ⟨#[]⟩ [] from numD_err (fun hh => by have h2 : k' = 1 := hh.2; exact d2 h2)]
      have e1 : (k == 1) = true := by simpa using d1
      have e2 : (k' == 1) = false := by simpa using d2
      clear d1 d2
      go_enter Tryz.func15, Tryz.ntmps15
      go_wp2_with fail
      refine (HF.out _ H0.out.bel _ HO.out).mono ?_
      rintro e w1 ⟨rfl, hb⟩
      have H1 := Lib.hid ((H0.out.later hb).new 28 7 #[.int .i64 0, .int .i64 0, .int .i64 0, .string ⟨#[]⟩, .slice none 0 0, .slice none 0 0, .slice none 0 0] rfl)
      have hz := hb.size
      simp at hz
      clear hb
      have hbx := (MSt.nth (L1 := [_, _, _]) H1.out).box
      obtain ⟨p0, p1, p2, p3, p4, p5, p6, plt⟩ := box7 hbx
      clear hbx
      have hbx := (MSt.nth (L1 := [_, _]) H1.out).box
      obtain ⟨u0, u1, u2, u3, u4, u5, u6, ult⟩ := box7 hbx
      clear hbx
      go_wp2_with fail
      refine (specErrorValue_any 4 _).mono ?_
      rintro e w2 ⟨rfl, hb⟩
      have H2 := Lib.hid (H1.out.later hb)
      clear hb
      have hbx := (MSt.nth (L1 := [_]) H2.out).box
      obtain ⟨x0, x1, x2, x3, x4, x5, x6, xlt⟩ := box7 hbx
      obtain ⟨xz0, xz1, xz2, xz3, xz4, xz5, xz6⟩ := box7z hbx
      clear hbx
      go_wp2_with fail
      have hg := (MSt.nth (L1 := [_]) H2.out).set7 [.int .i64 6, .int .i64 4, .int .i64 0, .string ⟨#[]⟩, .slice none 0 0, .slice none 0 0, .slice none 0 0] rfl
      simp only [World.setCells, Nat.zero_add, Nat.reduceAdd] at hg
      generalize (((((((w2.setCell ⟨w.heap.size + 1 + 1, 0, none⟩ (.int .i64 6)).setCell ⟨w.heap.size + 1 + 1, 1, none⟩ (.int .i64 4)).setCell ⟨w.heap.size + 1 + 1, 2, none⟩ (.int .i64 0)).setCell ⟨w.heap.size + 1 + 1, 3, none⟩ (.string ⟨#[]⟩)).setCell ⟨w.heap.size + 1 + 1, 4, none⟩ (.slice none 0 0)).setCell ⟨w.heap.size + 1 + 1, 5, none⟩ (.slice none 0 0)).setCell ⟨w.heap.size + 1 + 1, 6, none⟩ (.slice none 0 0)) = W7 at hg ⊢
      obtain ⟨z0, z1, z2, z3, z4, z5, z6, hlz⟩ := box7 hg.box
      refine bodyPost_ret (v := .agg #[.int .i64 6, .int .i64 4, .int .i64 0, .string ⟨#[]⟩, .slice none 0 0, .slice none 0 0, .slice none 0 0]) (by simp [results, Tryz.results15, go_sem, z0, z1, z2, z3, z4, z5, z6]) rfl (toA_flat rfl hg.bel)
  · rw [show numD (· - ·) _ _ = valD 6 4 ⟨#[]⟩ [] from numD_err (fun hh => by have h1 : k = 1 := hh.1; exact d1 h1)]
    have e1 : (k == 1) = false := by simpa using d1
    clear d1
    go_enter Tryz.func15, Tryz.ntmps15
    go_wp2_with fail
    refine (HF.out _ H0.out.bel _ HO.out).mono ?_
    rintro e w1 ⟨rfl, hb⟩
    have H1 := Lib.hid ((H0.out.later hb).new 28 7 #[.int .i64 0, .int .i64 0, .int .i64 0, .string ⟨#[]⟩, .slice none 0 0, .slice none 0 0, .slice none 0 0] rfl)
    have hz := hb.size
    simp at hz
    clear hb
    have hbx := (MSt.nth (L1 := [_, _, _]) H1.out).box
    obtain ⟨p0, p1, p2, p3, p4, p5, p6, plt⟩ := box7 hbx
    clear hbx
    have hbx := (MSt.nth (L1 := [_, _]) H1.out).box
    obtain ⟨u0, u1, u2, u3, u4, u5, u6, ult⟩ := box7 hbx
    clear hbx
    go_wp2_with fail
    refine (specErrorValue_any 4 _).mono ?_
    rintro e w2 ⟨rfl, hb⟩
    have H2 := Lib.hid (H1.out.later hb)
    clear hb
    have hbx := (MSt.nth (L1 := [_]) H2.out).box
    obtain ⟨x0, x1, x2, x3, x4, x5, x6, xlt⟩ := box7 hbx
    obtain ⟨xz0, xz1, xz2, xz3, xz4, xz5, xz6⟩ := box7z hbx
    clear hbx
    go_wp2_with fail
    have hg := (MSt.nth (L1 := [_]) H2.out).set7 [.int .i64 6, .int .i64 4, .int .i64 0, .string ⟨#[]⟩, .slice none 0 0, .slice none 0 0, .slice none 0 0] rfl
    simp only [World.setCells, Nat.zero_add, Nat.reduceAdd] at hg
    generalize (((((((w2.setCell ⟨w.heap.size + 1 + 1, 0, none⟩ (.int .i64 6)).setCell ⟨w.heap.size + 1 + 1, 1, none⟩ (.int .i64 4)).setCell ⟨w.heap.size + 1 + 1, 2, none⟩ (.int .i64 0)).setCell ⟨w.heap.size + 1 + 1, 3, none⟩ (.string ⟨#[]⟩)).setCell ⟨w.heap.size + 1 + 1, 4, none⟩ (.slice none 0 0)).setCell ⟨w.heap.size + 1 + 1, 5, none⟩ (.slice none 0 0)).setCell ⟨w.heap.size + 1 + 1, 6, none⟩ (.slice none 0 0)) = W7 at hg ⊢
    obtain ⟨z0, z1, z2, z3, z4, z5, z6, hlz⟩ := box7 hg.box
    refine bodyPost_ret (v := .agg #[.int .i64 6, .int .i64 4, .int .i64 0, .string ⟨#[]⟩, .slice none 0 0, .slice none 0 0, .slice none 0 0]) (by simp [results, Tryz.results15, go_sem, z0, z1, z2, z3, z4, z5, z6]) rfl (toA_flat rfl hg.bel)

end Go.Proofs.YtabcmnlmmpbmnaaGreat
