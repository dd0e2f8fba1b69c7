/-
  Texts that the proof rests on, put together: ApImpl, ApI1, ApI2, ApI3, ApI4, ApI5.
-/
import Derived.Test.YtabcmnlmmpbmnaaGreatMgH44
import Derived.Test.YtabcmnlmmpbmnaaGreatMgH35
import Derived.Test.YtabcmnlmmpbmnaaGreatMgH13
import Derived.Test.YtabcmnlmmpbmnaaGreatMgH6
import Derived.Deep.RegionLaw
/-
  ApplyOperator, the program's. (Written by genopwalk.py.)
-/

namespace Go.Proofs.YtabcmnlmmpbmnaaGreat
open Go.RowKit
set_option linter.unusedVariables false

theorem fine_num {a : Dt} (ha : IsVal a) (h : Fine a) : a.kd = 1 → NumOk a.nm := by
  intro hk
  obtain ⟨k, n, s, t, l, c, r, hl, hr⟩ := ha
  have h1 := h.1
  rw [SV_mk] at h1
  have hk : k = 1 := hk
  subst hk
  rcases h1 with h1 | h1 | h1 | h1 | h1 | h1
  · exact h1.2.1
  all_goals exact absurd h1.1 (by omega)

set_option maxHeartbeats 1600000 in
set_option maxRecDepth 100000 in
theorem implAp_err {a b : Dt} (ha : IsVal a) (hb : IsVal b) (hwt : a.wt + b.wt ≤ 1048576) (cs cs' : List Value) (w : World) (h : Rd w w.heap.size a cs) (h' : Rd w w.heap.size b cs') (op : Int) (ec : Int) (he : ErrOf a ec ∨ (Fine a ∧ ErrOf b ec)) :
    Calls Tryz.prog 13 #[.int .i64 op, .agg cs.toArray, .agg cs'.toArray] w (ToA w (errD ec)) := by
  rw [show errD ec = valD 6 ec ⟨#[]⟩ [] from rfl]
  have hfirst := fun (wx : World) (hb0 : Below w.heap.size w wx) (g : Nat) (ho : wx.ownsRow 0 28 7 (.slice (some ⟨g, 0, none⟩) 2 2) 2 (cs ++ cs')) => implFirst_yes ha hb hwt cs cs' wx ((h.below hb0).more hb0.size) ((h'.below hb0).more hb0.size) ec he g ho
  have HH := Lib.hid (And.intro h h')
  obtain ⟨k, n, s, t, l, c, r, hl, hr⟩ := ha
  obtain ⟨k', n', s', t', l', c', r', hl', hr'⟩ := hb
  obtain ⟨A4, q4, A5, q5, A6, q6, rfl, -, -, -⟩ := Rd.ofValue h
  obtain ⟨A4', q4', A5', q5', A6', q6', rfl, -, -, -⟩ := Rd.ofValue h'
  simp only [List.length_map] at HH hfirst ⊢
  have HF := Lib.hid hfirst
  clear hfirst h h' hl hr hl' hr'
  have h0 := ((((MSt.start w).new 28 7 #[.int .i64 k, .int .i64 n, .int .i64 s, .string t, .slice A4 l.length q4, .slice A5 c.length q5, .slice A6 r.length q6] rfl).new 28 7 #[.int .i64 k', .int .i64 n', .int .i64 s', .string t', .slice A4' l'.length q4', .slice A5' c'.length q5', .slice A6' r'.length q6'] rfl).new 28 7 #[.int .i64 0, .int .i64 0, .int .i64 0, .string ⟨#[]⟩, .slice none 0 0, .slice none 0 0, .slice none 0 0] rfl).alloc (.cells #[.int .i64 k, .int .i64 n, .int .i64 s, .string t, .slice A4 l.length q4, .slice A5 c.length q5, .slice A6 r.length q6, .int .i64 k', .int .i64 n', .int .i64 s', .string t', .slice A4' l'.length q4', .slice A5' c'.length q5', .slice A6' r'.length q6'] 28)
  simp only [World.size_alloc] at h0
  have H0 := Lib.hid h0
  have ho := World.ownsRow_lit (base := 0) (e := 28) (size := 7) (((w.alloc (.cells #[.int .i64 k, .int .i64 n, .int .i64 s, .string t, .slice A4 l.length q4, .slice A5 c.length q5, .slice A6 r.length q6] 28)).alloc (.cells #[.int .i64 k', .int .i64 n', .int .i64 s', .string t', .slice A4' l'.length q4', .slice A5' c'.length q5', .slice A6' r'.length q6'] 28)).alloc (.cells #[.int .i64 0, .int .i64 0, .int .i64 0, .string ⟨#[]⟩, .slice none 0 0, .slice none 0 0, .slice none 0 0] 28)) #[.int .i64 k, .int .i64 n, .int .i64 s, .string t, .slice A4 l.length q4, .slice A5 c.length q5, .slice A6 r.length q6, .int .i64 k', .int .i64 n', .int .i64 s', .string t', .slice A4' l'.length q4', .slice A5' c'.length q5', .slice A6' r'.length q6'] 2 (Nat.zero_le _) (by unfold maxLen; omega) rfl
  simp only [World.size_alloc] at ho
  have HO := Lib.hid ho
  clear h0 ho
  clear he hwt
  go_enter Tryz.func13, Tryz.ntmps13
  go_wp2_with fail
  refine (HF.out _ H0.out.bel _ HO.out).mono ?_
  rintro e w1 ⟨rfl, hb⟩
  have H1 := Lib.hid ((H0.out.later hb).new 28 7 #[.int .i64 6, .int .i64 ec, .int .i64 0, .string ⟨#[]⟩, .slice none 0 0, .slice none 0 0, .slice none 0 0] rfl)
  have hz := hb.size
  simp at hz
  clear hb
  have hbx := (MSt.nth (L1 := [_]) H1.out).box
  obtain ⟨x0, x1, x2, x3, x4, x5, x6, xlt⟩ := box7 hbx
  obtain ⟨xz0, xz1, xz2, xz3, xz4, xz5, xz6⟩ := box7z hbx
  clear hbx
  go_wp2_with fail
  have hg := (MSt.nth (L1 := [_]) H1.out).set7 [.int .i64 6, .int .i64 ec, .int .i64 0, .string ⟨#[]⟩, .slice none 0 0, .slice none 0 0, .slice none 0 0] rfl
  simp only [World.setCells, Nat.zero_add, Nat.reduceAdd] at hg
  generalize ((((((((w1.alloc (.cells #[.int .i64 6, .int .i64 ec, .int .i64 0, .string ⟨#[]⟩, .slice none 0 0, .slice none 0 0, .slice none 0 0] 28)).setCell ⟨w.heap.size + 1 + 1, 0, none⟩ (.int .i64 6)).setCell ⟨w.heap.size + 1 + 1, 1, none⟩ (.int .i64 ec)).setCell ⟨w.heap.size + 1 + 1, 2, none⟩ (.int .i64 0)).setCell ⟨w.heap.size + 1 + 1, 3, none⟩ (.string ⟨#[]⟩)).setCell ⟨w.heap.size + 1 + 1, 4, none⟩ (.slice none 0 0)).setCell ⟨w.heap.size + 1 + 1, 5, none⟩ (.slice none 0 0)).setCell ⟨w.heap.size + 1 + 1, 6, none⟩ (.slice none 0 0)) = W7 at hg ⊢
  obtain ⟨z0, z1, z2, z3, z4, z5, z6, hlz⟩ := box7 hg.box
  refine bodyPost_ret (v := .agg #[.int .i64 6, .int .i64 ec, .int .i64 0, .string ⟨#[]⟩, .slice none 0 0, .slice none 0 0, .slice none 0 0]) (by simp [results, Tryz.results13, go_sem, z0, z1, z2, z3, z4, z5, z6]) rfl (toA_flat rfl hg.bel)

theorem isVal_numD (f : Int → Int → Int) (a b : Dt) : IsVal (numD f a b) := by unfold numD; split <;> exact isVal_flatD _ _ _
theorem isVal_lessD (a b : Dt) : IsVal (lessD a b) := by unfold lessD; split; exact isVal_flatD _ _ _; split <;> exact isVal_flatD _ _ _

end Go.Proofs.YtabcmnlmmpbmnaaGreat

/-
  ApplyOperator, the program's, at one operator. (Written by genopwalk.py.)
-/

namespace Go.Proofs.YtabcmnlmmpbmnaaGreat
open Go.RowKit
set_option linter.unusedVariables false

set_option maxHeartbeats 3200000 in
set_option maxRecDepth 100000 in
theorem implAp_1 {a b : Dt} (ha : IsVal a) (hb : IsVal b) (hwt : a.wt + b.wt ≤ 1048576) (cs cs' : List Value) (w : World) (h : Rd w w.heap.size a cs) (h' : Rd w w.heap.size b cs') (hf : Fine a) (hf2 : Fine b) :
    Calls Tryz.prog 13 #[.int .i64 1, .agg cs.toArray, .agg cs'.toArray] w (ToA w (addD a b)) := by
  have HV := Lib.hid (And.intro ha (And.intro hb (And.intro hwt (And.intro (fine_num ha hf) (fine_num hb hf2)))))
  have hfd := field_app
  have hfirst := fun (wx : World) (hb0 : Below w.heap.size w wx) (g : Nat) (ho : wx.ownsRow 0 28 7 (.slice (some ⟨g, 0, none⟩) 2 2) 2 (cs ++ cs')) => implFirst_none ha hb (by omega) (by omega) cs cs' wx ((h.below hb0).more hb0.size) ((h'.below hb0).more hb0.size) g ho hf hf2
  have HH := Lib.hid (And.intro h h')
  obtain ⟨k, n, s, t, l, c, r, hl, hr⟩ := ha
  obtain ⟨k', n', s', t', l', c', r', hl', hr'⟩ := hb
  obtain ⟨A4, q4, A5, q5, A6, q6, rfl, -, -, -⟩ := Rd.ofValue h
  obtain ⟨A4', q4', A5', q5', A6', q6', rfl, -, -, -⟩ := Rd.ofValue h'
  simp only [List.length_map] at HH hfirst ⊢
  have HF := Lib.hid hfirst
  clear hfirst h h' hl hr hl' hr'
  have h0 := ((((MSt.start w).new 28 7 #[.int .i64 k, .int .i64 n, .int .i64 s, .string t, .slice A4 l.length q4, .slice A5 c.length q5, .slice A6 r.length q6] rfl).new 28 7 #[.int .i64 k', .int .i64 n', .int .i64 s', .string t', .slice A4' l'.length q4', .slice A5' c'.length q5', .slice A6' r'.length q6'] rfl).new 28 7 #[.int .i64 0, .int .i64 0, .int .i64 0, .string ⟨#[]⟩, .slice none 0 0, .slice none 0 0, .slice none 0 0] rfl).alloc (.cells #[.int .i64 k, .int .i64 n, .int .i64 s, .string t, .slice A4 l.length q4, .slice A5 c.length q5, .slice A6 r.length q6, .int .i64 k', .int .i64 n', .int .i64 s', .string t', .slice A4' l'.length q4', .slice A5' c'.length q5', .slice A6' r'.length q6'] 28)
  simp only [World.size_alloc] at h0
  have H0 := Lib.hid h0
  have ho := World.ownsRow_lit (base := 0) (e := 28) (size := 7) (((w.alloc (.cells #[.int .i64 k, .int .i64 n, .int .i64 s, .string t, .slice A4 l.length q4, .slice A5 c.length q5, .slice A6 r.length q6] 28)).alloc (.cells #[.int .i64 k', .int .i64 n', .int .i64 s', .string t', .slice A4' l'.length q4', .slice A5' c'.length q5', .slice A6' r'.length q6'] 28)).alloc (.cells #[.int .i64 0, .int .i64 0, .int .i64 0, .string ⟨#[]⟩, .slice none 0 0, .slice none 0 0, .slice none 0 0] 28)) #[.int .i64 k, .int .i64 n, .int .i64 s, .string t, .slice A4 l.length q4, .slice A5 c.length q5, .slice A6 r.length q6, .int .i64 k', .int .i64 n', .int .i64 s', .string t', .slice A4' l'.length q4', .slice A5' c'.length q5', .slice A6' r'.length q6'] 2 (Nat.zero_le _) (by unfold maxLen; omega) rfl
  simp only [World.size_alloc] at ho
  have HO := Lib.hid ho
  clear h0 ho
  clear hf hf2 hwt
  go_enter Tryz.func13, Tryz.ntmps13
  go_wp2_with fail
  refine (HF.out _ H0.out.bel _ HO.out).mono ?_
  rintro e w1 ⟨rfl, hb⟩
  have H1 := Lib.hid ((H0.out.later hb).new 28 7 #[.int .i64 0, .int .i64 0, .int .i64 0, .string ⟨#[]⟩, .slice none 0 0, .slice none 0 0, .slice none 0 0] rfl)
  have hz := hb.size
  simp at hz
  clear hb
  go_wp2_with fail
  generalize hW1 : w1.alloc (.cells #[.int .i64 0, .int .i64 0, .int .i64 0, .string ⟨#[]⟩, .slice none 0 0, .slice none 0 0, .slice none 0 0] 28) = W1 at H1 ⊢
  clear hW1 hz
  have hbx := (MSt.nth (L1 := [_, _, _]) H1.out).box
  obtain ⟨p0, p1, p2, p3, p4, p5, p6, plt⟩ := box7 hbx
  clear hbx
  have hbx := (MSt.nth (L1 := [_, _]) H1.out).box
  obtain ⟨q0, q1, q2, q3, q4, q5, q6, qlt⟩ := box7 hbx
  clear hbx
  go_region_law (first
    | (go_simp
       go_at_call 49
       refine (operatorOf_1 _).mono ?_
       rintro e w2 ⟨rfl, hb⟩
       have H2 := Lib.hid (H1.out.drew.later hb)
       have hbx := (MSt.nth (L1 := [_, _, _]) H2.out).box
       obtain ⟨u0, u1, u2, u3, u4, u5, u6, ult⟩ := box7 hbx
       clear hbx
       have hbx := (MSt.nth (L1 := [_, _]) H2.out).box
       obtain ⟨v0, v1, v2, v3, v4, v5, v6, vlt⟩ := box7 hbx
       clear hbx
       clear hb)
    | (go_simp
       go_at_call 115
       refine (implAdd_any HV.out.1 HV.out.2.1 HV.out.2.2.1 HV.out.2.2.2.1 HV.out.2.2.2.2 _ _ _ ((HH.out.1.below H2.out.bel).more H2.out.size) ((HH.out.2.below H2.out.bel).more H2.out.size)).mono ?_
       rintro e w3 ⟨cs, fp, rfl, how, hnf, hb⟩
       obtain ⟨y0, y1, y2, y3, y4, m4, q4y, y5, m5, q5y, y6, m6, q6y, rfl⟩ := IsVal.form (isVal_addD HV.out.1 HV.out.2.1) how.read
       have H3 := Lib.hid (H2.out.add hb (owA_at how hnf))
       clear how hnf hb
       have hbx := (MSt.nth (L1 := [_, _]) H3.out).box
       obtain ⟨x0, x1, x2, x3, x4, x5, x6, xlt⟩ := box7 hbx
       obtain ⟨xz0, xz1, xz2, xz3, xz4, xz5, xz6⟩ := box7z hbx
       clear hbx)
    | fail)
  all_goals
    go_wp2_with fail
    have hg := (MSt.nth (L1 := [_, _]) H3.out).set7 [.int .i64 y0, .int .i64 y1, .int .i64 y2, .string y3, .slice y4 m4 q4y, .slice y5 m5 q5y, .slice y6 m6 q6y] rfl
    simp only [World.setCells, Nat.zero_add, Nat.reduceAdd] at hg
    generalize (((((((w3.setCell ⟨w.heap.size + 1 + 1, 0, none⟩ (.int .i64 y0)).setCell ⟨w.heap.size + 1 + 1, 1, none⟩ (.int .i64 y1)).setCell ⟨w.heap.size + 1 + 1, 2, none⟩ (.int .i64 y2)).setCell ⟨w.heap.size + 1 + 1, 3, none⟩ (.string y3)).setCell ⟨w.heap.size + 1 + 1, 4, none⟩ (.slice y4 m4 q4y)).setCell ⟨w.heap.size + 1 + 1, 5, none⟩ (.slice y5 m5 q5y)).setCell ⟨w.heap.size + 1 + 1, 6, none⟩ (.slice y6 m6 q6y)) = W7 at hg ⊢
    obtain ⟨z0, z1, z2, z3, z4, z5, z6, hlz⟩ := box7 hg.box
    refine bodyPost_ret (v := .agg #[.int .i64 y0, .int .i64 y1, .int .i64 y2, .string y3, .slice y4 m4 q4y, .slice y5 m5 q5y, .slice y6 m6 q6y]) (by simp [results, Tryz.results13, go_sem, z0, z1, z2, z3, z4, z5, z6]) rfl ⟨[.int .i64 y0, .int .i64 y1, .int .i64 y2, .string y3, .slice y4 m4 q4y, .slice y5 m5 q5y, .slice y6 m6 q6y], _, rfl, (MSt.nth (L1 := [_]) hg).objs.out.1, (MSt.nth (L1 := [_]) hg).objs.out.2, hg.bel⟩

end Go.Proofs.YtabcmnlmmpbmnaaGreat

/-
  ApplyOperator, the program's, at one operator. (Written by genopwalk.py.)
-/

namespace Go.Proofs.YtabcmnlmmpbmnaaGreat
open Go.RowKit
set_option linter.unusedVariables false

set_option maxHeartbeats 3200000 in
set_option maxRecDepth 100000 in
theorem implAp_2 {a b : Dt} (ha : IsVal a) (hb : IsVal b) (hwt : a.wt + b.wt ≤ 1048576) (cs cs' : List Value) (w : World) (h : Rd w w.heap.size a cs) (h' : Rd w w.heap.size b cs') (hf : Fine a) (hf2 : Fine b) :
    Calls Tryz.prog 13 #[.int .i64 2, .agg cs.toArray, .agg cs'.toArray] w (ToA w (numD (· - ·) a b)) := by
  have HV := Lib.hid (And.intro ha (And.intro hb (And.intro hwt (And.intro (fine_num ha hf) (fine_num hb hf2)))))
  have hfd := field_app
  have hfirst := fun (wx : World) (hb0 : Below w.heap.size w wx) (g : Nat) (ho : wx.ownsRow 0 28 7 (.slice (some ⟨g, 0, none⟩) 2 2) 2 (cs ++ cs')) => implFirst_none ha hb (by omega) (by omega) cs cs' wx ((h.below hb0).more hb0.size) ((h'.below hb0).more hb0.size) g ho hf hf2
  have HH := Lib.hid (And.intro h h')
  obtain ⟨k, n, s, t, l, c, r, hl, hr⟩ := ha
  obtain ⟨k', n', s', t', l', c', r', hl', hr'⟩ := hb
  obtain ⟨A4, q4, A5, q5, A6, q6, rfl, -, -, -⟩ := Rd.ofValue h
  obtain ⟨A4', q4', A5', q5', A6', q6', rfl, -, -, -⟩ := Rd.ofValue h'
  simp only [List.length_map] at HH hfirst ⊢
  have HF := Lib.hid hfirst
  clear hfirst h h' hl hr hl' hr'
  have h0 := ((((MSt.start w).new 28 7 #[.int .i64 k, .int .i64 n, .int .i64 s, .string t, .slice A4 l.length q4, .slice A5 c.length q5, .slice A6 r.length q6] rfl).new 28 7 #[.int .i64 k', .int .i64 n', .int .i64 s', .string t', .slice A4' l'.length q4', .slice A5' c'.length q5', .slice A6' r'.length q6'] rfl).new 28 7 #[.int .i64 0, .int .i64 0, .int .i64 0, .string ⟨#[]⟩, .slice none 0 0, .slice none 0 0, .slice none 0 0] rfl).alloc (.cells #[.int .i64 k, .int .i64 n, .int .i64 s, .string t, .slice A4 l.length q4, .slice A5 c.length q5, .slice A6 r.length q6, .int .i64 k', .int .i64 n', .int .i64 s', .string t', .slice A4' l'.length q4', .slice A5' c'.length q5', .slice A6' r'.length q6'] 28)
  simp only [World.size_alloc] at h0
  have H0 := Lib.hid h0
  have ho := World.ownsRow_lit (base := 0) (e := 28) (size := 7) (((w.alloc (.cells #[.int .i64 k, .int .i64 n, .int .i64 s, .string t, .slice A4 l.length q4, .slice A5 c.length q5, .slice A6 r.length q6] 28)).alloc (.cells #[.int .i64 k', .int .i64 n', .int .i64 s', .string t', .slice A4' l'.length q4', .slice A5' c'.length q5', .slice A6' r'.length q6'] 28)).alloc (.cells #[.int .i64 0, .int .i64 0, .int .i64 0, .string ⟨#[]⟩, .slice none 0 0, .slice none 0 0, .slice none 0 0] 28)) #[.int .i64 k, .int .i64 n, .int .i64 s, .string t, .slice A4 l.length q4, .slice A5 c.length q5, .slice A6 r.length q6, .int .i64 k', .int .i64 n', .int .i64 s', .string t', .slice A4' l'.length q4', .slice A5' c'.length q5', .slice A6' r'.length q6'] 2 (Nat.zero_le _) (by unfold maxLen; omega) rfl
  simp only [World.size_alloc] at ho
  have HO := Lib.hid ho
  clear h0 ho
  clear hf hf2 hwt
  go_enter Tryz.func13, Tryz.ntmps13
  go_wp2_with fail
  refine (HF.out _ H0.out.bel _ HO.out).mono ?_
  rintro e w1 ⟨rfl, hb⟩
  have H1 := Lib.hid ((H0.out.later hb).new 28 7 #[.int .i64 0, .int .i64 0, .int .i64 0, .string ⟨#[]⟩, .slice none 0 0, .slice none 0 0, .slice none 0 0] rfl)
  have hz := hb.size
  simp at hz
  clear hb
  go_wp2_with fail
  generalize hW1 : w1.alloc (.cells #[.int .i64 0, .int .i64 0, .int .i64 0, .string ⟨#[]⟩, .slice none 0 0, .slice none 0 0, .slice none 0 0] 28) = W1 at H1 ⊢
  clear hW1 hz
  have hbx := (MSt.nth (L1 := [_, _, _]) H1.out).box
  obtain ⟨p0, p1, p2, p3, p4, p5, p6, plt⟩ := box7 hbx
  clear hbx
  have hbx := (MSt.nth (L1 := [_, _]) H1.out).box
  obtain ⟨q0, q1, q2, q3, q4, q5, q6, qlt⟩ := box7 hbx
  clear hbx
  go_region_law (first
    | (go_simp
       go_at_call 49
       refine (operatorOf_2 _).mono ?_
       rintro e w2 ⟨rfl, hg0, hg1, hb⟩
       have H2 := Lib.hid (H1.out.drew.later hb)
       have HG := Lib.hid (And.intro hg0 hg1)
       clear hg0 hg1
       have hbx := (MSt.nth (L1 := [_, _, _]) H2.out).box
       obtain ⟨u0, u1, u2, u3, u4, u5, u6, ult⟩ := box7 hbx
       clear hbx
       have hbx := (MSt.nth (L1 := [_, _]) H2.out).box
       obtain ⟨v0, v1, v2, v3, v4, v5, v6, vlt⟩ := box7 hbx
       clear hbx
       clear hb)
    | (go_simp
       go_at_call 161
       refine (subNum_any HV.out.1 HV.out.2.1 HV.out.2.2.1 HV.out.2.2.2.1 HV.out.2.2.2.2 _ _ _ ((HH.out.1.below H2.out.bel).more H2.out.size) ((HH.out.2.below H2.out.bel).more H2.out.size) _ HG.out.2 HG.out.1).mono ?_
       rintro e w3 ⟨cs, fp, rfl, how, hnf, hb⟩
       obtain ⟨y0, y1, y2, y3, y4, m4, q4y, y5, m5, q5y, y6, m6, q6y, rfl⟩ := IsVal.form (isVal_numD _ _ _) how.read
       have H3 := Lib.hid (H2.out.add hb (owA_at how hnf))
       clear how hnf hb
       have hbx := (MSt.nth (L1 := [_, _]) H3.out).box
       obtain ⟨x0, x1, x2, x3, x4, x5, x6, xlt⟩ := box7 hbx
       obtain ⟨xz0, xz1, xz2, xz3, xz4, xz5, xz6⟩ := box7z hbx
       clear hbx)
    | fail)
  all_goals
    go_wp2_with fail
    have hg := (MSt.nth (L1 := [_, _]) H3.out).set7 [.int .i64 y0, .int .i64 y1, .int .i64 y2, .string y3, .slice y4 m4 q4y, .slice y5 m5 q5y, .slice y6 m6 q6y] rfl
    simp only [World.setCells, Nat.zero_add, Nat.reduceAdd] at hg
    generalize (((((((w3.setCell ⟨w.heap.size + 1 + 1, 0, none⟩ (.int .i64 y0)).setCell ⟨w.heap.size + 1 + 1, 1, none⟩ (.int .i64 y1)).setCell ⟨w.heap.size + 1 + 1, 2, none⟩ (.int .i64 y2)).setCell ⟨w.heap.size + 1 + 1, 3, none⟩ (.string y3)).setCell ⟨w.heap.size + 1 + 1, 4, none⟩ (.slice y4 m4 q4y)).setCell ⟨w.heap.size + 1 + 1, 5, none⟩ (.slice y5 m5 q5y)).setCell ⟨w.heap.size + 1 + 1, 6, none⟩ (.slice y6 m6 q6y)) = W7 at hg ⊢
    obtain ⟨z0, z1, z2, z3, z4, z5, z6, hlz⟩ := box7 hg.box
    refine bodyPost_ret (v := .agg #[.int .i64 y0, .int .i64 y1, .int .i64 y2, .string y3, .slice y4 m4 q4y, .slice y5 m5 q5y, .slice y6 m6 q6y]) (by simp [results, Tryz.results13, go_sem, z0, z1, z2, z3, z4, z5, z6]) rfl ⟨[.int .i64 y0, .int .i64 y1, .int .i64 y2, .string y3, .slice y4 m4 q4y, .slice y5 m5 q5y, .slice y6 m6 q6y], _, rfl, (MSt.nth (L1 := [_]) hg).objs.out.1, (MSt.nth (L1 := [_]) hg).objs.out.2, hg.bel⟩

end Go.Proofs.YtabcmnlmmpbmnaaGreat

/-
  ApplyOperator, the program's, at one operator. (Written by genopwalk.py.)
-/

namespace Go.Proofs.YtabcmnlmmpbmnaaGreat
open Go.RowKit
set_option linter.unusedVariables false

set_option maxHeartbeats 3200000 in
set_option maxRecDepth 100000 in
theorem implAp_3 {a b : Dt} (ha : IsVal a) (hb : IsVal b) (hwt : a.wt + b.wt ≤ 1048576) (cs cs' : List Value) (w : World) (h : Rd w w.heap.size a cs) (h' : Rd w w.heap.size b cs') (hf : Fine a) (hf2 : Fine b) :
    Calls Tryz.prog 13 #[.int .i64 3, .agg cs.toArray, .agg cs'.toArray] w (ToA w (numD (· * ·) a b)) := by
  have HV := Lib.hid (And.intro ha (And.intro hb (And.intro hwt (And.intro (fine_num ha hf) (fine_num hb hf2)))))
  have hfd := field_app
  have hfirst := fun (wx : World) (hb0 : Below w.heap.size w wx) (g : Nat) (ho : wx.ownsRow 0 28 7 (.slice (some ⟨g, 0, none⟩) 2 2) 2 (cs ++ cs')) => implFirst_none ha hb (by omega) (by omega) cs cs' wx ((h.below hb0).more hb0.size) ((h'.below hb0).more hb0.size) g ho hf hf2
  have HH := Lib.hid (And.intro h h')
  obtain ⟨k, n, s, t, l, c, r, hl, hr⟩ := ha
  obtain ⟨k', n', s', t', l', c', r', hl', hr'⟩ := hb
  obtain ⟨A4, q4, A5, q5, A6, q6, rfl, -, -, -⟩ := Rd.ofValue h
  obtain ⟨A4', q4', A5', q5', A6', q6', rfl, -, -, -⟩ := Rd.ofValue h'
  simp only [List.length_map] at HH hfirst ⊢
  have HF := Lib.hid hfirst
  clear hfirst h h' hl hr hl' hr'
  have h0 := ((((MSt.start w).new 28 7 #[.int .i64 k, .int .i64 n, .int .i64 s, .string t, .slice A4 l.length q4, .slice A5 c.length q5, .slice A6 r.length q6] rfl).new 28 7 #[.int .i64 k', .int .i64 n', .int .i64 s', .string t', .slice A4' l'.length q4', .slice A5' c'.length q5', .slice A6' r'.length q6'] rfl).new 28 7 #[.int .i64 0, .int .i64 0, .int .i64 0, .string ⟨#[]⟩, .slice none 0 0, .slice none 0 0, .slice none 0 0] rfl).alloc (.cells #[.int .i64 k, .int .i64 n, .int .i64 s, .string t, .slice A4 l.length q4, .slice A5 c.length q5, .slice A6 r.length q6, .int .i64 k', .int .i64 n', .int .i64 s', .string t', .slice A4' l'.length q4', .slice A5' c'.length q5', .slice A6' r'.length q6'] 28)
  simp only [World.size_alloc] at h0
  have H0 := Lib.hid h0
  have ho := World.ownsRow_lit (base := 0) (e := 28) (size := 7) (((w.alloc (.cells #[.int .i64 k, .int .i64 n, .int .i64 s, .string t, .slice A4 l.length q4, .slice A5 c.length q5, .slice A6 r.length q6] 28)).alloc (.cells #[.int .i64 k', .int .i64 n', .int .i64 s', .string t', .slice A4' l'.length q4', .slice A5' c'.length q5', .slice A6' r'.length q6'] 28)).alloc (.cells #[.int .i64 0, .int .i64 0, .int .i64 0, .string ⟨#[]⟩, .slice none 0 0, .slice none 0 0, .slice none 0 0] 28)) #[.int .i64 k, .int .i64 n, .int .i64 s, .string t, .slice A4 l.length q4, .slice A5 c.length q5, .slice A6 r.length q6, .int .i64 k', .int .i64 n', .int .i64 s', .string t', .slice A4' l'.length q4', .slice A5' c'.length q5', .slice A6' r'.length q6'] 2 (Nat.zero_le _) (by unfold maxLen; omega) rfl
  simp only [World.size_alloc] at ho
  have HO := Lib.hid ho
  clear h0 ho
  clear hf hf2 hwt
  go_enter Tryz.func13, Tryz.ntmps13
  go_wp2_with fail
  refine (HF.out _ H0.out.bel _ HO.out).mono ?_
  rintro e w1 ⟨rfl, hb⟩
  have H1 := Lib.hid ((H0.out.later hb).new 28 7 #[.int .i64 0, .int .i64 0, .int .i64 0, .string ⟨#[]⟩, .slice none 0 0, .slice none 0 0, .slice none 0 0] rfl)
  have hz := hb.size
  simp at hz
  clear hb
  go_wp2_with fail
  generalize hW1 : w1.alloc (.cells #[.int .i64 0, .int .i64 0, .int .i64 0, .string ⟨#[]⟩, .slice none 0 0, .slice none 0 0, .slice none 0 0] 28) = W1 at H1 ⊢
  clear hW1 hz
  have hbx := (MSt.nth (L1 := [_, _, _]) H1.out).box
  obtain ⟨p0, p1, p2, p3, p4, p5, p6, plt⟩ := box7 hbx
  clear hbx
  have hbx := (MSt.nth (L1 := [_, _]) H1.out).box
  obtain ⟨q0, q1, q2, q3, q4, q5, q6, qlt⟩ := box7 hbx
  clear hbx
  go_region_law (first
    | (go_simp
       go_at_call 49
       refine (operatorOf_3 _).mono ?_
       rintro e w2 ⟨rfl, hg0, hg1, hb⟩
       have H2 := Lib.hid (H1.out.drew.later hb)
       have HG := Lib.hid (And.intro hg0 hg1)
       clear hg0 hg1
       have hbx := (MSt.nth (L1 := [_, _, _]) H2.out).box
       obtain ⟨u0, u1, u2, u3, u4, u5, u6, ult⟩ := box7 hbx
       clear hbx
       have hbx := (MSt.nth (L1 := [_, _]) H2.out).box
       obtain ⟨v0, v1, v2, v3, v4, v5, v6, vlt⟩ := box7 hbx
       clear hbx
       clear hb)
    | (go_simp
       go_at_call 161
       refine (mulNum_any HV.out.1 HV.out.2.1 HV.out.2.2.1 HV.out.2.2.2.1 HV.out.2.2.2.2 _ _ _ ((HH.out.1.below H2.out.bel).more H2.out.size) ((HH.out.2.below H2.out.bel).more H2.out.size) _ HG.out.2 HG.out.1).mono ?_
       rintro e w3 ⟨cs, fp, rfl, how, hnf, hb⟩
       obtain ⟨y0, y1, y2, y3, y4, m4, q4y, y5, m5, q5y, y6, m6, q6y, rfl⟩ := IsVal.form (isVal_numD _ _ _) how.read
       have H3 := Lib.hid (H2.out.add hb (owA_at how hnf))
       clear how hnf hb
       have hbx := (MSt.nth (L1 := [_, _]) H3.out).box
       obtain ⟨x0, x1, x2, x3, x4, x5, x6, xlt⟩ := box7 hbx
       obtain ⟨xz0, xz1, xz2, xz3, xz4, xz5, xz6⟩ := box7z hbx
       clear hbx)
    | fail)
  all_goals
    go_wp2_with fail
    have hg := (MSt.nth (L1 := [_, _]) H3.out).set7 [.int .i64 y0, .int .i64 y1, .int .i64 y2, .string y3, .slice y4 m4 q4y, .slice y5 m5 q5y, .slice y6 m6 q6y] rfl
    simp only [World.setCells, Nat.zero_add, Nat.reduceAdd] at hg
    generalize (((((((w3.setCell ⟨w.heap.size + 1 + 1, 0, none⟩ (.int .i64 y0)).setCell ⟨w.heap.size + 1 + 1, 1, none⟩ (.int .i64 y1)).setCell ⟨w.heap.size + 1 + 1, 2, none⟩ (.int .i64 y2)).setCell ⟨w.heap.size + 1 + 1, 3, none⟩ (.string y3)).setCell ⟨w.heap.size + 1 + 1, 4, none⟩ (.slice y4 m4 q4y)).setCell ⟨w.heap.size + 1 + 1, 5, none⟩ (.slice y5 m5 q5y)).setCell ⟨w.heap.size + 1 + 1, 6, none⟩ (.slice y6 m6 q6y)) = W7 at hg ⊢
    obtain ⟨z0, z1, z2, z3, z4, z5, z6, hlz⟩ := box7 hg.box
    refine bodyPost_ret (v := .agg #[.int .i64 y0, .int .i64 y1, .int .i64 y2, .string y3, .slice y4 m4 q4y, .slice y5 m5 q5y, .slice y6 m6 q6y]) (by simp [results, Tryz.results13, go_sem, z0, z1, z2, z3, z4, z5, z6]) rfl ⟨[.int .i64 y0, .int .i64 y1, .int .i64 y2, .string y3, .slice y4 m4 q4y, .slice y5 m5 q5y, .slice y6 m6 q6y], _, rfl, (MSt.nth (L1 := [_]) hg).objs.out.1, (MSt.nth (L1 := [_]) hg).objs.out.2, hg.bel⟩

end Go.Proofs.YtabcmnlmmpbmnaaGreat

/-
  ApplyOperator, the program's, at one operator. (Written by genopwalk.py.)
-/

namespace Go.Proofs.YtabcmnlmmpbmnaaGreat
open Go.RowKit
set_option linter.unusedVariables false

set_option maxHeartbeats 3200000 in
set_option maxRecDepth 100000 in
theorem implAp_4 {a b : Dt} (ha : IsVal a) (hb : IsVal b) (hwt : a.wt + b.wt ≤ 1048576) (cs cs' : List Value) (w : World) (h : Rd w w.heap.size a cs) (h' : Rd w w.heap.size b cs') (hf : Fine a) (hf2 : Fine b) :
    Calls Tryz.prog 13 #[.int .i64 4, .agg cs.toArray, .agg cs'.toArray] w (ToA w (lessD a b)) := by
  have HV := Lib.hid (And.intro ha (And.intro hb (And.intro hwt (And.intro (fine_num ha hf) (fine_num hb hf2)))))
  have hfd := field_app
  have hfirst := fun (wx : World) (hb0 : Below w.heap.size w wx) (g : Nat) (ho : wx.ownsRow 0 28 7 (.slice (some ⟨g, 0, none⟩) 2 2) 2 (cs ++ cs')) => implFirst_none ha hb (by omega) (by omega) cs cs' wx ((h.below hb0).more hb0.size) ((h'.below hb0).more hb0.size) g ho hf hf2
  have HH := Lib.hid (And.intro h h')
  obtain ⟨k, n, s, t, l, c, r, hl, hr⟩ := ha
  obtain ⟨k', n', s', t', l', c', r', hl', hr'⟩ := hb
  obtain ⟨A4, q4, A5, q5, A6, q6, rfl, -, -, -⟩ := Rd.ofValue h
  obtain ⟨A4', q4', A5', q5', A6', q6', rfl, -, -, -⟩ := Rd.ofValue h'
  simp only [List.length_map] at HH hfirst ⊢
  have HF := Lib.hid hfirst
  clear hfirst h h' hl hr hl' hr'
  have h0 := ((((MSt.start w).new 28 7 #[.int .i64 k, .int .i64 n, .int .i64 s, .string t, .slice A4 l.length q4, .slice A5 c.length q5, .slice A6 r.length q6] rfl).new 28 7 #[.int .i64 k', .int .i64 n', .int .i64 s', .string t', .slice A4' l'.length q4', .slice A5' c'.length q5', .slice A6' r'.length q6'] rfl).new 28 7 #[.int .i64 0, .int .i64 0, .int .i64 0, .string ⟨#[]⟩, .slice none 0 0, .slice none 0 0, .slice none 0 0] rfl).alloc (.cells #[.int .i64 k, .int .i64 n, .int .i64 s, .string t, .slice A4 l.length q4, .slice A5 c.length q5, .slice A6 r.length q6, .int .i64 k', .int .i64 n', .int .i64 s', .string t', .slice A4' l'.length q4', .slice A5' c'.length q5', .slice A6' r'.length q6'] 28)
  simp only [World.size_alloc] at h0
  have H0 := Lib.hid h0
  have ho := World.ownsRow_lit (base := 0) (e := 28) (size := 7) (((w.alloc (.cells #[.int .i64 k, .int .i64 n, .int .i64 s, .string t, .slice A4 l.length q4, .slice A5 c.length q5, .slice A6 r.length q6] 28)).alloc (.cells #[.int .i64 k', .int .i64 n', .int .i64 s', .string t', .slice A4' l'.length q4', .slice A5' c'.length q5', .slice A6' r'.length q6'] 28)).alloc (.cells #[.int .i64 0, .int .i64 0, .int .i64 0, .string ⟨#[]⟩, .slice none 0 0, .slice none 0 0, .slice none 0 0] 28)) #[.int .i64 k, .int .i64 n, .int .i64 s, .string t, .slice A4 l.length q4, .slice A5 c.length q5, .slice A6 r.length q6, .int .i64 k', .int .i64 n', .int .i64 s', .string t', .slice A4' l'.length q4', .slice A5' c'.length q5', .slice A6' r'.length q6'] 2 (Nat.zero_le _) (by unfold maxLen; omega) rfl
  simp only [World.size_alloc] at ho
  have HO := Lib.hid ho
  clear h0 ho
  clear hf hf2 hwt
  go_enter Tryz.func13, Tryz.ntmps13
  go_wp2_with fail
  refine (HF.out _ H0.out.bel _ HO.out).mono ?_
  rintro e w1 ⟨rfl, hb⟩
  have H1 := Lib.hid ((H0.out.later hb).new 28 7 #[.int .i64 0, .int .i64 0, .int .i64 0, .string ⟨#[]⟩, .slice none 0 0, .slice none 0 0, .slice none 0 0] rfl)
  have hz := hb.size
  simp at hz
  clear hb
  go_wp2_with fail
  generalize hW1 : w1.alloc (.cells #[.int .i64 0, .int .i64 0, .int .i64 0, .string ⟨#[]⟩, .slice none 0 0, .slice none 0 0, .slice none 0 0] 28) = W1 at H1 ⊢
  clear hW1 hz
  have hbx := (MSt.nth (L1 := [_, _, _]) H1.out).box
  obtain ⟨p0, p1, p2, p3, p4, p5, p6, plt⟩ := box7 hbx
  clear hbx
  have hbx := (MSt.nth (L1 := [_, _]) H1.out).box
  obtain ⟨q0, q1, q2, q3, q4, q5, q6, qlt⟩ := box7 hbx
  clear hbx
  go_region_law (first
    | (go_simp
       go_at_call 49
       refine (operatorOf_4 _).mono ?_
       rintro e w2 ⟨rfl, hb⟩
       have H2 := Lib.hid (H1.out.drew.later hb)
       have hbx := (MSt.nth (L1 := [_, _, _]) H2.out).box
       obtain ⟨u0, u1, u2, u3, u4, u5, u6, ult⟩ := box7 hbx
       clear hbx
       have hbx := (MSt.nth (L1 := [_, _]) H2.out).box
       obtain ⟨v0, v1, v2, v3, v4, v5, v6, vlt⟩ := box7 hbx
       clear hbx
       clear hb)
    | (go_simp
       go_at_call 119
       refine (implLess_any HV.out.1 HV.out.2.1 HV.out.2.2.1 HV.out.2.2.2.1 HV.out.2.2.2.2 _ _ _ ((HH.out.1.below H2.out.bel).more H2.out.size) ((HH.out.2.below H2.out.bel).more H2.out.size)).mono ?_
       rintro e w3 ⟨cs, fp, rfl, how, hnf, hb⟩
       obtain ⟨y0, y1, y2, y3, y4, m4, q4y, y5, m5, q5y, y6, m6, q6y, rfl⟩ := IsVal.form (isVal_lessD _ _) how.read
       have H3 := Lib.hid (H2.out.add hb (owA_at how hnf))
       clear how hnf hb
       have hbx := (MSt.nth (L1 := [_, _]) H3.out).box
       obtain ⟨x0, x1, x2, x3, x4, x5, x6, xlt⟩ := box7 hbx
       obtain ⟨xz0, xz1, xz2, xz3, xz4, xz5, xz6⟩ := box7z hbx
       clear hbx)
    | fail)
  all_goals
    go_wp2_with fail
    have hg := (MSt.nth (L1 := [_, _]) H3.out).set7 [.int .i64 y0, .int .i64 y1, .int .i64 y2, .string y3, .slice y4 m4 q4y, .slice y5 m5 q5y, .slice y6 m6 q6y] rfl
    simp only [World.setCells, Nat.zero_add, Nat.reduceAdd] at hg
    generalize (((((((w3.setCell ⟨w.heap.size + 1 + 1, 0, none⟩ (.int .i64 y0)).setCell ⟨w.heap.size + 1 + 1, 1, none⟩ (.int .i64 y1)).setCell ⟨w.heap.size + 1 + 1, 2, none⟩ (.int .i64 y2)).setCell ⟨w.heap.size + 1 + 1, 3, none⟩ (.string y3)).setCell ⟨w.heap.size + 1 + 1, 4, none⟩ (.slice y4 m4 q4y)).setCell ⟨w.heap.size + 1 + 1, 5, none⟩ (.slice y5 m5 q5y)).setCell ⟨w.heap.size + 1 + 1, 6, none⟩ (.slice y6 m6 q6y)) = W7 at hg ⊢
    obtain ⟨z0, z1, z2, z3, z4, z5, z6, hlz⟩ := box7 hg.box
    refine bodyPost_ret (v := .agg #[.int .i64 y0, .int .i64 y1, .int .i64 y2, .string y3, .slice y4 m4 q4y, .slice y5 m5 q5y, .slice y6 m6 q6y]) (by simp [results, Tryz.results13, go_sem, z0, z1, z2, z3, z4, z5, z6]) rfl ⟨[.int .i64 y0, .int .i64 y1, .int .i64 y2, .string y3, .slice y4 m4 q4y, .slice y5 m5 q5y, .slice y6 m6 q6y], _, rfl, (MSt.nth (L1 := [_]) hg).objs.out.1, (MSt.nth (L1 := [_]) hg).objs.out.2, hg.bel⟩

end Go.Proofs.YtabcmnlmmpbmnaaGreat

/-
  ApplyOperator, the program's, at one operator. (Written by genopwalk.py.)
-/

namespace Go.Proofs.YtabcmnlmmpbmnaaGreat
open Go.RowKit
set_option linter.unusedVariables false

set_option maxHeartbeats 3200000 in
set_option maxRecDepth 100000 in
theorem implAp_5 {a b : Dt} (ha : IsVal a) (hb : IsVal b) (hwt : a.wt + b.wt ≤ 1048576) (cs cs' : List Value) (w : World) (h : Rd w w.heap.size a cs) (h' : Rd w w.heap.size b cs') (hf : Fine a) (hf2 : Fine b) :
    Calls Tryz.prog 13 #[.int .i64 5, .agg cs.toArray, .agg cs'.toArray] w (ToA w (truD (sameB a b))) := by
  have HV := Lib.hid (And.intro ha (And.intro hb (And.intro hwt (And.intro (fine_num ha hf) (fine_num hb hf2)))))
  have hfd := field_app
  have hfirst := fun (wx : World) (hb0 : Below w.heap.size w wx) (g : Nat) (ho : wx.ownsRow 0 28 7 (.slice (some ⟨g, 0, none⟩) 2 2) 2 (cs ++ cs')) => implFirst_none ha hb (by omega) (by omega) cs cs' wx ((h.below hb0).more hb0.size) ((h'.below hb0).more hb0.size) g ho hf hf2
  have HH := Lib.hid (And.intro h h')
  obtain ⟨k, n, s, t, l, c, r, hl, hr⟩ := ha
  obtain ⟨k', n', s', t', l', c', r', hl', hr'⟩ := hb
  obtain ⟨A4, q4, A5, q5, A6, q6, rfl, -, -, -⟩ := Rd.ofValue h
  obtain ⟨A4', q4', A5', q5', A6', q6', rfl, -, -, -⟩ := Rd.ofValue h'
  simp only [List.length_map] at HH hfirst ⊢
  have HF := Lib.hid hfirst
  clear hfirst h h' hl hr hl' hr'
  have h0 := ((((MSt.start w).new 28 7 #[.int .i64 k, .int .i64 n, .int .i64 s, .string t, .slice A4 l.length q4, .slice A5 c.length q5, .slice A6 r.length q6] rfl).new 28 7 #[.int .i64 k', .int .i64 n', .int .i64 s', .string t', .slice A4' l'.length q4', .slice A5' c'.length q5', .slice A6' r'.length q6'] rfl).new 28 7 #[.int .i64 0, .int .i64 0, .int .i64 0, .string ⟨#[]⟩, .slice none 0 0, .slice none 0 0, .slice none 0 0] rfl).alloc (.cells #[.int .i64 k, .int .i64 n, .int .i64 s, .string t, .slice A4 l.length q4, .slice A5 c.length q5, .slice A6 r.length q6, .int .i64 k', .int .i64 n', .int .i64 s', .string t', .slice A4' l'.length q4', .slice A5' c'.length q5', .slice A6' r'.length q6'] 28)
  simp only [World.size_alloc] at h0
  have H0 := Lib.hid h0
  have ho := World.ownsRow_lit (base := 0) (e := 28) (size := 7) (((w.alloc (.cells #[.int .i64 k, .int .i64 n, .int .i64 s, .string t, .slice A4 l.length q4, .slice A5 c.length q5, .slice A6 r.length q6] 28)).alloc (.cells #[.int .i64 k', .int .i64 n', .int .i64 s', .string t', .slice A4' l'.length q4', .slice A5' c'.length q5', .slice A6' r'.length q6'] 28)).alloc (.cells #[.int .i64 0, .int .i64 0, .int .i64 0, .string ⟨#[]⟩, .slice none 0 0, .slice none 0 0, .slice none 0 0] 28)) #[.int .i64 k, .int .i64 n, .int .i64 s, .string t, .slice A4 l.length q4, .slice A5 c.length q5, .slice A6 r.length q6, .int .i64 k', .int .i64 n', .int .i64 s', .string t', .slice A4' l'.length q4', .slice A5' c'.length q5', .slice A6' r'.length q6'] 2 (Nat.zero_le _) (by unfold maxLen; omega) rfl
  simp only [World.size_alloc] at ho
  have HO := Lib.hid ho
  clear h0 ho
  clear hf hf2 hwt
  go_enter Tryz.func13, Tryz.ntmps13
  go_wp2_with fail
  refine (HF.out _ H0.out.bel _ HO.out).mono ?_
  rintro e w1 ⟨rfl, hb⟩
  have H1 := Lib.hid ((H0.out.later hb).new 28 7 #[.int .i64 0, .int .i64 0, .int .i64 0, .string ⟨#[]⟩, .slice none 0 0, .slice none 0 0, .slice none 0 0] rfl)
  have hz := hb.size
  simp at hz
  clear hb
  go_wp2_with fail
  generalize hW1 : w1.alloc (.cells #[.int .i64 0, .int .i64 0, .int .i64 0, .string ⟨#[]⟩, .slice none 0 0, .slice none 0 0, .slice none 0 0] 28) = W1 at H1 ⊢
  clear hW1 hz
  have hbx := (MSt.nth (L1 := [_, _, _]) H1.out).box
  obtain ⟨p0, p1, p2, p3, p4, p5, p6, plt⟩ := box7 hbx
  clear hbx
  have hbx := (MSt.nth (L1 := [_, _]) H1.out).box
  obtain ⟨q0, q1, q2, q3, q4, q5, q6, qlt⟩ := box7 hbx
  clear hbx
  go_region_law (first
    | (go_simp
       go_at_call 49
       refine (operatorOf_5 _).mono ?_
       rintro e w2 ⟨rfl, hb⟩
       have H2 := Lib.hid (H1.out.drew.later hb)
       have hbx := (MSt.nth (L1 := [_, _, _]) H2.out).box
       obtain ⟨u0, u1, u2, u3, u4, u5, u6, ult⟩ := box7 hbx
       clear hbx
       have hbx := (MSt.nth (L1 := [_, _]) H2.out).box
       obtain ⟨v0, v1, v2, v3, v4, v5, v6, vlt⟩ := box7 hbx
       clear hbx
       clear hb)
    | (go_simp
       go_at_call 120
       refine (implSame_any HV.out.1 HV.out.2.1 HV.out.2.2.1 _ _ _ ((HH.out.1.below H2.out.bel).more H2.out.size) ((HH.out.2.below H2.out.bel).more H2.out.size)).mono ?_
       rintro e w3 ⟨cs, fp, rfl, how, hnf, hb⟩
       obtain ⟨y0, y1, y2, y3, y4, m4, q4y, y5, m5, q5y, y6, m6, q6y, rfl⟩ := IsVal.form (isVal_flatD _ _ _) how.read
       have H3 := Lib.hid (H2.out.add hb (owA_at how hnf))
       clear how hnf hb
       have hbx := (MSt.nth (L1 := [_, _]) H3.out).box
       obtain ⟨x0, x1, x2, x3, x4, x5, x6, xlt⟩ := box7 hbx
       obtain ⟨xz0, xz1, xz2, xz3, xz4, xz5, xz6⟩ := box7z hbx
       clear hbx)
    | fail)
  all_goals
    go_wp2_with fail
    have hg := (MSt.nth (L1 := [_, _]) H3.out).set7 [.int .i64 y0, .int .i64 y1, .int .i64 y2, .string y3, .slice y4 m4 q4y, .slice y5 m5 q5y, .slice y6 m6 q6y] rfl
    simp only [World.setCells, Nat.zero_add, Nat.reduceAdd] at hg
    generalize (((((((w3.setCell ⟨w.heap.size + 1 + 1, 0, none⟩ (.int .i64 y0)).setCell ⟨w.heap.size + 1 + 1, 1, none⟩ (.int .i64 y1)).setCell ⟨w.heap.size + 1 + 1, 2, none⟩ (.int .i64 y2)).setCell ⟨w.heap.size + 1 + 1, 3, none⟩ (.string y3)).setCell ⟨w.heap.size + 1 + 1, 4, none⟩ (.slice y4 m4 q4y)).setCell ⟨w.heap.size + 1 + 1, 5, none⟩ (.slice y5 m5 q5y)).setCell ⟨w.heap.size + 1 + 1, 6, none⟩ (.slice y6 m6 q6y)) = W7 at hg ⊢
    obtain ⟨z0, z1, z2, z3, z4, z5, z6, hlz⟩ := box7 hg.box
    refine bodyPost_ret (v := .agg #[.int .i64 y0, .int .i64 y1, .int .i64 y2, .string y3, .slice y4 m4 q4y, .slice y5 m5 q5y, .slice y6 m6 q6y]) (by simp [results, Tryz.results13, go_sem, z0, z1, z2, z3, z4, z5, z6]) rfl ⟨[.int .i64 y0, .int .i64 y1, .int .i64 y2, .string y3, .slice y4 m4 q4y, .slice y5 m5 q5y, .slice y6 m6 q6y], _, rfl, (MSt.nth (L1 := [_]) hg).objs.out.1, (MSt.nth (L1 := [_]) hg).objs.out.2, hg.bel⟩

end Go.Proofs.YtabcmnlmmpbmnaaGreat
