/-
  Texts that the proof rests on, put together: OpAdd2.
-/
import Derived.Test.YtabcmnlmmpbmnaaGreatMgH34
/-
  Addition of any two values, the program's and the model's. (Written by genopwalk.py.)
-/

namespace Go.Proofs.YtabcmnlmmpbmnaaGreat
open Go.RowKit
set_option linter.unusedVariables false

set_option maxHeartbeats 1600000 in
set_option maxRecDepth 100000 in
theorem implAdd_any {a b : Dt} (ha : IsVal a) (hb : IsVal b) (hwt : a.wt + b.wt ≤ 1048576) (hna : a.kd = 1 → NumOk a.nm) (hnb : b.kd = 1 → NumOk b.nm) (cs cs' : List Value) (w : World) (h : Rd w w.heap.size a cs) (h' : Rd w w.heap.size b cs') :
    Calls Tryz.prog 115 #[.agg cs.toArray, .agg cs'.toArray] w (ToA w (addD a b)) := by
  obtain ⟨k, n, s, t, l, c, r, hl, hr⟩ := ha
  obtain ⟨k', n', s', t', l', c', r', hl', hr'⟩ := hb
  have HH := Lib.hid (And.intro h h')
  obtain ⟨A4, q4, A5, q5, A6, q6, rfl, r4, -, -⟩ := Rd.ofValue h
  obtain ⟨A4', q4', A5', q5', A6', q6', rfl, r4', -, -⟩ := Rd.ofValue h'
  simp only [Dt.kd, Dt.nm] at hna hnb
  have HV := Lib.hid (And.intro (IsVal.mk k n s t l c r hl hr) (IsVal.mk k' n' s' t' l' c' r' hl' hr'))
  have HT := Lib.hid (show t.size ≤ 1048576 ∧ t'.size ≤ 1048576 ∧ Dt.wt (.lst (l ++ l')) ≤ 1048576 from by simp [Dt.wt, wts, wts_append] at hwt ⊢; omega)
  have HL := Lib.hid (And.intro hl (And.intro hl' (And.intro r4 r4')))
  clear h h' hl hl' hr hr' hwt r4 r4'
  simp only [List.length_map] at HH ⊢
  by_cases e1 : k = 1
  · subst e1
    by_cases d1 : k' = 1
    · subst d1
      rw [show addD _ _ = valD (chkK (n + n')) (chkN (n + n')) ⟨#[]⟩ [] from addD_num rfl rfl]
      have hx := hna rfl
      have hy := hnb rfl
      unfold NumOk at hx hy
      obtain ⟨hx1, hx2⟩ := hx
      obtain ⟨hy1, hy2⟩ := hy
      clear hna hnb
      go_enter Tryz.func115, Tryz.ntmps115
      go_wp2_with fail
      refine (implChecked_any (n + n') _).mono ?_
      rintro e w1 ⟨rfl, hb⟩
      have HB1 : Hid (Below w.heap.size w w1) := by
        refine Lib.hid (Below.trans ?_ (hb.mono ?_))
        · repeat' (first | refine Below.setCell ?_ (by first | (simp; done) | (simp; omega) | omega) _ | refine Below.alloc ?_ (by first | (simp; done) | (simp; omega) | omega) _ | exact Below.refl _ _)
        · first | exact Nat.le_refl _ | (simp; done) | (simp; omega)
      have HS1 := HB1.out.size
      obtain ⟨hc1, hf1⟩ := bcell hb
      have hza1 : w.heap.size < w1.heap.size := by have := hb.size; first | (simp at this; omega) | omega
      have hzb1 : w.heap.size + 1 < w1.heap.size := by have := hb.size; first | (simp at this; omega) | omega
      have hzc1 : w.heap.size + 2 < w1.heap.size := by have := hb.size; first | (simp at this; omega) | omega
      clear hb
      go_wp2_with fail
      refine bodyPost_ret (v := .agg #[.int .i64 (chkK (n + n')), .int .i64 (chkN (n + n')), .int .i64 0, .string ⟨#[]⟩, .slice none 0 0, .slice none 0 0, .slice none 0 0]) (by simp [results, Tryz.results115, go_sem, *]) rfl (toA_flat rfl ?_)
      repeat' (first | refine Below.setCell ?_ (by first | (simp; done) | (simp; omega) | omega) _ | refine Below.alloc ?_ (by first | (simp; done) | (simp; omega) | omega) _ | exact HB1.out)
    · rw [show addD _ _ = valD 6 4 ⟨#[]⟩ [] from addD_err (fun hh => by have h1 : (1 : Int) = 1 := hh.1; have h2 : (k' : Int) = 1 := hh.2; omega) (fun hh => by have h1 : (1 : Int) = 2 := hh.1; have h2 : (k' : Int) = 2 := hh.2; omega) (fun hh => by have h1 : (1 : Int) = 3 := hh.1; have h2 : (k' : Int) = 3 := hh.2; omega)]
      have f1 : (k' == 1) = false := by simpa using d1
      have f2 : (k' != 1) = true := by simpa using d1
      have f3 : ((1 : Int) != k') = true := by simp; omega
      clear d1
      clear hna hnb
      go_enter Tryz.func115, Tryz.ntmps115
      go_wp2_with fail
      refine (implErrorValue_any 4 _).mono ?_
      rintro e w1 ⟨rfl, hb⟩
      have HB1 : Hid (Below w.heap.size w w1) := by
        refine Lib.hid (Below.trans ?_ (hb.mono ?_))
        · repeat' (first | refine Below.setCell ?_ (by first | (simp; done) | (simp; omega) | omega) _ | refine Below.alloc ?_ (by first | (simp; done) | (simp; omega) | omega) _ | exact Below.refl _ _)
        · first | exact Nat.le_refl _ | (simp; done) | (simp; omega)
      have HS1 := HB1.out.size
      obtain ⟨hc1, hf1⟩ := bcell hb
      have hza1 : w.heap.size < w1.heap.size := by have := hb.size; first | (simp at this; omega) | omega
      have hzb1 : w.heap.size + 1 < w1.heap.size := by have := hb.size; first | (simp at this; omega) | omega
      have hzc1 : w.heap.size + 2 < w1.heap.size := by have := hb.size; first | (simp at this; omega) | omega
      clear hb
      go_wp2_with fail
      refine bodyPost_ret (v := .agg #[.int .i64 6, .int .i64 4, .int .i64 0, .string ⟨#[]⟩, .slice none 0 0, .slice none 0 0, .slice none 0 0]) (by simp [results, Tryz.results115, go_sem, *]) rfl (toA_flat rfl ?_)
      repeat' (first | refine Below.setCell ?_ (by first | (simp; done) | (simp; omega) | omega) _ | refine Below.alloc ?_ (by first | (simp; done) | (simp; omega) | omega) _ | exact HB1.out)
  · by_cases e2 : k = 2
    · subst e2
      by_cases d2 : k' = 2
      · subst d2
        rw [show addD _ _ = catT t t' from addD_txt rfl rfl]
        clear hna hnb
        have h0 := (((MSt.start w).new 28 7 #[.int .i64 2, .int .i64 n, .int .i64 s, .string t, .slice A4 l.length q4, .slice A5 c.length q5, .slice A6 r.length q6] rfl).new 28 7 #[.int .i64 2, .int .i64 n', .int .i64 s', .string t', .slice A4' l'.length q4', .slice A5' c'.length q5', .slice A6' r'.length q6'] rfl).new 28 7 #[.int .i64 0, .int .i64 0, .int .i64 0, .string ⟨#[]⟩, .slice none 0 0, .slice none 0 0, .slice none 0 0] rfl
        simp only [World.size_alloc] at h0
        have H0 := Lib.hid h0
        clear h0
        go_enter Tryz.func115, Tryz.ntmps115
        go_wp2_with fail
        refine (concatTexts_any t t' HT.out.1 HT.out.2.1 _).mono ?_
        rintro e w1 ⟨cs, fp, rfl, how, hnf, hb⟩
        obtain ⟨y0, y1, y2, y3, y4, m4, q4y, y5, m5, q5y, y6, m6, q6y, rfl⟩ := IsVal.form (isVal_catT t t') how.read
        have HZ := Lib.hid (H0.out.add hb (owA_at how hnf))
        clear how hnf hb H0
        have hbx := (MSt.nth (L1 := [_]) HZ.out).box
        obtain ⟨x0, x1, x2, x3, x4, x5, x6, hlx⟩ := box7 hbx
        obtain ⟨xz0, xz1, xz2, xz3, xz4, xz5, xz6⟩ := box7z hbx
        clear hbx
        go_wp2_with fail
        have hg := (MSt.nth (L1 := [_]) HZ.out).set7 [.int .i64 y0, .int .i64 y1, .int .i64 y2, .string y3, .slice y4 m4 q4y, .slice y5 m5 q5y, .slice y6 m6 q6y] rfl
        simp only [World.setCells, Nat.zero_add, Nat.reduceAdd] at hg
        generalize (((((((w1.setCell ⟨w.heap.size + 1 + 1, 0, none⟩ (.int .i64 y0)).setCell ⟨w.heap.size + 1 + 1, 1, none⟩ (.int .i64 y1)).setCell ⟨w.heap.size + 1 + 1, 2, none⟩ (.int .i64 y2)).setCell ⟨w.heap.size + 1 + 1, 3, none⟩ (.string y3)).setCell ⟨w.heap.size + 1 + 1, 4, none⟩ (.slice y4 m4 q4y)).setCell ⟨w.heap.size + 1 + 1, 5, none⟩ (.slice y5 m5 q5y)).setCell ⟨w.heap.size + 1 + 1, 6, none⟩ (.slice y6 m6 q6y)) = W7 at hg ⊢
        obtain ⟨z0, z1, z2, z3, z4, z5, z6, hlz⟩ := box7 hg.box
        refine bodyPost_ret (v := .agg #[.int .i64 y0, .int .i64 y1, .int .i64 y2, .string y3, .slice y4 m4 q4y, .slice y5 m5 q5y, .slice y6 m6 q6y]) (by simp [results, Tryz.results115, go_sem, z0, z1, z2, z3, z4, z5, z6]) rfl ⟨[.int .i64 y0, .int .i64 y1, .int .i64 y2, .string y3, .slice y4 m4 q4y, .slice y5 m5 q5y, .slice y6 m6 q6y], _, rfl, (MSt.nth (L1 := [_]) hg).objs.out.1, (MSt.nth (L1 := [_]) hg).objs.out.2, hg.bel⟩
      · rw [show addD _ _ = valD 6 4 ⟨#[]⟩ [] from addD_err (fun hh => by have h1 : (2 : Int) = 1 := hh.1; have h2 : (k' : Int) = 1 := hh.2; omega) (fun hh => by have h1 : (2 : Int) = 2 := hh.1; have h2 : (k' : Int) = 2 := hh.2; omega) (fun hh => by have h1 : (2 : Int) = 3 := hh.1; have h2 : (k' : Int) = 3 := hh.2; omega)]
        have f1 : (k' == 2) = false := by simpa using d2
        have f2 : (k' != 2) = true := by simpa using d2
        have f3 : ((2 : Int) != k') = true := by simp; omega
        clear d2
        clear hna hnb
        go_enter Tryz.func115, Tryz.ntmps115
        go_wp2_with fail
        refine (implErrorValue_any 4 _).mono ?_
        rintro e w1 ⟨rfl, hb⟩
        have HB1 : Hid (Below w.heap.size w w1) := by
          refine Lib.hid (Below.trans ?_ (hb.mono ?_))
          · repeat' (first | refine Below.setCell ?_ (by first | (simp; done) | (simp; omega) | omega) _ | refine Below.alloc ?_ (by first | (simp; done) | (simp; omega) | omega) _ | exact Below.refl _ _)
          · first | exact Nat.le_refl _ | (simp; done) | (simp; omega)
        have HS1 := HB1.out.size
        obtain ⟨hc1, hf1⟩ := bcell hb
        have hza1 : w.heap.size < w1.heap.size := by have := hb.size; first | (simp at this; omega) | omega
        have hzb1 : w.heap.size + 1 < w1.heap.size := by have := hb.size; first | (simp at this; omega) | omega
        have hzc1 : w.heap.size + 2 < w1.heap.size := by have := hb.size; first | (simp at this; omega) | omega
        clear hb
        go_wp2_with fail
        refine bodyPost_ret (v := .agg #[.int .i64 6, .int .i64 4, .int .i64 0, .string ⟨#[]⟩, .slice none 0 0, .slice none 0 0, .slice none 0 0]) (by simp [results, Tryz.results115, go_sem, *]) rfl (toA_flat rfl ?_)
        repeat' (first | refine Below.setCell ?_ (by first | (simp; done) | (simp; omega) | omega) _ | refine Below.alloc ?_ (by first | (simp; done) | (simp; omega) | omega) _ | exact HB1.out)
    · by_cases e3 : k = 3
      · subst e3
        by_cases d3 : k' = 3
        · subst d3
          rw [show addD _ _ = catL l l' from addD_lst rfl rfl]
          clear hna hnb
          have h0 := (((MSt.start w).new 28 7 #[.int .i64 3, .int .i64 n, .int .i64 s, .string t, .slice A4 l.length q4, .slice A5 c.length q5, .slice A6 r.length q6] rfl).new 28 7 #[.int .i64 3, .int .i64 n', .int .i64 s', .string t', .slice A4' l'.length q4', .slice A5' c'.length q5', .slice A6' r'.length q6'] rfl).new 28 7 #[.int .i64 0, .int .i64 0, .int .i64 0, .string ⟨#[]⟩, .slice none 0 0, .slice none 0 0, .slice none 0 0] rfl
          simp only [World.size_alloc] at h0
          have H0 := Lib.hid h0
          clear h0
          go_enter Tryz.func115, Tryz.ntmps115
          go_wp2_with fail
          refine (concatLists_any l l' HL.out.1 HL.out.2.1 HT.out.2.2 A4 A4' q4 q4' _ ((HL.out.2.2.1.below H0.out.bel).more H0.out.size) ((HL.out.2.2.2.below H0.out.bel).more H0.out.size)).mono ?_
          rintro e w1 ⟨cs, fp, rfl, how, hnf, hb⟩
          obtain ⟨y0, y1, y2, y3, y4, m4, q4y, y5, m5, q5y, y6, m6, q6y, rfl⟩ := IsVal.form (isVal_catL HL.out.1 HL.out.2.1) how.read
          have HZ := Lib.hid (H0.out.add hb (owA_at how hnf))
          clear how hnf hb H0
          have hbx := (MSt.nth (L1 := [_]) HZ.out).box
          obtain ⟨x0, x1, x2, x3, x4, x5, x6, hlx⟩ := box7 hbx
          obtain ⟨xz0, xz1, xz2, xz3, xz4, xz5, xz6⟩ := box7z hbx
          clear hbx
          go_wp2_with fail
          have hg := (MSt.nth (L1 := [_]) HZ.out).set7 [.int .i64 y0, .int .i64 y1, .int .i64 y2, .string y3, .slice y4 m4 q4y, .slice y5 m5 q5y, .slice y6 m6 q6y] rfl
          simp only [World.setCells, Nat.zero_add, Nat.reduceAdd] at hg
          generalize (((((((w1.setCell ⟨w.heap.size + 1 + 1, 0, none⟩ (.int .i64 y0)).setCell ⟨w.heap.size + 1 + 1, 1, none⟩ (.int .i64 y1)).setCell ⟨w.heap.size + 1 + 1, 2, none⟩ (.int .i64 y2)).setCell ⟨w.heap.size + 1 + 1, 3, none⟩ (.string y3)).setCell ⟨w.heap.size + 1 + 1, 4, none⟩ (.slice y4 m4 q4y)).setCell ⟨w.heap.size + 1 + 1, 5, none⟩ (.slice y5 m5 q5y)).setCell ⟨w.heap.size + 1 + 1, 6, none⟩ (.slice y6 m6 q6y)) = W7 at hg ⊢
          obtain ⟨z0, z1, z2, z3, z4, z5, z6, hlz⟩ := box7 hg.box
          refine bodyPost_ret (v := .agg #[.int .i64 y0, .int .i64 y1, .int .i64 y2, .string y3, .slice y4 m4 q4y, .slice y5 m5 q5y, .slice y6 m6 q6y]) (by simp [results, Tryz.results115, go_sem, z0, z1, z2, z3, z4, z5, z6]) rfl ⟨[.int .i64 y0, .int .i64 y1, .int .i64 y2, .string y3, .slice y4 m4 q4y, .slice y5 m5 q5y, .slice y6 m6 q6y], _, rfl, (MSt.nth (L1 := [_]) hg).objs.out.1, (MSt.nth (L1 := [_]) hg).objs.out.2, hg.bel⟩
        · rw [show addD _ _ = valD 6 4 ⟨#[]⟩ [] from addD_err (fun hh => by have h1 : (3 : Int) = 1 := hh.1; have h2 : (k' : Int) = 1 := hh.2; omega) (fun hh => by have h1 : (3 : Int) = 2 := hh.1; have h2 : (k' : Int) = 2 := hh.2; omega) (fun hh => by have h1 : (3 : Int) = 3 := hh.1; have h2 : (k' : Int) = 3 := hh.2; omega)]
          have f1 : (k' == 3) = false := by simpa using d3
          have f2 : (k' != 3) = true := by simpa using d3
          have f3 : ((3 : Int) != k') = true := by simp; omega
          clear d3
          clear hna hnb
          go_enter Tryz.func115, Tryz.ntmps115
          go_wp2_with fail
          refine (implErrorValue_any 4 _).mono ?_
          rintro e w1 ⟨rfl, hb⟩
          have HB1 : Hid (Below w.heap.size w w1) := by
            refine Lib.hid (Below.trans ?_ (hb.mono ?_))
            · repeat' (first | refine Below.setCell ?_ (by first | (simp; done) | (simp; omega) | omega) _ | refine Below.alloc ?_ (by first | (simp; done) | (simp; omega) | omega) _ | exact Below.refl _ _)
            · first | exact Nat.le_refl _ | (simp; done) | (simp; omega)
          have HS1 := HB1.out.size
          obtain ⟨hc1, hf1⟩ := bcell hb
          have hza1 : w.heap.size < w1.heap.size := by have := hb.size; first | (simp at this; omega) | omega
          have hzb1 : w.heap.size + 1 < w1.heap.size := by have := hb.size; first | (simp at this; omega) | omega
          have hzc1 : w.heap.size + 2 < w1.heap.size := by have := hb.size; first | (simp at this; omega) | omega
          clear hb
          go_wp2_with fail
          refine bodyPost_ret (v := .agg #[.int .i64 6, .int .i64 4, .int .i64 0, .string ⟨#[]⟩, .slice none 0 0, .slice none 0 0, .slice none 0 0]) (by simp [results, Tryz.results115, go_sem, *]) rfl (toA_flat rfl ?_)
          repeat' (first | refine Below.setCell ?_ (by first | (simp; done) | (simp; omega) | omega) _ | refine Below.alloc ?_ (by first | (simp; done) | (simp; omega) | omega) _ | exact HB1.out)
      · by_cases ek : k = k'
        · subst ek
          rw [show addD _ _ = valD 6 4 ⟨#[]⟩ [] from addD_err (fun hh => by have h1 : (k : Int) = 1 := hh.1; have h2 : (k : Int) = 1 := hh.2; omega) (fun hh => by have h1 : (k : Int) = 2 := hh.1; have h2 : (k : Int) = 2 := hh.2; omega) (fun hh => by have h1 : (k : Int) = 3 := hh.1; have h2 : (k : Int) = 3 := hh.2; omega)]
          have f1 : (k == 1) = false := by simpa using e1
          have g1 : (k != 1) = true := by simpa using e1
          have f2 : (k == 2) = false := by simpa using e2
          have g2 : (k != 2) = true := by simpa using e2
          have f3 : (k == 3) = false := by simpa using e3
          have g3 : (k != 3) = true := by simpa using e3
          clear e1 e2 e3
          clear hna hnb
          go_enter Tryz.func115, Tryz.ntmps115
          go_wp2_with fail
          refine (implErrorValue_any 4 _).mono ?_
          rintro e w1 ⟨rfl, hb⟩
          have HB1 : Hid (Below w.heap.size w w1) := by
            refine Lib.hid (Below.trans ?_ (hb.mono ?_))
            · repeat' (first | refine Below.setCell ?_ (by first | (simp; done) | (simp; omega) | omega) _ | refine Below.alloc ?_ (by first | (simp; done) | (simp; omega) | omega) _ | exact Below.refl _ _)
            · first | exact Nat.le_refl _ | (simp; done) | (simp; omega)
          have HS1 := HB1.out.size
          obtain ⟨hc1, hf1⟩ := bcell hb
          have hza1 : w.heap.size < w1.heap.size := by have := hb.size; first | (simp at this; omega) | omega
          have hzb1 : w.heap.size + 1 < w1.heap.size := by have := hb.size; first | (simp at this; omega) | omega
          have hzc1 : w.heap.size + 2 < w1.heap.size := by have := hb.size; first | (simp at this; omega) | omega
          clear hb
          go_wp2_with fail
          refine bodyPost_ret (v := .agg #[.int .i64 6, .int .i64 4, .int .i64 0, .string ⟨#[]⟩, .slice none 0 0, .slice none 0 0, .slice none 0 0]) (by simp [results, Tryz.results115, go_sem, *]) rfl (toA_flat rfl ?_)
          repeat' (first | refine Below.setCell ?_ (by first | (simp; done) | (simp; omega) | omega) _ | refine Below.alloc ?_ (by first | (simp; done) | (simp; omega) | omega) _ | exact HB1.out)
        · rw [show addD _ _ = valD 6 4 ⟨#[]⟩ [] from addD_err (fun hh => by have h1 : (k : Int) = 1 := hh.1; have h2 : (k' : Int) = 1 := hh.2; omega) (fun hh => by have h1 : (k : Int) = 2 := hh.1; have h2 : (k' : Int) = 2 := hh.2; omega) (fun hh => by have h1 : (k : Int) = 3 := hh.1; have h2 : (k' : Int) = 3 := hh.2; omega)]
          have f1 : (k == 1) = false := by simpa using e1
          have g1 : (k != 1) = true := by simpa using e1
          have f2 : (k == 2) = false := by simpa using e2
          have g2 : (k != 2) = true := by simpa using e2
          have f3 : (k == 3) = false := by simpa using e3
          have g3 : (k != 3) = true := by simpa using e3
          have fk : (k != k') = true := by simpa using ek
          clear ek
          clear e1 e2 e3
          clear hna hnb
          go_enter Tryz.func115, Tryz.ntmps115
          go_wp2_with fail
          refine (implErrorValue_any 4 _).mono ?_
          rintro e w1 ⟨rfl, hb⟩
          have HB1 : Hid (Below w.heap.size w w1) := by
            refine Lib.hid (Below.trans ?_ (hb.mono ?_))
            · repeat' (first | refine Below.setCell ?_ (by first | (simp; done) | (simp; omega) | omega) _ | refine Below.alloc ?_ (by first | (simp; done) | (simp; omega) | omega) _ | exact Below.refl _ _)
            · first | exact Nat.le_refl _ | (simp; done) | (simp; omega)
          have HS1 := HB1.out.size
          obtain ⟨hc1, hf1⟩ := bcell hb
          have hza1 : w.heap.size < w1.heap.size := by have := hb.size; first | (simp at this; omega) | omega
          have hzb1 : w.heap.size + 1 < w1.heap.size := by have := hb.size; first | (simp at this; omega) | omega
          have hzc1 : w.heap.size + 2 < w1.heap.size := by have := hb.size; first | (simp at this; omega) | omega
          clear hb
          go_wp2_with fail
          refine bodyPost_ret (v := .agg #[.int .i64 6, .int .i64 4, .int .i64 0, .string ⟨#[]⟩, .slice none 0 0, .slice none 0 0, .slice none 0 0]) (by simp [results, Tryz.results115, go_sem, *]) rfl (toA_flat rfl ?_)
          repeat' (first | refine Below.setCell ?_ (by first | (simp; done) | (simp; omega) | omega) _ | refine Below.alloc ?_ (by first | (simp; done) | (simp; omega) | omega) _ | exact HB1.out)

set_option maxHeartbeats 1600000 in
set_option maxRecDepth 100000 in
theorem specAdd_any {a b : Dt} (ha : IsVal a) (hb : IsVal b) (hwt : a.wt + b.wt ≤ 1048576) (hna : a.kd = 1 → NumOk a.nm) (hnb : b.kd = 1 → NumOk b.nm) (cs cs' : List Value) (w : World) (h : Rd w w.heap.size a cs) (h' : Rd w w.heap.size b cs') :
    Calls Tryz.prog 52 #[.agg cs.toArray, .agg cs'.toArray] w (ToA w (addD a b)) := by
  obtain ⟨k, n, s, t, l, c, r, hl, hr⟩ := ha
  obtain ⟨k', n', s', t', l', c', r', hl', hr'⟩ := hb
  have HH := Lib.hid (And.intro h h')
  obtain ⟨A4, q4, A5, q5, A6, q6, rfl, r4, -, -⟩ := Rd.ofValue h
  obtain ⟨A4', q4', A5', q5', A6', q6', rfl, r4', -, -⟩ := Rd.ofValue h'
  simp only [Dt.kd, Dt.nm] at hna hnb
  have HV := Lib.hid (And.intro (IsVal.mk k n s t l c r hl hr) (IsVal.mk k' n' s' t' l' c' r' hl' hr'))
  have HT := Lib.hid (show t.size ≤ 1048576 ∧ t'.size ≤ 1048576 ∧ Dt.wt (.lst (l ++ l')) ≤ 1048576 from by simp [Dt.wt, wts, wts_append] at hwt ⊢; omega)
  have HL := Lib.hid (And.intro hl (And.intro hl' (And.intro r4 r4')))
  clear h h' hl hl' hr hr' hwt r4 r4'
  simp only [List.length_map] at HH ⊢
  by_cases e1 : k = 1
  · subst e1
    by_cases d1 : k' = 1
    · subst d1
      rw [show addD _ _ = valD (chkK (n + n')) (chkN (n + n')) ⟨#[]⟩ [] from addD_num rfl rfl]
      have hx := hna rfl
      have hy := hnb rfl
      unfold NumOk at hx hy
      obtain ⟨hx1, hx2⟩ := hx
      obtain ⟨hy1, hy2⟩ := hy
      clear hna hnb
      go_enter Tryz.func52, Tryz.ntmps52
      go_wp2_with fail
      refine (specChecked_any (n + n') _).mono ?_
      rintro e w1 ⟨rfl, hb⟩
      have HB1 : Hid (Below w.heap.size w w1) := by
        refine Lib.hid (Below.trans ?_ (hb.mono ?_))
        · repeat' (first | refine Below.setCell ?_ (by first | (simp; done) | (simp; omega) | omega) _ | refine Below.alloc ?_ (by first | (simp; done) | (simp; omega) | omega) _ | exact Below.refl _ _)
        · first | exact Nat.le_refl _ | (simp; done) | (simp; omega)
      have HS1 := HB1.out.size
      obtain ⟨hc1, hf1⟩ := bcell hb
      have hza1 : w.heap.size < w1.heap.size := by have := hb.size; first | (simp at this; omega) | omega
      have hzb1 : w.heap.size + 1 < w1.heap.size := by have := hb.size; first | (simp at this; omega) | omega
      have hzc1 : w.heap.size + 2 < w1.heap.size := by have := hb.size; first | (simp at this; omega) | omega
      clear hb
      go_wp2_with fail
      refine bodyPost_ret (v := .agg #[.int .i64 (chkK (n + n')), .int .i64 (chkN (n + n')), .int .i64 0, .string ⟨#[]⟩, .slice none 0 0, .slice none 0 0, .slice none 0 0]) (by simp [results, Tryz.results52, go_sem, *]) rfl (toA_flat rfl ?_)
      repeat' (first | refine Below.setCell ?_ (by first | (simp; done) | (simp; omega) | omega) _ | refine Below.alloc ?_ (by first | (simp; done) | (simp; omega) | omega) _ | exact HB1.out)
    · rw [show addD _ _ = valD 6 4 ⟨#[]⟩ [] from addD_err (fun hh => by have h1 : (1 : Int) = 1 := hh.1; have h2 : (k' : Int) = 1 := hh.2; omega) (fun hh => by have h1 : (1 : Int) = 2 := hh.1; have h2 : (k' : Int) = 2 := hh.2; omega) (fun hh => by have h1 : (1 : Int) = 3 := hh.1; have h2 : (k' : Int) = 3 := hh.2; omega)]
      have f1 : (k' == 1) = false := by simpa using d1
      have f2 : (k' != 1) = true := by simpa using d1
      have f3 : ((1 : Int) != k') = true := by simp; omega
      clear d1
      clear hna hnb
      go_enter Tryz.func52, Tryz.ntmps52
      go_wp2_with fail
      refine (specErrorValue_any 4 _).mono ?_
      rintro e w1 ⟨rfl, hb⟩
      have HB1 : Hid (Below w.heap.size w w1) := by
        refine Lib.hid (Below.trans ?_ (hb.mono ?_))
        · repeat' (first | refine Below.setCell ?_ (by first | (simp; done) | (simp; omega) | omega) _ | refine Below.alloc ?_ (by first | (simp; done) | (simp; omega) | omega) _ | exact Below.refl _ _)
        · first | exact Nat.le_refl _ | (simp; done) | (simp; omega)
      have HS1 := HB1.out.size
      obtain ⟨hc1, hf1⟩ := bcell hb
      have hza1 : w.heap.size < w1.heap.size := by have := hb.size; first | (simp at this; omega) | omega
      have hzb1 : w.heap.size + 1 < w1.heap.size := by have := hb.size; first | (simp at this; omega) | omega
      have hzc1 : w.heap.size + 2 < w1.heap.size := by have := hb.size; first | (simp at this; omega) | omega
      clear hb
      go_wp2_with fail
      refine bodyPost_ret (v := .agg #[.int .i64 6, .int .i64 4, .int .i64 0, .string ⟨#[]⟩, .slice none 0 0, .slice none 0 0, .slice none 0 0]) (by simp [results, Tryz.results52, go_sem, *]) rfl (toA_flat rfl ?_)
      repeat' (first | refine Below.setCell ?_ (by first | (simp; done) | (simp; omega) | omega) _ | refine Below.alloc ?_ (by first | (simp; done) | (simp; omega) | omega) _ | exact HB1.out)
  · by_cases e2 : k = 2
    · subst e2
      by_cases d2 : k' = 2
      · subst d2
        rw [show addD _ _ = catT t t' from addD_txt rfl rfl]
        clear hna hnb
        have ht1 := HT.out.1
        have ht2 := HT.out.2.1
        by_cases hc : 20 < t.size + t'.size
        · rw [catT_no hc]
          have hg : decide ((20 : Int) < (t.size : Int) + (t'.size : Int)) = true := by simp; omega
          clear hc
          go_enter Tryz.func52, Tryz.ntmps52
          go_wp2_with fail
          refine (specErrorValue_any 6 _).mono ?_
          rintro e w1 ⟨rfl, hb⟩
          have HB1 : Hid (Below w.heap.size w w1) := by
            refine Lib.hid (Below.trans ?_ (hb.mono ?_))
            · repeat' (first | refine Below.setCell ?_ (by first | (simp; done) | (simp; omega) | omega) _ | refine Below.alloc ?_ (by first | (simp; done) | (simp; omega) | omega) _ | exact Below.refl _ _)
            · first | exact Nat.le_refl _ | (simp; done) | (simp; omega)
          have HS1 := HB1.out.size
          obtain ⟨hc1, hf1⟩ := bcell hb
          have hza1 : w.heap.size < w1.heap.size := by have := hb.size; first | (simp at this; omega) | omega
          have hzb1 : w.heap.size + 1 < w1.heap.size := by have := hb.size; first | (simp at this; omega) | omega
          have hzc1 : w.heap.size + 2 < w1.heap.size := by have := hb.size; first | (simp at this; omega) | omega
          clear hb
          go_wp2_with fail
          refine bodyPost_ret (v := .agg #[.int .i64 6, .int .i64 6, .int .i64 0, .string ⟨#[]⟩, .slice none 0 0, .slice none 0 0, .slice none 0 0]) (by simp [results, Tryz.results52, go_sem, *]) rfl (toA_flat rfl ?_)
          repeat' (first | refine Below.setCell ?_ (by first | (simp; done) | (simp; omega) | omega) _ | refine Below.alloc ?_ (by first | (simp; done) | (simp; omega) | omega) _ | exact HB1.out)
        · rw [catT_yes hc]
          have hg : decide ((20 : Int) < (t.size : Int) + (t'.size : Int)) = false := by simp; omega
          clear hc
          go_enter Tryz.func52, Tryz.ntmps52
          go_wp2_with fail
          refine (specTextValue_any (t ++ t') _).mono ?_
          rintro e w1 ⟨rfl, hb⟩
          have HB1 : Hid (Below w.heap.size w w1) := by
            refine Lib.hid (Below.trans ?_ (hb.mono ?_))
            · repeat' (first | refine Below.setCell ?_ (by first | (simp; done) | (simp; omega) | omega) _ | refine Below.alloc ?_ (by first | (simp; done) | (simp; omega) | omega) _ | exact Below.refl _ _)
            · first | exact Nat.le_refl _ | (simp; done) | (simp; omega)
          have HS1 := HB1.out.size
          obtain ⟨hc1, hf1⟩ := bcell hb
          have hza1 : w.heap.size < w1.heap.size := by have := hb.size; first | (simp at this; omega) | omega
          have hzb1 : w.heap.size + 1 < w1.heap.size := by have := hb.size; first | (simp at this; omega) | omega
          have hzc1 : w.heap.size + 2 < w1.heap.size := by have := hb.size; first | (simp at this; omega) | omega
          clear hb
          go_wp2_with fail
          refine bodyPost_ret (v := .agg #[.int .i64 2, .int .i64 0, .int .i64 0, .string (t ++ t'), .slice none 0 0, .slice none 0 0, .slice none 0 0]) (by simp [results, Tryz.results52, go_sem, *]) rfl (toA_flat rfl ?_)
          repeat' (first | refine Below.setCell ?_ (by first | (simp; done) | (simp; omega) | omega) _ | refine Below.alloc ?_ (by first | (simp; done) | (simp; omega) | omega) _ | exact HB1.out)
      · rw [show addD _ _ = valD 6 4 ⟨#[]⟩ [] from addD_err (fun hh => by have h1 : (2 : Int) = 1 := hh.1; have h2 : (k' : Int) = 1 := hh.2; omega) (fun hh => by have h1 : (2 : Int) = 2 := hh.1; have h2 : (k' : Int) = 2 := hh.2; omega) (fun hh => by have h1 : (2 : Int) = 3 := hh.1; have h2 : (k' : Int) = 3 := hh.2; omega)]
        have f1 : (k' == 2) = false := by simpa using d2
        have f2 : (k' != 2) = true := by simpa using d2
        have f3 : ((2 : Int) != k') = true := by simp; omega
        clear d2
        clear hna hnb
        go_enter Tryz.func52, Tryz.ntmps52
        go_wp2_with fail
        refine (specErrorValue_any 4 _).mono ?_
        rintro e w1 ⟨rfl, hb⟩
        have HB1 : Hid (Below w.heap.size w w1) := by
          refine Lib.hid (Below.trans ?_ (hb.mono ?_))
          · repeat' (first | refine Below.setCell ?_ (by first | (simp; done) | (simp; omega) | omega) _ | refine Below.alloc ?_ (by first | (simp; done) | (simp; omega) | omega) _ | exact Below.refl _ _)
          · first | exact Nat.le_refl _ | (simp; done) | (simp; omega)
        have HS1 := HB1.out.size
        obtain ⟨hc1, hf1⟩ := bcell hb
        have hza1 : w.heap.size < w1.heap.size := by have := hb.size; first | (simp at this; omega) | omega
        have hzb1 : w.heap.size + 1 < w1.heap.size := by have := hb.size; first | (simp at this; omega) | omega
        have hzc1 : w.heap.size + 2 < w1.heap.size := by have := hb.size; first | (simp at this; omega) | omega
        clear hb
        go_wp2_with fail
        refine bodyPost_ret (v := .agg #[.int .i64 6, .int .i64 4, .int .i64 0, .string ⟨#[]⟩, .slice none 0 0, .slice none 0 0, .slice none 0 0]) (by simp [results, Tryz.results52, go_sem, *]) rfl (toA_flat rfl ?_)
        repeat' (first | refine Below.setCell ?_ (by first | (simp; done) | (simp; omega) | omega) _ | refine Below.alloc ?_ (by first | (simp; done) | (simp; omega) | omega) _ | exact HB1.out)
    · by_cases e3 : k = 3
      · subst e3
        by_cases d3 : k' = 3
        · subst d3
          rw [show addD _ _ = catL l l' from addD_lst rfl rfl]
          clear hna hnb
          have hw2 := HT.out.2.2
          have l1 : l.length ≤ 1048576 := by simp [Dt.wt] at hw2; omega
          have l2 : l'.length ≤ 1048576 := by simp [Dt.wt] at hw2; omega
          by_cases hc : 8 < l.length + l'.length
          · rw [catL_no hc]
            have hg : decide ((8 : Int) < (l.length : Int) + (l'.length : Int)) = true := by simp; omega
            clear hc hw2
            go_enter Tryz.func52, Tryz.ntmps52
            go_wp2_with fail
            refine (specErrorValue_any 6 _).mono ?_
            rintro e w1 ⟨rfl, hb⟩
            have HB1 : Hid (Below w.heap.size w w1) := by
              refine Lib.hid (Below.trans ?_ (hb.mono ?_))
              · repeat' (first | refine Below.setCell ?_ (by first | (simp; done) | (simp; omega) | omega) _ | refine Below.alloc ?_ (by first | (simp; done) | (simp; omega) | omega) _ | exact Below.refl _ _)
              · first | exact Nat.le_refl _ | (simp; done) | (simp; omega)
            have HS1 := HB1.out.size
            obtain ⟨hc1, hf1⟩ := bcell hb
            have hza1 : w.heap.size < w1.heap.size := by have := hb.size; first | (simp at this; omega) | omega
            have hzb1 : w.heap.size + 1 < w1.heap.size := by have := hb.size; first | (simp at this; omega) | omega
            have hzc1 : w.heap.size + 2 < w1.heap.size := by have := hb.size; first | (simp at this; omega) | omega
            clear hb
            go_wp2_with fail
            refine bodyPost_ret (v := .agg #[.int .i64 6, .int .i64 6, .int .i64 0, .string ⟨#[]⟩, .slice none 0 0, .slice none 0 0, .slice none 0 0]) (by simp [results, Tryz.results52, go_sem, *]) rfl (toA_flat rfl ?_)
            repeat' (first | refine Below.setCell ?_ (by first | (simp; done) | (simp; omega) | omega) _ | refine Below.alloc ?_ (by first | (simp; done) | (simp; omega) | omega) _ | exact HB1.out)
          · rw [catL_yes hc]
            exact specCat_any n s t l c r n' s' t' l' c' r' A4 A5 A6 A4' A5' A6' q4 q5 q6 q4' q5' q6' w HL.out.1 HL.out.2.1 HT.out.2.2 HL.out.2.2.1 HL.out.2.2.2 hc
        · rw [show addD _ _ = valD 6 4 ⟨#[]⟩ [] from addD_err (fun hh => by have h1 : (3 : Int) = 1 := hh.1; have h2 : (k' : Int) = 1 := hh.2; omega) (fun hh => by have h1 : (3 : Int) = 2 := hh.1; have h2 : (k' : Int) = 2 := hh.2; omega) (fun hh => by have h1 : (3 : Int) = 3 := hh.1; have h2 : (k' : Int) = 3 := hh.2; omega)]
          have f1 : (k' == 3) = false := by simpa using d3
          have f2 : (k' != 3) = true := by simpa using d3
          have f3 : ((3 : Int) != k') = true := by simp; omega
          clear d3
          clear hna hnb
          go_enter Tryz.func52, Tryz.ntmps52
          go_wp2_with fail
          refine (specErrorValue_any 4 _).mono ?_
          rintro e w1 ⟨rfl, hb⟩
          have HB1 : Hid (Below w.heap.size w w1) := by
            refine Lib.hid (Below.trans ?_ (hb.mono ?_))
            · repeat' (first | refine Below.setCell ?_ (by first | (simp; done) | (simp; omega) | omega) _ | refine Below.alloc ?_ (by first | (simp; done) | (simp; omega) | omega) _ | exact Below.refl _ _)
            · first | exact Nat.le_refl _ | (simp; done) | (simp; omega)
          have HS1 := HB1.out.size
          obtain ⟨hc1, hf1⟩ := bcell hb
          have hza1 : w.heap.size < w1.heap.size := by have := hb.size; first | (simp at this; omega) | omega
          have hzb1 : w.heap.size + 1 < w1.heap.size := by have := hb.size; first | (simp at this; omega) | omega
          have hzc1 : w.heap.size + 2 < w1.heap.size := by have := hb.size; first | (simp at this; omega) | omega
          clear hb
          go_wp2_with fail
          refine bodyPost_ret (v := .agg #[.int .i64 6, .int .i64 4, .int .i64 0, .string ⟨#[]⟩, .slice none 0 0, .slice none 0 0, .slice none 0 0]) (by simp [results, Tryz.results52, go_sem, *]) rfl (toA_flat rfl ?_)
          repeat' (first | refine Below.setCell ?_ (by first | (simp; done) | (simp; omega) | omega) _ | refine Below.alloc ?_ (by first | (simp; done) | (simp; omega) | omega) _ | exact HB1.out)
      · rw [show addD _ _ = valD 6 4 ⟨#[]⟩ [] from addD_err (fun hh => by have h1 : (k : Int) = 1 := hh.1; have h2 : (k' : Int) = 1 := hh.2; omega) (fun hh => by have h1 : (k : Int) = 2 := hh.1; have h2 : (k' : Int) = 2 := hh.2; omega) (fun hh => by have h1 : (k : Int) = 3 := hh.1; have h2 : (k' : Int) = 3 := hh.2; omega)]
        have f1 : (k == 1) = false := by simpa using e1
        have g1 : (k != 1) = true := by simpa using e1
        have f2 : (k == 2) = false := by simpa using e2
        have g2 : (k != 2) = true := by simpa using e2
        have f3 : (k == 3) = false := by simpa using e3
        have g3 : (k != 3) = true := by simpa using e3
        clear e1 e2 e3
        clear hna hnb
        go_enter Tryz.func52, Tryz.ntmps52
        go_wp2_with fail
        refine (specErrorValue_any 4 _).mono ?_
        rintro e w1 ⟨rfl, hb⟩
        have HB1 : Hid (Below w.heap.size w w1) := by
          refine Lib.hid (Below.trans ?_ (hb.mono ?_))
          · repeat' (first | refine Below.setCell ?_ (by first | (simp; done) | (simp; omega) | omega) _ | refine Below.alloc ?_ (by first | (simp; done) | (simp; omega) | omega) _ | exact Below.refl _ _)
          · first | exact Nat.le_refl _ | (simp; done) | (simp; omega)
        have HS1 := HB1.out.size
        obtain ⟨hc1, hf1⟩ := bcell hb
        have hza1 : w.heap.size < w1.heap.size := by have := hb.size; first | (simp at this; omega) | omega
        have hzb1 : w.heap.size + 1 < w1.heap.size := by have := hb.size; first | (simp at this; omega) | omega
        have hzc1 : w.heap.size + 2 < w1.heap.size := by have := hb.size; first | (simp at this; omega) | omega
        clear hb
        go_wp2_with fail
        refine bodyPost_ret (v := .agg #[.int .i64 6, .int .i64 4, .int .i64 0, .string ⟨#[]⟩, .slice none 0 0, .slice none 0 0, .slice none 0 0]) (by simp [results, Tryz.results52, go_sem, *]) rfl (toA_flat rfl ?_)
        repeat' (first | refine Below.setCell ?_ (by first | (simp; done) | (simp; omega) | omega) _ | refine Below.alloc ?_ (by first | (simp; done) | (simp; omega) | omega) _ | exact HB1.out)

end Go.Proofs.YtabcmnlmmpbmnaaGreat
