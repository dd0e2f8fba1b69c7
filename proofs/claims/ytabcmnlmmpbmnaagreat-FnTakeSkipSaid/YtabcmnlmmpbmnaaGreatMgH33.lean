/-
  Texts that the proof rests on, put together: OpBin.
-/
import Derived.Test.YtabcmnlmmpbmnaaGreatMgH27
import Derived.Test.YtabcmnlmmpbmnaaGreatMgH13
import Derived.Test.YtabcmnlmmpbmnaaGreatMgH11
import Derived.Test.YtabcmnlmmpbmnaaGreatMgH5
import Derived.Test.YtabcmnlmmpbmnaaGreatMgH31
import Derived.Test.YtabcmnlmmpbmnaaGreatMgH32
import Derived.WalkLawsBesides
/-
  Operators on two values: texts, numbers, comparisons; the program's and the model's. (Written by genopwalk.py.)
-/

namespace Go.Proofs.YtabcmnlmmpbmnaaGreat
open Go.RowKit
set_option linter.unusedVariables false

theorem toA_flat {w w' : World} {e : Ending} {k n : Int} {t : ByteArray} (he : e = .returned (.agg #[.int .i64 k, .int .i64 n, .int .i64 0, .string t, .slice none 0 0, .slice none 0 0, .slice none 0 0])) (hb : Below w.heap.size w w') : ToA w (valD k n t []) e w' :=
  ⟨[.int .i64 k, .int .i64 n, .int .i64 0, .string t, .slice none 0 0, .slice none 0 0, .slice none 0 0], [], he, ow_flat w' k n 0 t, New.nil _, hb⟩
theorem catT_no {s t : ByteArray} (h : 20 < s.size + t.size) : catT s t = valD 6 6 ⟨#[]⟩ [] := if_pos h
theorem catT_yes {s t : ByteArray} (h : ¬ 20 < s.size + t.size) : catT s t = valD 2 0 (s ++ t) [] := if_neg h

set_option maxHeartbeats 1600000 in
set_option maxRecDepth 100000 in
theorem concatTexts_any (s t : ByteArray) (hs : s.size ≤ 1048576) (ht : t.size ≤ 1048576) (w : World) :
    Calls Tryz.prog 159 #[.string s, .string t] w (ToA w (catT s t)) := by
  by_cases h : 20 < s.size + t.size
  · rw [catT_no h]
    have hg : decide ((20 : Int) < (s.size : Int) + (t.size : Int)) = true := by simp; omega
    clear h
    go_enter Tryz.func159, Tryz.ntmps159
    go_wp2_with fail
    refine (implErrorValue_any 6 _).mono ?_
    rintro e w1 ⟨rfl, hb⟩
    have HB1 : Hid (Below w.heap.size w w1) := by
      refine Lib.hid (Below.trans ?_ (hb.mono ?_))
      · repeat' (first | refine Below.setCell ?_ (by first | (simp; done) | (simp; omega) | omega) _ | refine Below.alloc ?_ (by first | (simp; done) | (simp; omega) | omega) _ | exact Below.refl _ _)
      · first | exact Nat.le_refl _ | (simp; done) | (simp; omega)
    have HS1 := HB1.out.size
    obtain ⟨hc1, hf1⟩ := bcell hb
    have hza1 : w.heap.size < w1.heap.size := by have := hb.size; first | (simp at this; omega) | omega
    clear hb
    go_wp2_with fail
    refine bodyPost_ret (v := .agg #[.int .i64 6, .int .i64 6, .int .i64 0, .string ⟨#[]⟩, .slice none 0 0, .slice none 0 0, .slice none 0 0]) (by simp [results, Tryz.results159, go_sem, *]) rfl (toA_flat rfl ?_)
    repeat' (first | refine Below.setCell ?_ (by first | (simp; done) | (simp; omega) | omega) _ | refine Below.alloc ?_ (by first | (simp; done) | (simp; omega) | omega) _ | exact HB1.out)
  · rw [catT_yes h]
    have hg : decide ((20 : Int) < (s.size : Int) + (t.size : Int)) = false := by simp; omega
    clear h
    go_enter Tryz.func159, Tryz.ntmps159
    go_wp2_with fail
    refine (implTextValue_any (s ++ t) _).mono ?_
    rintro e w1 ⟨rfl, hb⟩
    have HB1 : Hid (Below w.heap.size w w1) := by
      refine Lib.hid (Below.trans ?_ (hb.mono ?_))
      · repeat' (first | refine Below.setCell ?_ (by first | (simp; done) | (simp; omega) | omega) _ | refine Below.alloc ?_ (by first | (simp; done) | (simp; omega) | omega) _ | exact Below.refl _ _)
      · first | exact Nat.le_refl _ | (simp; done) | (simp; omega)
    have HS1 := HB1.out.size
    obtain ⟨hc1, hf1⟩ := bcell hb
    have hza1 : w.heap.size < w1.heap.size := by have := hb.size; first | (simp at this; omega) | omega
    clear hb
    go_wp2_with fail
    refine bodyPost_ret (v := .agg #[.int .i64 2, .int .i64 0, .int .i64 0, .string (s ++ t), .slice none 0 0, .slice none 0 0, .slice none 0 0]) (by simp [results, Tryz.results159, go_sem, *]) rfl (toA_flat rfl ?_)
    repeat' (first | refine Below.setCell ?_ (by first | (simp; done) | (simp; omega) | omega) _ | refine Below.alloc ?_ (by first | (simp; done) | (simp; omega) | omega) _ | exact HB1.out)

theorem lessD_num {a b : Dt} (h : a.kd = 1) (h' : b.kd = 1) : lessD a b = valD 1 (truN (decide (a.nm < b.nm))) ⟨#[]⟩ [] := by unfold lessD; rw [if_pos ⟨h, h'⟩]; rfl
theorem lessD_txt {a b : Dt} (h : a.kd = 2) (h' : b.kd = 2) : lessD a b = valD 1 (truN (ltT a.tx b.tx)) ⟨#[]⟩ [] := by unfold lessD; rw [if_neg (by omega), if_pos ⟨h, h'⟩]; rfl
theorem lessD_err {a b : Dt} (h : ¬ (a.kd = 1 ∧ b.kd = 1)) (h' : ¬ (a.kd = 2 ∧ b.kd = 2)) : lessD a b = valD 6 4 ⟨#[]⟩ [] := by unfold lessD; rw [if_neg h, if_neg h']; rfl
theorem numD_num {f : Int → Int → Int} {a b : Dt} (h : a.kd = 1) (h' : b.kd = 1) : numD f a b = valD (chkK (f a.nm b.nm)) (chkN (f a.nm b.nm)) ⟨#[]⟩ [] := by unfold numD; rw [if_pos ⟨h, h'⟩]; rfl
theorem numD_err {f : Int → Int → Int} {a b : Dt} (h : ¬ (a.kd = 1 ∧ b.kd = 1)) : numD f a b = valD 6 4 ⟨#[]⟩ [] := by unfold numD; rw [if_neg h]; rfl
theorem addD_num {a b : Dt} (h : a.kd = 1) (h' : b.kd = 1) : addD a b = valD (chkK (a.nm + b.nm)) (chkN (a.nm + b.nm)) ⟨#[]⟩ [] := by unfold addD; rw [if_pos ⟨h, h'⟩]; rfl
theorem addD_txt {a b : Dt} (h : a.kd = 2) (h' : b.kd = 2) : addD a b = catT a.tx b.tx := by unfold addD; rw [if_neg (by omega), if_pos ⟨h, h'⟩]
theorem addD_lst {a b : Dt} (h : a.kd = 3) (h' : b.kd = 3) : addD a b = catL a.el b.el := by unfold addD; rw [if_neg (by omega), if_neg (by omega), if_pos ⟨h, h'⟩]
theorem addD_err {a b : Dt} (h : ¬ (a.kd = 1 ∧ b.kd = 1)) (h' : ¬ (a.kd = 2 ∧ b.kd = 2)) (h3 : ¬ (a.kd = 3 ∧ b.kd = 3)) : addD a b = valD 6 4 ⟨#[]⟩ [] := by unfold addD; rw [if_neg h, if_neg h', if_neg h3]; rfl

set_option maxHeartbeats 1600000 in
set_option maxRecDepth 100000 in
theorem noOperator_any {a b : Dt} (ha : IsVal a) (hb : IsVal b) (hwt : a.wt + b.wt ≤ 1048576) (hna : a.kd = 1 → NumOk a.nm) (hnb : b.kd = 1 → NumOk b.nm) (cs cs' : List Value) (w : World) (h : Rd w w.heap.size a cs) (h' : Rd w w.heap.size b cs') :
    Calls Tryz.prog 121 #[.agg cs.toArray, .agg cs'.toArray] w (ToA w (errD 4)) := by
  obtain ⟨k, n, s, t, l, c, r, hl, hr⟩ := ha
  obtain ⟨k', n', s', t', l', c', r', hl', hr'⟩ := hb
  have HH := Lib.hid (And.intro h h')
  obtain ⟨A4, q4, A5, q5, A6, q6, rfl, r4, -, -⟩ := Rd.ofValue h
  obtain ⟨A4', q4', A5', q5', A6', q6', rfl, r4', -, -⟩ := Rd.ofValue h'
  simp only [Dt.kd, Dt.nm] at hna hnb
  have HV := Lib.hid (And.intro (IsVal.mk k n s t l c r hl hr) (IsVal.mk k' n' s' t' l' c' r' hl' hr'))
  have HT := Lib.hid (show t.size ≤ 1048576 ∧ t'.size ≤ 1048576 ∧ Dt.wt (.lst (l ++ l')) ≤ 1048576 from by simp [Dt.wt, wts, wts_append] at hwt ⊢; omega)
  have HL := Lib.hid (And.intro hl (And.intro hl' (And.intro r4 r4')))
  clear h h' hl hl' hr hr' hwt r4 r4'
  simp only [List.length_map] at HH ⊢
  rw [show errD 4 = valD 6 4 ⟨#[]⟩ [] from rfl]
  clear hna hnb
  go_enter Tryz.func121, Tryz.ntmps121
  go_wp2_with fail
  refine (implErrorValue_any 4 _).mono ?_
  rintro e w1 ⟨rfl, hb⟩
  have HB1 : Hid (Below w.heap.size w w1) := by
    refine Lib.hid (Below.trans ?_ (hb.mono ?_))
    · repeat' (first | refine Below.setCell ?_ (by first | (simp; done) | (simp; omega) | omega) _ | refine Below.alloc ?_ (by first | (simp; done) | (simp; omega) | omega) _ | exact Below.refl _ _)
    · first | exact Nat.le_refl _ | (simp; done) | (simp; omega)
  have HS1 := HB1.out.size
  obtain ⟨hc1, hf1⟩ := bcell hb
  have hza1 : w.heap.size < w1.heap.size := by have := hb.size; first | (simp at this; omega) | omega
  have hzb1 : w.heap.size + 1 < w1.heap.size := by have := hb.size; first | (simp at this; omega) | omega
  have hzc1 : w.heap.size + 2 < w1.heap.size := by have := hb.size; first | (simp at this; omega) | omega
  clear hb
  go_wp2_with fail
  refine bodyPost_ret (v := .agg #[.int .i64 6, .int .i64 4, .int .i64 0, .string ⟨#[]⟩, .slice none 0 0, .slice none 0 0, .slice none 0 0]) (by simp [results, Tryz.results121, go_sem, *]) rfl (toA_flat rfl ?_)
  repeat' (first | refine Below.setCell ?_ (by first | (simp; done) | (simp; omega) | omega) _ | refine Below.alloc ?_ (by first | (simp; done) | (simp; omega) | omega) _ | exact HB1.out)

set_option maxHeartbeats 1600000 in
set_option maxRecDepth 100000 in
theorem implLess_any {a b : Dt} (ha : IsVal a) (hb : IsVal b) (hwt : a.wt + b.wt ≤ 1048576) (hna : a.kd = 1 → NumOk a.nm) (hnb : b.kd = 1 → NumOk b.nm) (cs cs' : List Value) (w : World) (h : Rd w w.heap.size a cs) (h' : Rd w w.heap.size b cs') :
    Calls Tryz.prog 119 #[.agg cs.toArray, .agg cs'.toArray] w (ToA w (lessD a b)) := by
  obtain ⟨k, n, s, t, l, c, r, hl, hr⟩ := ha
  obtain ⟨k', n', s', t', l', c', r', hl', hr'⟩ := hb
  have HH := Lib.hid (And.intro h h')
  obtain ⟨A4, q4, A5, q5, A6, q6, rfl, r4, -, -⟩ := Rd.ofValue h
  obtain ⟨A4', q4', A5', q5', A6', q6', rfl, r4', -, -⟩ := Rd.ofValue h'
  simp only [Dt.kd, Dt.nm] at hna hnb
  have HV := Lib.hid (And.intro (IsVal.mk k n s t l c r hl hr) (IsVal.mk k' n' s' t' l' c' r' hl' hr'))
  have HT := Lib.hid (show t.size ≤ 1048576 ∧ t'.size ≤ 1048576 ∧ Dt.wt (.lst (l ++ l')) ≤ 1048576 from by simp [Dt.wt, wts, wts_append] at hwt ⊢; omega)
  have HL := Lib.hid (And.intro hl (And.intro hl' (And.intro r4 r4')))
  clear h h' hl hl' hr hr' hwt r4 r4'
  simp only [List.length_map] at HH ⊢
  by_cases e1 : k = 1
  · subst e1
    by_cases d1 : k' = 1
    · subst d1
      rw [show lessD _ _ = valD 1 (truN (decide (n < n'))) ⟨#[]⟩ [] from lessD_num rfl rfl]
      have hx := hna rfl
      have hy := hnb rfl
      unfold NumOk at hx hy
      obtain ⟨hx1, hx2⟩ := hx
      obtain ⟨hy1, hy2⟩ := hy
      clear hna hnb
      go_enter Tryz.func119, Tryz.ntmps119
      go_wp2_with fail
      refine (implTruth_any (decide (n < n')) _).mono ?_
      rintro e w1 ⟨rfl, hb⟩
      have HB1 : Hid (Below w.heap.size w w1) := by
        refine Lib.hid (Below.trans ?_ (hb.mono ?_))
        · repeat' (first | refine Below.setCell ?_ (by first | (simp; done) | (simp; omega) | omega) _ | refine Below.alloc ?_ (by first | (simp; done) | (simp; omega) | omega) _ | exact Below.refl _ _)
        · first | exact Nat.le_refl _ | (simp; done) | (simp; omega)
      have HS1 := HB1.out.size
      obtain ⟨hc1, hf1⟩ := bcell hb
      have hza1 : w.heap.size < w1.heap.size := by have := hb.size; first | (simp at this; omega) | omega
      have hzb1 : w.heap.size + 1 < w1.heap.size := by have := hb.size; first | (simp at this; omega) | omega
      have hzc1 : w.heap.size + 2 < w1.heap.size := by have := hb.size; first | (simp at this; omega) | omega
      clear hb
      go_wp2_with fail
      refine bodyPost_ret (v := .agg #[.int .i64 1, .int .i64 (truN (decide (n < n'))), .int .i64 0, .string ⟨#[]⟩, .slice none 0 0, .slice none 0 0, .slice none 0 0]) (by simp [results, Tryz.results119, go_sem, *]) rfl (toA_flat rfl ?_)
      repeat' (first | refine Below.setCell ?_ (by first | (simp; done) | (simp; omega) | omega) _ | refine Below.alloc ?_ (by first | (simp; done) | (simp; omega) | omega) _ | exact HB1.out)
    · rw [show lessD _ _ = valD 6 4 ⟨#[]⟩ [] from lessD_err (fun hh => by have h1 : (1 : Int) = 1 := hh.1; have h2 : (k' : Int) = 1 := hh.2; omega) (fun hh => by have h1 : (1 : Int) = 2 := hh.1; have h2 : (k' : Int) = 2 := hh.2; omega)]
      have f1 : (k' == 1) = false := by simpa using d1
      have f2 : (k' != 1) = true := by simpa using d1
      have f3 : ((1 : Int) != k') = true := by simp; omega
      clear d1
      clear hna hnb
      go_enter Tryz.func119, Tryz.ntmps119
      go_wp2_with fail
      refine (implErrorValue_any 4 _).mono ?_
      rintro e w1 ⟨rfl, hb⟩
      have HB1 : Hid (Below w.heap.size w w1) := by
        refine Lib.hid (Below.trans ?_ (hb.mono ?_))
        · repeat' (first | refine Below.setCell ?_ (by first | (simp; done) | (simp; omega) | omega) _ | refine Below.alloc ?_ (by first | (simp; done) | (simp; omega) | omega) _ | exact Below.refl _ _)
        · first | exact Nat.le_refl _ | (simp; done) | (simp; omega)
      have HS1 := HB1.out.size
      obtain ⟨hc1, hf1⟩ := bcell hb
      have hza1 : w.heap.size < w1.heap.size := by have := hb.size; first | (simp at this; omega) | omega
      have hzb1 : w.heap.size + 1 < w1.heap.size := by have := hb.size; first | (simp at this; omega) | omega
      have hzc1 : w.heap.size + 2 < w1.heap.size := by have := hb.size; first | (simp at this; omega) | omega
      clear hb
      go_wp2_with fail
      refine bodyPost_ret (v := .agg #[.int .i64 6, .int .i64 4, .int .i64 0, .string ⟨#[]⟩, .slice none 0 0, .slice none 0 0, .slice none 0 0]) (by simp [results, Tryz.results119, go_sem, *]) rfl (toA_flat rfl ?_)
      repeat' (first | refine Below.setCell ?_ (by first | (simp; done) | (simp; omega) | omega) _ | refine Below.alloc ?_ (by first | (simp; done) | (simp; omega) | omega) _ | exact HB1.out)
  · by_cases e2 : k = 2
    · subst e2
      by_cases d2 : k' = 2
      · subst d2
        rw [show lessD _ _ = valD 1 (truN (Op.bytesLess t.toList t'.toList)) ⟨#[]⟩ [] from lessD_txt rfl rfl]
        clear hna hnb
        go_enter Tryz.func119, Tryz.ntmps119
        go_wp2_with fail
        refine (implTruth_any (Op.bytesLess t.toList t'.toList) _).mono ?_
        rintro e w1 ⟨rfl, hb⟩
        have HB1 : Hid (Below w.heap.size w w1) := by
          refine Lib.hid (Below.trans ?_ (hb.mono ?_))
          · repeat' (first | refine Below.setCell ?_ (by first | (simp; done) | (simp; omega) | omega) _ | refine Below.alloc ?_ (by first | (simp; done) | (simp; omega) | omega) _ | exact Below.refl _ _)
          · first | exact Nat.le_refl _ | (simp; done) | (simp; omega)
        have HS1 := HB1.out.size
        obtain ⟨hc1, hf1⟩ := bcell hb
        have hza1 : w.heap.size < w1.heap.size := by have := hb.size; first | (simp at this; omega) | omega
        have hzb1 : w.heap.size + 1 < w1.heap.size := by have := hb.size; first | (simp at this; omega) | omega
        have hzc1 : w.heap.size + 2 < w1.heap.size := by have := hb.size; first | (simp at this; omega) | omega
        clear hb
        go_wp2_with fail
        refine bodyPost_ret (v := .agg #[.int .i64 1, .int .i64 (truN (Op.bytesLess t.toList t'.toList)), .int .i64 0, .string ⟨#[]⟩, .slice none 0 0, .slice none 0 0, .slice none 0 0]) (by simp [results, Tryz.results119, go_sem, *]) rfl (toA_flat rfl ?_)
        repeat' (first | refine Below.setCell ?_ (by first | (simp; done) | (simp; omega) | omega) _ | refine Below.alloc ?_ (by first | (simp; done) | (simp; omega) | omega) _ | exact HB1.out)
      · rw [show lessD _ _ = valD 6 4 ⟨#[]⟩ [] from lessD_err (fun hh => by have h1 : (2 : Int) = 1 := hh.1; have h2 : (k' : Int) = 1 := hh.2; omega) (fun hh => by have h1 : (2 : Int) = 2 := hh.1; have h2 : (k' : Int) = 2 := hh.2; omega)]
        have f1 : (k' == 2) = false := by simpa using d2
        have f2 : (k' != 2) = true := by simpa using d2
        have f3 : ((2 : Int) != k') = true := by simp; omega
        clear d2
        clear hna hnb
        go_enter Tryz.func119, Tryz.ntmps119
        go_wp2_with fail
        refine (implErrorValue_any 4 _).mono ?_
        rintro e w1 ⟨rfl, hb⟩
        have HB1 : Hid (Below w.heap.size w w1) := by
          refine Lib.hid (Below.trans ?_ (hb.mono ?_))
          · repeat' (first | refine Below.setCell ?_ (by first | (simp; done) | (simp; omega) | omega) _ | refine Below.alloc ?_ (by first | (simp; done) | (simp; omega) | omega) _ | exact Below.refl _ _)
          · first | exact Nat.le_refl _ | (simp; done) | (simp; omega)
        have HS1 := HB1.out.size
        obtain ⟨hc1, hf1⟩ := bcell hb
        have hza1 : w.heap.size < w1.heap.size := by have := hb.size; first | (simp at this; omega) | omega
        have hzb1 : w.heap.size + 1 < w1.heap.size := by have := hb.size; first | (simp at this; omega) | omega
        have hzc1 : w.heap.size + 2 < w1.heap.size := by have := hb.size; first | (simp at this; omega) | omega
        clear hb
        go_wp2_with fail
        refine bodyPost_ret (v := .agg #[.int .i64 6, .int .i64 4, .int .i64 0, .string ⟨#[]⟩, .slice none 0 0, .slice none 0 0, .slice none 0 0]) (by simp [results, Tryz.results119, go_sem, *]) rfl (toA_flat rfl ?_)
        repeat' (first | refine Below.setCell ?_ (by first | (simp; done) | (simp; omega) | omega) _ | refine Below.alloc ?_ (by first | (simp; done) | (simp; omega) | omega) _ | exact HB1.out)
    · by_cases ek : k = k'
      · subst ek
        rw [show lessD _ _ = valD 6 4 ⟨#[]⟩ [] from lessD_err (fun hh => by have h1 : (k : Int) = 1 := hh.1; have h2 : (k : Int) = 1 := hh.2; omega) (fun hh => by have h1 : (k : Int) = 2 := hh.1; have h2 : (k : Int) = 2 := hh.2; omega)]
        have f1 : (k == 1) = false := by simpa using e1
        have g1 : (k != 1) = true := by simpa using e1
        have f2 : (k == 2) = false := by simpa using e2
        have g2 : (k != 2) = true := by simpa using e2
        clear e1 e2
        clear hna hnb
        go_enter Tryz.func119, Tryz.ntmps119
        go_wp2_with fail
        refine (implErrorValue_any 4 _).mono ?_
        rintro e w1 ⟨rfl, hb⟩
        have HB1 : Hid (Below w.heap.size w w1) := by
          refine Lib.hid (Below.trans ?_ (hb.mono ?_))
          · repeat' (first | refine Below.setCell ?_ (by first | (simp; done) | (simp; omega) | omega) _ | refine Below.alloc ?_ (by first | (simp; done) | (simp; omega) | omega) _ | exact Below.refl _ _)
          · first | exact Nat.le_refl _ | (simp; done) | (simp; omega)
        have HS1 := HB1.out.size
        obtain ⟨hc1, hf1⟩ := bcell hb
        have hza1 : w.heap.size < w1.heap.size := by have := hb.size; first | (simp at this; omega) | omega
        have hzb1 : w.heap.size + 1 < w1.heap.size := by have := hb.size; first | (simp at this; omega) | omega
        have hzc1 : w.heap.size + 2 < w1.heap.size := by have := hb.size; first | (simp at this; omega) | omega
        clear hb
        go_wp2_with fail
        refine bodyPost_ret (v := .agg #[.int .i64 6, .int .i64 4, .int .i64 0, .string ⟨#[]⟩, .slice none 0 0, .slice none 0 0, .slice none 0 0]) (by simp [results, Tryz.results119, go_sem, *]) rfl (toA_flat rfl ?_)
        repeat' (first | refine Below.setCell ?_ (by first | (simp; done) | (simp; omega) | omega) _ | refine Below.alloc ?_ (by first | (simp; done) | (simp; omega) | omega) _ | exact HB1.out)
      · rw [show lessD _ _ = valD 6 4 ⟨#[]⟩ [] from lessD_err (fun hh => by have h1 : (k : Int) = 1 := hh.1; have h2 : (k' : Int) = 1 := hh.2; omega) (fun hh => by have h1 : (k : Int) = 2 := hh.1; have h2 : (k' : Int) = 2 := hh.2; omega)]
        have f1 : (k == 1) = false := by simpa using e1
        have g1 : (k != 1) = true := by simpa using e1
        have f2 : (k == 2) = false := by simpa using e2
        have g2 : (k != 2) = true := by simpa using e2
        have fk : (k != k') = true := by simpa using ek
        clear ek
        clear e1 e2
        clear hna hnb
        go_enter Tryz.func119, Tryz.ntmps119
        go_wp2_with fail
        refine (implErrorValue_any 4 _).mono ?_
        rintro e w1 ⟨rfl, hb⟩
        have HB1 : Hid (Below w.heap.size w w1) := by
          refine Lib.hid (Below.trans ?_ (hb.mono ?_))
          · repeat' (first | refine Below.setCell ?_ (by first | (simp; done) | (simp; omega) | omega) _ | refine Below.alloc ?_ (by first | (simp; done) | (simp; omega) | omega) _ | exact Below.refl _ _)
          · first | exact Nat.le_refl _ | (simp; done) | (simp; omega)
        have HS1 := HB1.out.size
        obtain ⟨hc1, hf1⟩ := bcell hb
        have hza1 : w.heap.size < w1.heap.size := by have := hb.size; first | (simp at this; omega) | omega
        have hzb1 : w.heap.size + 1 < w1.heap.size := by have := hb.size; first | (simp at this; omega) | omega
        have hzc1 : w.heap.size + 2 < w1.heap.size := by have := hb.size; first | (simp at this; omega) | omega
        clear hb
        go_wp2_with fail
        refine bodyPost_ret (v := .agg #[.int .i64 6, .int .i64 4, .int .i64 0, .string ⟨#[]⟩, .slice none 0 0, .slice none 0 0, .slice none 0 0]) (by simp [results, Tryz.results119, go_sem, *]) rfl (toA_flat rfl ?_)
        repeat' (first | refine Below.setCell ?_ (by first | (simp; done) | (simp; omega) | omega) _ | refine Below.alloc ?_ (by first | (simp; done) | (simp; omega) | omega) _ | exact HB1.out)

set_option maxHeartbeats 1600000 in
set_option maxRecDepth 100000 in
theorem specLess_any {a b : Dt} (ha : IsVal a) (hb : IsVal b) (hwt : a.wt + b.wt ≤ 1048576) (hna : a.kd = 1 → NumOk a.nm) (hnb : b.kd = 1 → NumOk b.nm) (cs cs' : List Value) (w : World) (h : Rd w w.heap.size a cs) (h' : Rd w w.heap.size b cs') :
    Calls Tryz.prog 53 #[.agg cs.toArray, .agg cs'.toArray] w (ToA w (lessD a b)) := by
  obtain ⟨k, n, s, t, l, c, r, hl, hr⟩ := ha
  obtain ⟨k', n', s', t', l', c', r', hl', hr'⟩ := hb
  have HH := Lib.hid (And.intro h h')
  obtain ⟨A4, q4, A5, q5, A6, q6, rfl, r4, -, -⟩ := Rd.ofValue h
  obtain ⟨A4', q4', A5', q5', A6', q6', rfl, r4', -, -⟩ := Rd.ofValue h'
  simp only [Dt.kd, Dt.nm] at hna hnb
  have HV := Lib.hid (And.intro (IsVal.mk k n s t l c r hl hr) (IsVal.mk k' n' s' t' l' c' r' hl' hr'))
  have HT := Lib.hid (show t.size ≤ 1048576 ∧ t'.size ≤ 1048576 ∧ Dt.wt (.lst (l ++ l')) ≤ 1048576 from by simp [Dt.wt, wts, wts_append] at hwt ⊢; omega)
  have HL := Lib.hid (And.intro hl (And.intro hl' (And.intro r4 r4')))
  clear h h' hl hl' hr hr' hwt r4 r4'
  simp only [List.length_map] at HH ⊢
  by_cases e1 : k = 1
  · subst e1
    by_cases d1 : k' = 1
    · subst d1
      rw [show lessD _ _ = valD 1 (truN (decide (n < n'))) ⟨#[]⟩ [] from lessD_num rfl rfl]
      have hx := hna rfl
      have hy := hnb rfl
      unfold NumOk at hx hy
      obtain ⟨hx1, hx2⟩ := hx
      obtain ⟨hy1, hy2⟩ := hy
      clear hna hnb
      go_enter Tryz.func53, Tryz.ntmps53
      go_wp2_with fail
      refine (specTruth_any (decide (n < n')) _).mono ?_
      rintro e w1 ⟨rfl, hb⟩
      have HB1 : Hid (Below w.heap.size w w1) := by
        refine Lib.hid (Below.trans ?_ (hb.mono ?_))
        · repeat' (first | refine Below.setCell ?_ (by first | (simp; done) | (simp; omega) | omega) _ | refine Below.alloc ?_ (by first | (simp; done) | (simp; omega) | omega) _ | exact Below.refl _ _)
        · first | exact Nat.le_refl _ | (simp; done) | (simp; omega)
      have HS1 := HB1.out.size
      obtain ⟨hc1, hf1⟩ := bcell hb
      have hza1 : w.heap.size < w1.heap.size := by have := hb.size; first | (simp at this; omega) | omega
      have hzb1 : w.heap.size + 1 < w1.heap.size := by have := hb.size; first | (simp at this; omega) | omega
      have hzc1 : w.heap.size + 2 < w1.heap.size := by have := hb.size; first | (simp at this; omega) | omega
      clear hb
      go_wp2_with fail
      refine bodyPost_ret (v := .agg #[.int .i64 1, .int .i64 (truN (decide (n < n'))), .int .i64 0, .string ⟨#[]⟩, .slice none 0 0, .slice none 0 0, .slice none 0 0]) (by simp [results, Tryz.results53, go_sem, *]) rfl (toA_flat rfl ?_)
      repeat' (first | refine Below.setCell ?_ (by first | (simp; done) | (simp; omega) | omega) _ | refine Below.alloc ?_ (by first | (simp; done) | (simp; omega) | omega) _ | exact HB1.out)
    · rw [show lessD _ _ = valD 6 4 ⟨#[]⟩ [] from lessD_err (fun hh => by have h1 : (1 : Int) = 1 := hh.1; have h2 : (k' : Int) = 1 := hh.2; omega) (fun hh => by have h1 : (1 : Int) = 2 := hh.1; have h2 : (k' : Int) = 2 := hh.2; omega)]
      have f1 : (k' == 1) = false := by simpa using d1
      have f2 : (k' != 1) = true := by simpa using d1
      have f3 : ((1 : Int) != k') = true := by simp; omega
      clear d1
      clear hna hnb
      go_enter Tryz.func53, Tryz.ntmps53
      go_wp2_with fail
      refine (specErrorValue_any 4 _).mono ?_
      rintro e w1 ⟨rfl, hb⟩
      have HB1 : Hid (Below w.heap.size w w1) := by
        refine Lib.hid (Below.trans ?_ (hb.mono ?_))
        · repeat' (first | refine Below.setCell ?_ (by first | (simp; done) | (simp; omega) | omega) _ | refine Below.alloc ?_ (by first | (simp; done) | (simp; omega) | omega) _ | exact Below.refl _ _)
        · first | exact Nat.le_refl _ | (simp; done) | (simp; omega)
      have HS1 := HB1.out.size
      obtain ⟨hc1, hf1⟩ := bcell hb
      have hza1 : w.heap.size < w1.heap.size := by have := hb.size; first | (simp at this; omega) | omega
      have hzb1 : w.heap.size + 1 < w1.heap.size := by have := hb.size; first | (simp at this; omega) | omega
      have hzc1 : w.heap.size + 2 < w1.heap.size := by have := hb.size; first | (simp at this; omega) | omega
      clear hb
      go_wp2_with fail
      refine bodyPost_ret (v := .agg #[.int .i64 6, .int .i64 4, .int .i64 0, .string ⟨#[]⟩, .slice none 0 0, .slice none 0 0, .slice none 0 0]) (by simp [results, Tryz.results53, go_sem, *]) rfl (toA_flat rfl ?_)
      repeat' (first | refine Below.setCell ?_ (by first | (simp; done) | (simp; omega) | omega) _ | refine Below.alloc ?_ (by first | (simp; done) | (simp; omega) | omega) _ | exact HB1.out)
  · by_cases e2 : k = 2
    · subst e2
      by_cases d2 : k' = 2
      · subst d2
        rw [show lessD _ _ = valD 1 (truN (Op.bytesLess t.toList t'.toList)) ⟨#[]⟩ [] from lessD_txt rfl rfl]
        clear hna hnb
        go_enter Tryz.func53, Tryz.ntmps53
        go_wp2_with fail
        refine (specTruth_any (Op.bytesLess t.toList t'.toList) _).mono ?_
        rintro e w1 ⟨rfl, hb⟩
        have HB1 : Hid (Below w.heap.size w w1) := by
          refine Lib.hid (Below.trans ?_ (hb.mono ?_))
          · repeat' (first | refine Below.setCell ?_ (by first | (simp; done) | (simp; omega) | omega) _ | refine Below.alloc ?_ (by first | (simp; done) | (simp; omega) | omega) _ | exact Below.refl _ _)
          · first | exact Nat.le_refl _ | (simp; done) | (simp; omega)
        have HS1 := HB1.out.size
        obtain ⟨hc1, hf1⟩ := bcell hb
        have hza1 : w.heap.size < w1.heap.size := by have := hb.size; first | (simp at this; omega) | omega
        have hzb1 : w.heap.size + 1 < w1.heap.size := by have := hb.size; first | (simp at this; omega) | omega
        have hzc1 : w.heap.size + 2 < w1.heap.size := by have := hb.size; first | (simp at this; omega) | omega
        clear hb
        go_wp2_with fail
        refine bodyPost_ret (v := .agg #[.int .i64 1, .int .i64 (truN (Op.bytesLess t.toList t'.toList)), .int .i64 0, .string ⟨#[]⟩, .slice none 0 0, .slice none 0 0, .slice none 0 0]) (by simp [results, Tryz.results53, go_sem, *]) rfl (toA_flat rfl ?_)
        repeat' (first | refine Below.setCell ?_ (by first | (simp; done) | (simp; omega) | omega) _ | refine Below.alloc ?_ (by first | (simp; done) | (simp; omega) | omega) _ | exact HB1.out)
      · rw [show lessD _ _ = valD 6 4 ⟨#[]⟩ [] from lessD_err (fun hh => by have h1 : (2 : Int) = 1 := hh.1; have h2 : (k' : Int) = 1 := hh.2; omega) (fun hh => by have h1 : (2 : Int) = 2 := hh.1; have h2 : (k' : Int) = 2 := hh.2; omega)]
        have f1 : (k' == 2) = false := by simpa using d2
        have f2 : (k' != 2) = true := by simpa using d2
        have f3 : ((2 : Int) != k') = true := by simp; omega
        clear d2
        clear hna hnb
        go_enter Tryz.func53, Tryz.ntmps53
        go_wp2_with fail
        refine (specErrorValue_any 4 _).mono ?_
        rintro e w1 ⟨rfl, hb⟩
        have HB1 : Hid (Below w.heap.size w w1) := by
          refine Lib.hid (Below.trans ?_ (hb.mono ?_))
          · repeat' (first | refine Below.setCell ?_ (by first | (simp; done) | (simp; omega) | omega) _ | refine Below.alloc ?_ (by first | (simp; done) | (simp; omega) | omega) _ | exact Below.refl _ _)
          · first | exact Nat.le_refl _ | (simp; done) | (simp; omega)
        have HS1 := HB1.out.size
        obtain ⟨hc1, hf1⟩ := bcell hb
        have hza1 : w.heap.size < w1.heap.size := by have := hb.size; first | (simp at this; omega) | omega
        have hzb1 : w.heap.size + 1 < w1.heap.size := by have := hb.size; first | (simp at this; omega) | omega
        have hzc1 : w.heap.size + 2 < w1.heap.size := by have := hb.size; first | (simp at this; omega) | omega
        clear hb
        go_wp2_with fail
        refine bodyPost_ret (v := .agg #[.int .i64 6, .int .i64 4, .int .i64 0, .string ⟨#[]⟩, .slice none 0 0, .slice none 0 0, .slice none 0 0]) (by simp [results, Tryz.results53, go_sem, *]) rfl (toA_flat rfl ?_)
        repeat' (first | refine Below.setCell ?_ (by first | (simp; done) | (simp; omega) | omega) _ | refine Below.alloc ?_ (by first | (simp; done) | (simp; omega) | omega) _ | exact HB1.out)
    · rw [show lessD _ _ = valD 6 4 ⟨#[]⟩ [] from lessD_err (fun hh => by have h1 : (k : Int) = 1 := hh.1; have h2 : (k' : Int) = 1 := hh.2; omega) (fun hh => by have h1 : (k : Int) = 2 := hh.1; have h2 : (k' : Int) = 2 := hh.2; omega)]
      have f1 : (k == 1) = false := by simpa using e1
      have g1 : (k != 1) = true := by simpa using e1
      have f2 : (k == 2) = false := by simpa using e2
      have g2 : (k != 2) = true := by simpa using e2
      clear e1 e2
      clear hna hnb
      go_enter Tryz.func53, Tryz.ntmps53
      go_wp2_with fail
      refine (specErrorValue_any 4 _).mono ?_
      rintro e w1 ⟨rfl, hb⟩
      have HB1 : Hid (Below w.heap.size w w1) := by
        refine Lib.hid (Below.trans ?_ (hb.mono ?_))
        · repeat' (first | refine Below.setCell ?_ (by first | (simp; done) | (simp; omega) | omega) _ | refine Below.alloc ?_ (by first | (simp; done) | (simp; omega) | omega) _ | exact Below.refl _ _)
        · first | exact Nat.le_refl _ | (simp; done) | (simp; omega)
      have HS1 := HB1.out.size
      obtain ⟨hc1, hf1⟩ := bcell hb
      have hza1 : w.heap.size < w1.heap.size := by have := hb.size; first | (simp at this; omega) | omega
      have hzb1 : w.heap.size + 1 < w1.heap.size := by have := hb.size; first | (simp at this; omega) | omega
      have hzc1 : w.heap.size + 2 < w1.heap.size := by have := hb.size; first | (simp at this; omega) | omega
      clear hb
      go_wp2_with fail
      refine bodyPost_ret (v := .agg #[.int .i64 6, .int .i64 4, .int .i64 0, .string ⟨#[]⟩, .slice none 0 0, .slice none 0 0, .slice none 0 0]) (by simp [results, Tryz.results53, go_sem, *]) rfl (toA_flat rfl ?_)
      repeat' (first | refine Below.setCell ?_ (by first | (simp; done) | (simp; omega) | omega) _ | refine Below.alloc ?_ (by first | (simp; done) | (simp; omega) | omega) _ | exact HB1.out)

theorem mul_bd {n n' : Int} (h1 : -1000000000 ≤ n) (h2 : n ≤ 1000000000) (h3 : -1000000000 ≤ n') (h4 : n' ≤ 1000000000) : -1000000000000000000 ≤ n * n' ∧ n * n' ≤ 1000000000000000000 := by
  have a : (n * n').natAbs ≤ 1000000000 * 1000000000 := by
    rw [Int.natAbs_mul]
    exact Nat.mul_le_mul (by omega) (by omega)
  omega

set_option maxHeartbeats 1600000 in
set_option maxRecDepth 100000 in
theorem sub_any (n n' : Int) (h1 : -1000000000 ≤ n) (h2 : n ≤ 1000000000) (h3 : -1000000000 ≤ n') (h4 : n' ≤ 1000000000) (w : World) :
    Calls Tryz.prog 117 #[.int .i64 n, .int .i64 n'] w fun e w' => e = .returned (.int .i64 (n - n')) ∧ w' = w := by
  obtain ⟨m1, m2⟩ := mul_bd h1 h2 h3 h4
  go_enter Tryz.func117, Tryz.ntmps117
  go_wp2_with fail
  go_ret
  exact ⟨rfl, rfl⟩

set_option maxHeartbeats 1600000 in
set_option maxRecDepth 100000 in
theorem subNum_any {a b : Dt} (ha : IsVal a) (hb : IsVal b) (hwt : a.wt + b.wt ≤ 1048576) (hna : a.kd = 1 → NumOk a.nm) (hnb : b.kd = 1 → NumOk b.nm) (cs cs' : List Value) (w : World) (h : Rd w w.heap.size a cs) (h' : Rd w w.heap.size b cs') (g : Nat) (hg : g < w.heap.size) (hgc : w.cell? ⟨g, 0, none⟩ = some (.func (.func 117) #[] #[])) :
    Calls Tryz.prog 161 #[.agg cs.toArray, .agg cs'.toArray, .pointer (some ⟨g, 0, none⟩)] w (ToA w (numD (· - ·) a b)) := by
  obtain ⟨k, n, s, t, l, c, r, hl, hr⟩ := ha
  obtain ⟨k', n', s', t', l', c', r', hl', hr'⟩ := hb
  have HH := Lib.hid (And.intro h h')
  obtain ⟨A4, q4, A5, q5, A6, q6, rfl, r4, -, -⟩ := Rd.ofValue h
  obtain ⟨A4', q4', A5', q5', A6', q6', rfl, r4', -, -⟩ := Rd.ofValue h'
  simp only [Dt.kd, Dt.nm] at hna hnb
  have HV := Lib.hid (And.intro (IsVal.mk k n s t l c r hl hr) (IsVal.mk k' n' s' t' l' c' r' hl' hr'))
  have HT := Lib.hid (show t.size ≤ 1048576 ∧ t'.size ≤ 1048576 ∧ Dt.wt (.lst (l ++ l')) ≤ 1048576 from by simp [Dt.wt, wts, wts_append] at hwt ⊢; omega)
  have HL := Lib.hid (And.intro hl (And.intro hl' (And.intro r4 r4')))
  clear h h' hl hl' hr hr' hwt r4 r4'
  simp only [List.length_map] at HH ⊢
  by_cases e1 : k = 1
  · subst e1
    by_cases d1 : k' = 1
    · subst d1
      rw [show numD (· - ·) _ _ = valD (chkK (n - n')) (chkN (n - n')) ⟨#[]⟩ [] from numD_num rfl rfl]
      have hx := hna rfl
      have hy := hnb rfl
      unfold NumOk at hx hy
      obtain ⟨hx1, hx2⟩ := hx
      obtain ⟨hy1, hy2⟩ := hy
      obtain ⟨m1, m2⟩ := mul_bd hx1 hx2 hy1 hy2
      have hgd := (MSt.bel ((((MSt.start w).new 28 7 #[.int .i64 1, .int .i64 n, .int .i64 s, .string t, .slice A4 l.length q4, .slice A5 c.length q5, .slice A6 r.length q6] rfl).new 28 7 #[.int .i64 1, .int .i64 n', .int .i64 s', .string t', .slice A4' l'.length q4', .slice A5' c'.length q5', .slice A6' r'.length q6'] rfl).new 28 7 #[.int .i64 0, .int .i64 0, .int .i64 0, .string ⟨#[]⟩, .slice none 0 0, .slice none 0 0, .slice none 0 0] rfl)).cell (p := ⟨g, 0, none⟩) hg |>.trans hgc
      clear hna hnb
      go_enter Tryz.func161, Tryz.ntmps161
      go_wp2_with fail
      refine (sub_any n n' hx1 hx2 hy1 hy2 _).mono ?_
      rintro e w0 ⟨rfl, rfl⟩
      go_wp2_with fail
      refine (implChecked_any (n - n') _).mono ?_
      rintro e w1 ⟨rfl, hb⟩
      have HB1 : Hid (Below w.heap.size w w1) := by
        refine Lib.hid (Below.trans ?_ (hb.mono ?_))
        · repeat' (first | refine Below.setCell ?_ (by first | (simp; done) | (simp; omega) | omega) _ | refine Below.alloc ?_ (by first | (simp; done) | (simp; omega) | omega) _ | exact Below.refl _ _)
        · first | exact Nat.le_refl _ | (simp; done) | (simp; omega)
      have HS1 := HB1.out.size
      obtain ⟨hc1, hf1⟩ := bcell hb
      have hza1 : w.heap.size < w1.heap.size := by have := hb.size; first | (simp at this; omega) | omega
      have hzb1 : w.heap.size + 1 < w1.heap.size := by have := hb.size; first | (simp at this; omega) | omega
      have hzc1 : w.heap.size + 2 < w1.heap.size := by have := hb.size; first | (simp at this; omega) | omega
      clear hb
      go_wp2_with fail
      refine bodyPost_ret (v := .agg #[.int .i64 (chkK (n - n')), .int .i64 (chkN (n - n')), .int .i64 0, .string ⟨#[]⟩, .slice none 0 0, .slice none 0 0, .slice none 0 0]) (by simp [results, Tryz.results161, go_sem, *]) rfl (toA_flat rfl ?_)
      repeat' (first | refine Below.setCell ?_ (by first | (simp; done) | (simp; omega) | omega) _ | refine Below.alloc ?_ (by first | (simp; done) | (simp; omega) | omega) _ | exact HB1.out)
    · rw [show numD (· - ·) _ _ = valD 6 4 ⟨#[]⟩ [] from numD_err (fun hh => by have h1 : (1 : Int) = 1 := hh.1; have h2 : (k' : Int) = 1 := hh.2; omega)]
      have f1 : (k' == 1) = false := by simpa using d1
      have f2 : (k' != 1) = true := by simpa using d1
      have f3 : ((1 : Int) != k') = true := by simp; omega
      clear d1
      clear hna hnb
      go_enter Tryz.func161, Tryz.ntmps161
      go_wp2_with fail
      refine (implErrorValue_any 4 _).mono ?_
      rintro e w1 ⟨rfl, hb⟩
      have HB1 : Hid (Below w.heap.size w w1) := by
        refine Lib.hid (Below.trans ?_ (hb.mono ?_))
        · repeat' (first | refine Below.setCell ?_ (by first | (simp; done) | (simp; omega) | omega) _ | refine Below.alloc ?_ (by first | (simp; done) | (simp; omega) | omega) _ | exact Below.refl _ _)
        · first | exact Nat.le_refl _ | (simp; done) | (simp; omega)
      have HS1 := HB1.out.size
      obtain ⟨hc1, hf1⟩ := bcell hb
      have hza1 : w.heap.size < w1.heap.size := by have := hb.size; first | (simp at this; omega) | omega
      have hzb1 : w.heap.size + 1 < w1.heap.size := by have := hb.size; first | (simp at this; omega) | omega
      have hzc1 : w.heap.size + 2 < w1.heap.size := by have := hb.size; first | (simp at this; omega) | omega
      clear hb
      go_wp2_with fail
      refine bodyPost_ret (v := .agg #[.int .i64 6, .int .i64 4, .int .i64 0, .string ⟨#[]⟩, .slice none 0 0, .slice none 0 0, .slice none 0 0]) (by simp [results, Tryz.results161, go_sem, *]) rfl (toA_flat rfl ?_)
      repeat' (first | refine Below.setCell ?_ (by first | (simp; done) | (simp; omega) | omega) _ | refine Below.alloc ?_ (by first | (simp; done) | (simp; omega) | omega) _ | exact HB1.out)
  · rw [show numD (· - ·) _ _ = valD 6 4 ⟨#[]⟩ [] from numD_err (fun hh => by have h1 : (k : Int) = 1 := hh.1; have h2 : (k' : Int) = 1 := hh.2; omega)]
    have f1 : (k == 1) = false := by simpa using e1
    have g1 : (k != 1) = true := by simpa using e1
    clear e1
    clear hna hnb
    go_enter Tryz.func161, Tryz.ntmps161
    go_wp2_with fail
    refine (implErrorValue_any 4 _).mono ?_
    rintro e w1 ⟨rfl, hb⟩
    have HB1 : Hid (Below w.heap.size w w1) := by
      refine Lib.hid (Below.trans ?_ (hb.mono ?_))
      · repeat' (first | refine Below.setCell ?_ (by first | (simp; done) | (simp; omega) | omega) _ | refine Below.alloc ?_ (by first | (simp; done) | (simp; omega) | omega) _ | exact Below.refl _ _)
      · first | exact Nat.le_refl _ | (simp; done) | (simp; omega)
    have HS1 := HB1.out.size
    obtain ⟨hc1, hf1⟩ := bcell hb
    have hza1 : w.heap.size < w1.heap.size := by have := hb.size; first | (simp at this; omega) | omega
    have hzb1 : w.heap.size + 1 < w1.heap.size := by have := hb.size; first | (simp at this; omega) | omega
    have hzc1 : w.heap.size + 2 < w1.heap.size := by have := hb.size; first | (simp at this; omega) | omega
    clear hb
    go_wp2_with fail
    refine bodyPost_ret (v := .agg #[.int .i64 6, .int .i64 4, .int .i64 0, .string ⟨#[]⟩, .slice none 0 0, .slice none 0 0, .slice none 0 0]) (by simp [results, Tryz.results161, go_sem, *]) rfl (toA_flat rfl ?_)
    repeat' (first | refine Below.setCell ?_ (by first | (simp; done) | (simp; omega) | omega) _ | refine Below.alloc ?_ (by first | (simp; done) | (simp; omega) | omega) _ | exact HB1.out)

set_option maxHeartbeats 1600000 in
set_option maxRecDepth 100000 in
theorem mul_any (n n' : Int) (h1 : -1000000000 ≤ n) (h2 : n ≤ 1000000000) (h3 : -1000000000 ≤ n') (h4 : n' ≤ 1000000000) (w : World) :
    Calls Tryz.prog 118 #[.int .i64 n, .int .i64 n'] w fun e w' => e = .returned (.int .i64 (n * n')) ∧ w' = w := by
  obtain ⟨m1, m2⟩ := mul_bd h1 h2 h3 h4
  go_enter Tryz.func118, Tryz.ntmps118
  go_wp2_with fail
  go_ret
  exact ⟨rfl, rfl⟩

set_option maxHeartbeats 1600000 in
set_option maxRecDepth 100000 in
theorem mulNum_any {a b : Dt} (ha : IsVal a) (hb : IsVal b) (hwt : a.wt + b.wt ≤ 1048576) (hna : a.kd = 1 → NumOk a.nm) (hnb : b.kd = 1 → NumOk b.nm) (cs cs' : List Value) (w : World) (h : Rd w w.heap.size a cs) (h' : Rd w w.heap.size b cs') (g : Nat) (hg : g < w.heap.size) (hgc : w.cell? ⟨g, 0, none⟩ = some (.func (.func 118) #[] #[])) :
    Calls Tryz.prog 161 #[.agg cs.toArray, .agg cs'.toArray, .pointer (some ⟨g, 0, none⟩)] w (ToA w (numD (· * ·) a b)) := by
  obtain ⟨k, n, s, t, l, c, r, hl, hr⟩ := ha
  obtain ⟨k', n', s', t', l', c', r', hl', hr'⟩ := hb
  have HH := Lib.hid (And.intro h h')
  obtain ⟨A4, q4, A5, q5, A6, q6, rfl, r4, -, -⟩ := Rd.ofValue h
  obtain ⟨A4', q4', A5', q5', A6', q6', rfl, r4', -, -⟩ := Rd.ofValue h'
  simp only [Dt.kd, Dt.nm] at hna hnb
  have HV := Lib.hid (And.intro (IsVal.mk k n s t l c r hl hr) (IsVal.mk k' n' s' t' l' c' r' hl' hr'))
  have HT := Lib.hid (show t.size ≤ 1048576 ∧ t'.size ≤ 1048576 ∧ Dt.wt (.lst (l ++ l')) ≤ 1048576 from by simp [Dt.wt, wts, wts_append] at hwt ⊢; omega)
  have HL := Lib.hid (And.intro hl (And.intro hl' (And.intro r4 r4')))
  clear h h' hl hl' hr hr' hwt r4 r4'
  simp only [List.length_map] at HH ⊢
  by_cases e1 : k = 1
  · subst e1
    by_cases d1 : k' = 1
    · subst d1
      rw [show numD (· * ·) _ _ = valD (chkK (n * n')) (chkN (n * n')) ⟨#[]⟩ [] from numD_num rfl rfl]
      have hx := hna rfl
      have hy := hnb rfl
      unfold NumOk at hx hy
      obtain ⟨hx1, hx2⟩ := hx
      obtain ⟨hy1, hy2⟩ := hy
      obtain ⟨m1, m2⟩ := mul_bd hx1 hx2 hy1 hy2
      have hgd := (MSt.bel ((((MSt.start w).new 28 7 #[.int .i64 1, .int .i64 n, .int .i64 s, .string t, .slice A4 l.length q4, .slice A5 c.length q5, .slice A6 r.length q6] rfl).new 28 7 #[.int .i64 1, .int .i64 n', .int .i64 s', .string t', .slice A4' l'.length q4', .slice A5' c'.length q5', .slice A6' r'.length q6'] rfl).new 28 7 #[.int .i64 0, .int .i64 0, .int .i64 0, .string ⟨#[]⟩, .slice none 0 0, .slice none 0 0, .slice none 0 0] rfl)).cell (p := ⟨g, 0, none⟩) hg |>.trans hgc
      clear hna hnb
      go_enter Tryz.func161, Tryz.ntmps161
      go_wp2_with fail
      refine (mul_any n n' hx1 hx2 hy1 hy2 _).mono ?_
      rintro e w0 ⟨rfl, rfl⟩
      go_wp2_with fail
      refine (implChecked_any (n * n') _).mono ?_
      rintro e w1 ⟨rfl, hb⟩
      have HB1 : Hid (Below w.heap.size w w1) := by
        refine Lib.hid (Below.trans ?_ (hb.mono ?_))
        · repeat' (first | refine Below.setCell ?_ (by first | (simp; done) | (simp; omega) | omega) _ | refine Below.alloc ?_ (by first | (simp; done) | (simp; omega) | omega) _ | exact Below.refl _ _)
        · first | exact Nat.le_refl _ | (simp; done) | (simp; omega)
      have HS1 := HB1.out.size
      obtain ⟨hc1, hf1⟩ := bcell hb
      have hza1 : w.heap.size < w1.heap.size := by have := hb.size; first | (simp at this; omega) | omega
      have hzb1 : w.heap.size + 1 < w1.heap.size := by have := hb.size; first | (simp at this; omega) | omega
      have hzc1 : w.heap.size + 2 < w1.heap.size := by have := hb.size; first | (simp at this; omega) | omega
      clear hb
      go_wp2_with fail
      refine bodyPost_ret (v := .agg #[.int .i64 (chkK (n * n')), .int .i64 (chkN (n * n')), .int .i64 0, .string ⟨#[]⟩, .slice none 0 0, .slice none 0 0, .slice none 0 0]) (by simp [results, Tryz.results161, go_sem, *]) rfl (toA_flat rfl ?_)
      repeat' (first | refine Below.setCell ?_ (by first | (simp; done) | (simp; omega) | omega) _ | refine Below.alloc ?_ (by first | (simp; done) | (simp; omega) | omega) _ | exact HB1.out)
    · rw [show numD (· * ·) _ _ = valD 6 4 ⟨#[]⟩ [] from numD_err (fun hh => by have h1 : (1 : Int) = 1 := hh.1; have h2 : (k' : Int) = 1 := hh.2; omega)]
      have f1 : (k' == 1) = false := by simpa using d1
      have f2 : (k' != 1) = true := by simpa using d1
      have f3 : ((1 : Int) != k') = true := by simp; omega
      clear d1
      clear hna hnb
      go_enter Tryz.func161, Tryz.ntmps161
      go_wp2_with fail
      refine (implErrorValue_any 4 _).mono ?_
      rintro e w1 ⟨rfl, hb⟩
      have HB1 : Hid (Below w.heap.size w w1) := by
        refine Lib.hid (Below.trans ?_ (hb.mono ?_))
        · repeat' (first | refine Below.setCell ?_ (by first | (simp; done) | (simp; omega) | omega) _ | refine Below.alloc ?_ (by first | (simp; done) | (simp; omega) | omega) _ | exact Below.refl _ _)
        · first | exact Nat.le_refl _ | (simp; done) | (simp; omega)
      have HS1 := HB1.out.size
      obtain ⟨hc1, hf1⟩ := bcell hb
      have hza1 : w.heap.size < w1.heap.size := by have := hb.size; first | (simp at this; omega) | omega
      have hzb1 : w.heap.size + 1 < w1.heap.size := by have := hb.size; first | (simp at this; omega) | omega
      have hzc1 : w.heap.size + 2 < w1.heap.size := by have := hb.size; first | (simp at this; omega) | omega
      clear hb
      go_wp2_with fail
      refine bodyPost_ret (v := .agg #[.int .i64 6, .int .i64 4, .int .i64 0, .string ⟨#[]⟩, .slice none 0 0, .slice none 0 0, .slice none 0 0]) (by simp [results, Tryz.results161, go_sem, *]) rfl (toA_flat rfl ?_)
      repeat' (first | refine Below.setCell ?_ (by first | (simp; done) | (simp; omega) | omega) _ | refine Below.alloc ?_ (by first | (simp; done) | (simp; omega) | omega) _ | exact HB1.out)
  · rw [show numD (· * ·) _ _ = valD 6 4 ⟨#[]⟩ [] from numD_err (fun hh => by have h1 : (k : Int) = 1 := hh.1; have h2 : (k' : Int) = 1 := hh.2; omega)]
    have f1 : (k == 1) = false := by simpa using e1
    have g1 : (k != 1) = true := by simpa using e1
    clear e1
    clear hna hnb
    go_enter Tryz.func161, Tryz.ntmps161
    go_wp2_with fail
    refine (implErrorValue_any 4 _).mono ?_
    rintro e w1 ⟨rfl, hb⟩
    have HB1 : Hid (Below w.heap.size w w1) := by
      refine Lib.hid (Below.trans ?_ (hb.mono ?_))
      · repeat' (first | refine Below.setCell ?_ (by first | (simp; done) | (simp; omega) | omega) _ | refine Below.alloc ?_ (by first | (simp; done) | (simp; omega) | omega) _ | exact Below.refl _ _)
      · first | exact Nat.le_refl _ | (simp; done) | (simp; omega)
    have HS1 := HB1.out.size
    obtain ⟨hc1, hf1⟩ := bcell hb
    have hza1 : w.heap.size < w1.heap.size := by have := hb.size; first | (simp at this; omega) | omega
    have hzb1 : w.heap.size + 1 < w1.heap.size := by have := hb.size; first | (simp at this; omega) | omega
    have hzc1 : w.heap.size + 2 < w1.heap.size := by have := hb.size; first | (simp at this; omega) | omega
    clear hb
    go_wp2_with fail
    refine bodyPost_ret (v := .agg #[.int .i64 6, .int .i64 4, .int .i64 0, .string ⟨#[]⟩, .slice none 0 0, .slice none 0 0, .slice none 0 0]) (by simp [results, Tryz.results161, go_sem, *]) rfl (toA_flat rfl ?_)
    repeat' (first | refine Below.setCell ?_ (by first | (simp; done) | (simp; omega) | omega) _ | refine Below.alloc ?_ (by first | (simp; done) | (simp; omega) | omega) _ | exact HB1.out)

theorem eqP_same {a b : Dt} {w : World} (e : Ending) (w' : World) (h : EqP (a.nrm shRow = b.nrm shRow) w e w') : e = .returned (.bool (sameB a b)) ∧ Below w.heap.size w w' := by
  obtain ⟨x, rfl, hx, hb⟩ := h
  refine ⟨?_, hb⟩
  have h2 : sameB a b = true ↔ a.nrm shRow = b.nrm shRow := @decide_eq_true_iff _ (Classical.propDecidable _)
  rw [show x = sameB a b from by rw [Bool.eq_iff_iff]; exact hx.trans h2.symm]

set_option maxHeartbeats 1600000 in
set_option maxRecDepth 100000 in
theorem implSame_any {a b : Dt} (ha : IsVal a) (hb : IsVal b) (hwt : a.wt + b.wt ≤ 1048576) (cs cs' : List Value) (w : World) (h : Rd w w.heap.size a cs) (h' : Rd w w.heap.size b cs') :
    Calls Tryz.prog 120 #[.agg cs.toArray, .agg cs'.toArray] w (ToA w (truD (sameB a b))) := by
  have hs := fun (wx : World) (hb0 : Below w.heap.size w wx) => (implEqualShown_any ha hb (by omega) (by omega) cs cs' wx ((h.below hb0).more hb0.size) ((h'.below hb0).more hb0.size)).mono eqP_same
  generalize sameB a b = sb at hs ⊢
  obtain ⟨k, n, s, t, l, c, r, hl, hr⟩ := ha
  obtain ⟨k', n', s', t', l', c', r', hl', hr'⟩ := hb
  obtain ⟨A4, q4, A5, q5, A6, q6, rfl, r4, -, -⟩ := Rd.ofValue h
  obtain ⟨A4', q4', A5', q5', A6', q6', rfl, r4', -, -⟩ := Rd.ofValue h'
  simp only [List.length_map] at hs ⊢
  have HS := Lib.hid hs
  clear h h' hl hl' hr hr' hwt r4 r4' hs
  rw [show truD sb = valD 1 (truN sb) ⟨#[]⟩ [] from rfl]
  have H0 := Lib.hid ((((MSt.start w).new 28 7 #[.int .i64 k, .int .i64 n, .int .i64 s, .string t, .slice A4 l.length q4, .slice A5 c.length q5, .slice A6 r.length q6] rfl).new 28 7 #[.int .i64 k', .int .i64 n', .int .i64 s', .string t', .slice A4' l'.length q4', .slice A5' c'.length q5', .slice A6' r'.length q6'] rfl).new 28 7 #[.int .i64 0, .int .i64 0, .int .i64 0, .string ⟨#[]⟩, .slice none 0 0, .slice none 0 0, .slice none 0 0] rfl)
  go_enter Tryz.func120, Tryz.ntmps120
  go_wp2_with fail
  refine (HS.out _ H0.out.bel).mono ?_
  rintro e w1 ⟨rfl, hb⟩
  have HB1 : Hid (Below w.heap.size w w1) := by
    refine Lib.hid (Below.trans ?_ (hb.mono ?_))
    · repeat' (first | refine Below.setCell ?_ (by first | (simp; done) | (simp; omega) | omega) _ | refine Below.alloc ?_ (by first | (simp; done) | (simp; omega) | omega) _ | exact Below.refl _ _)
    · first | exact Nat.le_refl _ | (simp; done) | (simp; omega)
  have HS1 := HB1.out.size
  obtain ⟨hc1, hf1⟩ := bcell hb
  have hza1 : w.heap.size < w1.heap.size := by have := hb.size; first | (simp at this; omega) | omega
  have hzb1 : w.heap.size + 1 < w1.heap.size := by have := hb.size; first | (simp at this; omega) | omega
  have hzc1 : w.heap.size + 2 < w1.heap.size := by have := hb.size; first | (simp at this; omega) | omega
  clear hb
  go_wp2_with fail
  refine (implTruth_any sb _).mono ?_
  rintro e w2 ⟨rfl, hb⟩
  have HB2 : Hid (Below w.heap.size w w2) := by
    refine Lib.hid (Below.trans ?_ (hb.mono ?_))
    · repeat' (first | refine Below.setCell ?_ (by first | (simp; done) | (simp; omega) | omega) _ | refine Below.alloc ?_ (by first | (simp; done) | (simp; omega) | omega) _ | exact HB1.out)
    · have := HB1.out.size; first | (simp; done) | (simp; omega) | omega
  have HS2 := HB2.out.size
  obtain ⟨hc2, hf2⟩ := bcell hb
  have hza2 : w.heap.size < w2.heap.size := by have := hb.size; first | (simp at this; omega) | omega
  have hzb2 : w.heap.size + 1 < w2.heap.size := by have := hb.size; first | (simp at this; omega) | omega
  have hzc2 : w.heap.size + 2 < w2.heap.size := by have := hb.size; first | (simp at this; omega) | omega
  clear hb
  go_wp2_with fail
  refine bodyPost_ret (v := .agg #[.int .i64 1, .int .i64 (truN sb), .int .i64 0, .string ⟨#[]⟩, .slice none 0 0, .slice none 0 0, .slice none 0 0]) (by simp [results, Tryz.results120, go_sem, *]) rfl (toA_flat rfl ?_)
  repeat' (first | refine Below.setCell ?_ (by first | (simp; done) | (simp; omega) | omega) _ | refine Below.alloc ?_ (by first | (simp; done) | (simp; omega) | omega) _ | exact HB2.out)

end Go.Proofs.YtabcmnlmmpbmnaaGreat
