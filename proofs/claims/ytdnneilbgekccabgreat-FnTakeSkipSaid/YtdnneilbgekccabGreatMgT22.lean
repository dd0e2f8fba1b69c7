/-
  Texts that the proof rests on, put together: OpBin.
-/
import Derived.Test.YtdnneilbgekccabGreatMgT11
import Derived.Test.YtdnneilbgekccabGreatMgT14
import Derived.Test.YtdnneilbgekccabGreatMgT5
import Derived.Test.YtdnneilbgekccabGreatMgT15
import Derived.Test.YtdnneilbgekccabGreatMgT12
import Derived.WalkLawsBesides
/-
  Operators on two values: texts, numbers, comparisons; the program's and the model's. (Written by genopwalk.py.)
-/

namespace Go.Proofs.YtdnneilbgekccabGreat
open Go.RowKit
set_option linter.unusedVariables false

theorem toA_flat {w w' : World} {e : Ending} {k n : Int} {t : ByteArray} (he : e = .returned (.agg #[.int .i64 k, .int .i64 n, .int .i64 0, .string t, .slice none 0 0, .slice none 0 0, .slice none 0 0])) (hb : Below w.heap.size w w') : ToA w (valD k n t []) e w' :=
  ⟨[.int .i64 k, .int .i64 n, .int .i64 0, .string t, .slice none 0 0, .slice none 0 0, .slice none 0 0], [], he, ow_flat w' k n 0 t, New.nil _, hb⟩
theorem catT_no {s t : ByteArray} (h : 20 < s.size + t.size) : catT s t = valD 6 6 ⟨#[]⟩ [] := if_pos h
theorem catT_yes {s t : ByteArray} (h : ¬ 20 < s.size + t.size) : catT s t = valD 2 0 (s ++ t) [] := if_neg h

theorem lessD_num {a b : Dt} (h : a.kd = 1) (h' : b.kd = 1) : lessD a b = valD 1 (truN (decide (a.nm < b.nm))) ⟨#[]⟩ [] := by unfold lessD; rw [if_pos ⟨h, h'⟩]; rfl
theorem lessD_txt {a b : Dt} (h : a.kd = 2) (h' : b.kd = 2) : lessD a b = valD 1 (truN (ltT a.tx b.tx)) ⟨#[]⟩ [] := by unfold lessD; rw [if_neg (by omega), if_pos ⟨h, h'⟩]; rfl
theorem lessD_err {a b : Dt} (h : ¬ (a.kd = 1 ∧ b.kd = 1)) (h' : ¬ (a.kd = 2 ∧ b.kd = 2)) : lessD a b = valD 6 4 ⟨#[]⟩ [] := by unfold lessD; rw [if_neg h, if_neg h']; rfl
theorem numD_num {f : Int → Int → Int} {a b : Dt} (h : a.kd = 1) (h' : b.kd = 1) : numD f a b = valD (chkK (f a.nm b.nm)) (chkN (f a.nm b.nm)) ⟨#[]⟩ [] := by unfold numD; rw [if_pos ⟨h, h'⟩]; rfl
theorem numD_err {f : Int → Int → Int} {a b : Dt} (h : ¬ (a.kd = 1 ∧ b.kd = 1)) : numD f a b = valD 6 4 ⟨#[]⟩ [] := by unfold numD; rw [if_neg h]; rfl
theorem addD_num {a b : Dt} (h : a.kd = 1) (h' : b.kd = 1) : addD a b = valD (chkK (a.nm + b.nm)) (chkN (a.nm + b.nm)) ⟨#[]⟩ [] := by unfold addD; rw [if_pos ⟨h, h'⟩]; rfl
theorem addD_txt {a b : Dt} (h : a.kd = 2) (h' : b.kd = 2) : addD a b = catT a.tx b.tx := by unfold addD; rw [if_neg (by omega), if_pos ⟨h, h'⟩]
theorem addD_lst {a b : Dt} (h : a.kd = 3) (h' : b.kd = 3) : addD a b = catL a.el b.el := by unfold addD; rw [if_neg (by omega), if_neg (by omega), if_pos ⟨h, h'⟩]
theorem addD_err {a b : Dt} (h : ¬ (a.kd = 1 ∧ b.kd = 1)) (h' : ¬ (a.kd = 2 ∧ b.kd = 2)) (h3 : ¬ (a.kd = 3 ∧ b.kd = 3)) : addD a b = valD 6 4 ⟨#[]⟩ [] := by unfold addD; rw [if_neg h, if_neg h', if_neg h3]; rfl

set_option maxHeartbeats 1600000 in
set_option maxRecDepth 100000 in
theorem specLess_any {a b : Dt} (ha : IsVal a) (hb : IsVal b) (hwt : a.wt + b.wt ≤ 1048576) (hna : a.kd = 1 → NumOk a.nm) (hnb : b.kd = 1 → NumOk b.nm) (cs cs' : List Value) (w : World) (h : Rd w w.heap.size a cs) (h' : Rd w w.heap.size b cs') :
    Calls Tryz.prog 99 #[.agg cs.toArray, .agg cs'.toArray] w (ToA w (lessD a b)) := by
  obtain ⟨k, n, s, t, l, c, r, hl, hr⟩ := ha
  obtain ⟨k', n', s', t', l', c', r', hl', hr'⟩ := hb
  have HH := Lib.hid (And.intro h h')
  obtain ⟨A4, q4, A5, q5, A6, q6, rfl, r4, -, -⟩ := Rd.ofValue h
  obtain ⟨A4', q4', A5', q5', A6', q6', rfl, r4', -, -⟩ := Rd.ofValue h'
  simp only [Dt.kd, Dt.nm] at hna hnb
  have HV := Lib.hid (And.intro (IsVal.mk k n s t l c r hl hr) (IsVal.mk k' n' s' t' l' c' r' hl' hr'))
  have HT := Lib.hid (show t.size ≤ 1048576 ∧ t'.size ≤ 1048576 ∧ Dt.wt (.lst (l ++ l')) ≤ 1048576 from by simp [Dt.wt, wts, wts_append] at hwt ⊢; omega)
  have HL := Lib.hid (And.intro hl (And.intro hl' (And.intro r4 r4')))
  clear h h' hl hl' hr hr' hwt r4 r4'
  simp only [List.length_map] at HH ⊢
  by_cases e1 : k = 1
  · subst e1
    by_cases d1 : k' = 1
    · subst d1
      rw [show lessD _ _ = valD 1 (truN (decide (n < n'))) ⟨#[]⟩ [] from lessD_num rfl rfl]
      have hx := hna rfl
      have hy := hnb rfl
      unfold NumOk at hx hy
      obtain ⟨hx1, hx2⟩ := hx
      obtain ⟨hy1, hy2⟩ := hy
      clear hna hnb
      go_enter Tryz.func99, Tryz.ntmps99
      go_wp2_with fail
      refine (specTruth_any (decide (n < n')) _).mono ?_
      rintro e w1 ⟨rfl, hb⟩
      have HB1 : Hid (Below w.heap.size w w1) := by
        refine Lib.hid (Below.trans ?_ (hb.mono ?_))
        · repeat' (first | refine Below.setCell ?_ (by first | (simp; done) | (simp; omega) | omega) _ | refine Below.alloc ?_ (by first | (simp; done) | (simp; omega) | omega) _ | exact Below.refl _ _)
        · first | exact Nat.le_refl _ | (simp; done) | (simp; omega)
      have HS1 := HB1.out.size
      obtain ⟨hc1, hf1⟩ := bcell hb
      have hza1 : w.heap.size < w1.heap.size := by have := hb.size; first | (simp at this; omega) | omega
      have hzb1 : w.heap.size + 1 < w1.heap.size := by have := hb.size; first | (simp at this; omega) | omega
      have hzc1 : w.heap.size + 2 < w1.heap.size := by have := hb.size; first | (simp at this; omega) | omega
      clear hb
      go_wp2_with fail
      refine bodyPost_ret (v := .agg #[.int .i64 1, .int .i64 (truN (decide (n < n'))), .int .i64 0, .string ⟨#[]⟩, .slice none 0 0, .slice none 0 0, .slice none 0 0]) (by simp [results, Tryz.results99, go_sem, *]) rfl (toA_flat rfl ?_)
      repeat' (first | refine Below.setCell ?_ (by first | (simp; done) | (simp; omega) | omega) _ | refine Below.alloc ?_ (by first | (simp; done) | (simp; omega) | omega) _ | exact HB1.out)
    · rw [show lessD _ _ = valD 6 4 ⟨#[]⟩ [] from lessD_err (fun hh => by have h1 : (1 : Int) = 1 := hh.1; have h2 : (k' : Int) = 1 := hh.2; omega) (fun hh => by have h1 : (1 : Int) = 2 := hh.1; have h2 : (k' : Int) = 2 := hh.2; omega)]
      have f1 : (k' == 1) = false := by simpa using d1
      have f2 : (k' != 1) = true := by simpa using d1
      have f3 : ((1 : Int) != k') = true := by simp; omega
      clear d1
      clear hna hnb
      go_enter Tryz.func99, Tryz.ntmps99
      go_wp2_with fail
      refine (specErrorValue_any 4 _).mono ?_
      rintro e w1 ⟨rfl, hb⟩
      have HB1 : Hid (Below w.heap.size w w1) := by
        refine Lib.hid (Below.trans ?_ (hb.mono ?_))
        · repeat' (first | refine Below.setCell ?_ (by first | (simp; done) | (simp; omega) | omega) _ | refine Below.alloc ?_ (by first | (simp; done) | (simp; omega) | omega) _ | exact Below.refl _ _)
        · first | exact Nat.le_refl _ | (simp; done) | (simp; omega)
      have HS1 := HB1.out.size
      obtain ⟨hc1, hf1⟩ := bcell hb
      have hza1 : w.heap.size < w1.heap.size := by have := hb.size; first | (simp at this; omega) | omega
      have hzb1 : w.heap.size + 1 < w1.heap.size := by have := hb.size; first | (simp at this; omega) | omega
      have hzc1 : w.heap.size + 2 < w1.heap.size := by have := hb.size; first | (simp at this; omega) | omega
      clear hb
      go_wp2_with fail
      refine bodyPost_ret (v := .agg #[.int .i64 6, .int .i64 4, .int .i64 0, .string ⟨#[]⟩, .slice none 0 0, .slice none 0 0, .slice none 0 0]) (by simp [results, Tryz.results99, go_sem, *]) rfl (toA_flat rfl ?_)
      repeat' (first | refine Below.setCell ?_ (by first | (simp; done) | (simp; omega) | omega) _ | refine Below.alloc ?_ (by first | (simp; done) | (simp; omega) | omega) _ | exact HB1.out)
  · by_cases e2 : k = 2
    · subst e2
      by_cases d2 : k' = 2
      · subst d2
        rw [show lessD _ _ = valD 1 (truN (Op.bytesLess t.toList t'.toList)) ⟨#[]⟩ [] from lessD_txt rfl rfl]
        clear hna hnb
        go_enter Tryz.func99, Tryz.ntmps99
        go_wp2_with fail
        refine (specTruth_any (Op.bytesLess t.toList t'.toList) _).mono ?_
        rintro e w1 ⟨rfl, hb⟩
        have HB1 : Hid (Below w.heap.size w w1) := by
          refine Lib.hid (Below.trans ?_ (hb.mono ?_))
          · repeat' (first | refine Below.setCell ?_ (by first | (simp; done) | (simp; omega) | omega) _ | refine Below.alloc ?_ (by first | (simp; done) | (simp; omega) | omega) _ | exact Below.refl _ _)
          · first | exact Nat.le_refl _ | (simp; done) | (simp; omega)
        have HS1 := HB1.out.size
        obtain ⟨hc1, hf1⟩ := bcell hb
        have hza1 : w.heap.size < w1.heap.size := by have := hb.size; first | (simp at this; omega) | omega
        have hzb1 : w.heap.size + 1 < w1.heap.size := by have := hb.size; first | (simp at this; omega) | omega
        have hzc1 : w.heap.size + 2 < w1.heap.size := by have := hb.size; first | (simp at this; omega) | omega
        clear hb
        go_wp2_with fail
        refine bodyPost_ret (v := .agg #[.int .i64 1, .int .i64 (truN (Op.bytesLess t.toList t'.toList)), .int .i64 0, .string ⟨#[]⟩, .slice none 0 0, .slice none 0 0, .slice none 0 0]) (by simp [results, Tryz.results99, go_sem, *]) rfl (toA_flat rfl ?_)
        repeat' (first | refine Below.setCell ?_ (by first | (simp; done) | (simp; omega) | omega) _ | refine Below.alloc ?_ (by first | (simp; done) | (simp; omega) | omega) _ | exact HB1.out)
      · rw [show lessD _ _ = valD 6 4 ⟨#[]⟩ [] from lessD_err (fun hh => by have h1 : (2 : Int) = 1 := hh.1; have h2 : (k' : Int) = 1 := hh.2; omega) (fun hh => by have h1 : (2 : Int) = 2 := hh.1; have h2 : (k' : Int) = 2 := hh.2; omega)]
        have f1 : (k' == 2) = false := by simpa using d2
        have f2 : (k' != 2) = true := by simpa using d2
        have f3 : ((2 : Int) != k') = true := by simp; omega
        clear d2
        clear hna hnb
        go_enter Tryz.func99, Tryz.ntmps99
        go_wp2_with fail
        refine (specErrorValue_any 4 _).mono ?_
        rintro e w1 ⟨rfl, hb⟩
        have HB1 : Hid (Below w.heap.size w w1) := by
          refine Lib.hid (Below.trans ?_ (hb.mono ?_))
          · repeat' (first | refine Below.setCell ?_ (by first | (simp; done) | (simp; omega) | omega) _ | refine Below.alloc ?_ (by first | (simp; done) | (simp; omega) | omega) _ | exact Below.refl _ _)
          · first | exact Nat.le_refl _ | (simp; done) | (simp; omega)
        have HS1 := HB1.out.size
        obtain ⟨hc1, hf1⟩ := bcell hb
        have hza1 : w.heap.size < w1.heap.size := by have := hb.size; first | (simp at this; omega) | omega
        have hzb1 : w.heap.size + 1 < w1.heap.size := by have := hb.size; first | (simp at this; omega) | omega
        have hzc1 : w.heap.size + 2 < w1.heap.size := by have := hb.size; first | (simp at this; omega) | omega
        clear hb
        go_wp2_with fail
        refine bodyPost_ret (v := .agg #[.int .i64 6, .int .i64 4, .int .i64 0, .string ⟨#[]⟩, .slice none 0 0, .slice none 0 0, .slice none 0 0]) (by simp [results, Tryz.results99, go_sem, *]) rfl (toA_flat rfl ?_)
        repeat' (first | refine Below.setCell ?_ (by first | (simp; done) | (simp; omega) | omega) _ | refine Below.alloc ?_ (by first | (simp; done) | (simp; omega) | omega) _ | exact HB1.out)
    · rw [show lessD _ _ = valD 6 4 ⟨#[]⟩ [] from lessD_err (fun hh => by have h1 : (k : Int) = 1 := hh.1; have h2 : (k' : Int) = 1 := hh.2; omega) (fun hh => by have h1 : (k : Int) = 2 := hh.1; have h2 : (k' : Int) = 2 := hh.2; omega)]
      have f1 : (k == 1) = false := by simpa using e1
      have g1 : (k != 1) = true := by simpa using e1
      have f2 : (k == 2) = false := by simpa using e2
      have g2 : (k != 2) = true := by simpa using e2
      clear e1 e2
      clear hna hnb
      go_enter Tryz.func99, Tryz.ntmps99
      go_wp2_with fail
      refine (specErrorValue_any 4 _).mono ?_
      rintro e w1 ⟨rfl, hb⟩
      have HB1 : Hid (Below w.heap.size w w1) := by
        refine Lib.hid (Below.trans ?_ (hb.mono ?_))
        · repeat' (first | refine Below.setCell ?_ (by first | (simp; done) | (simp; omega) | omega) _ | refine Below.alloc ?_ (by first | (simp; done) | (simp; omega) | omega) _ | exact Below.refl _ _)
        · first | exact Nat.le_refl _ | (simp; done) | (simp; omega)
      have HS1 := HB1.out.size
      obtain ⟨hc1, hf1⟩ := bcell hb
      have hza1 : w.heap.size < w1.heap.size := by have := hb.size; first | (simp at this; omega) | omega
      have hzb1 : w.heap.size + 1 < w1.heap.size := by have := hb.size; first | (simp at this; omega) | omega
      have hzc1 : w.heap.size + 2 < w1.heap.size := by have := hb.size; first | (simp at this; omega) | omega
      clear hb
      go_wp2_with fail
      refine bodyPost_ret (v := .agg #[.int .i64 6, .int .i64 4, .int .i64 0, .string ⟨#[]⟩, .slice none 0 0, .slice none 0 0, .slice none 0 0]) (by simp [results, Tryz.results99, go_sem, *]) rfl (toA_flat rfl ?_)
      repeat' (first | refine Below.setCell ?_ (by first | (simp; done) | (simp; omega) | omega) _ | refine Below.alloc ?_ (by first | (simp; done) | (simp; omega) | omega) _ | exact HB1.out)

theorem mul_bd {n n' : Int} (h1 : -1000000000 ≤ n) (h2 : n ≤ 1000000000) (h3 : -1000000000 ≤ n') (h4 : n' ≤ 1000000000) : -1000000000000000000 ≤ n * n' ∧ n * n' ≤ 1000000000000000000 := by
  have a : (n * n').natAbs ≤ 1000000000 * 1000000000 := by
    rw [Int.natAbs_mul]
    exact Nat.mul_le_mul (by omega) (by omega)
  omega

theorem eqP_same {a b : Dt} {w : World} (e : Ending) (w' : World) (h : EqP (a.nrm shRow = b.nrm shRow) w e w') : e = .returned (.bool (sameB a b)) ∧ Below w.heap.size w w' := by
  obtain ⟨x, rfl, hx, hb⟩ := h
  refine ⟨?_, hb⟩
  have h2 : sameB a b = true ↔ a.nrm shRow = b.nrm shRow := @decide_eq_true_iff _ (Classical.propDecidable _)
  rw [show x = sameB a b from by rw [Bool.eq_iff_iff]; exact hx.trans h2.symm]

end Go.Proofs.YtdnneilbgekccabGreat
