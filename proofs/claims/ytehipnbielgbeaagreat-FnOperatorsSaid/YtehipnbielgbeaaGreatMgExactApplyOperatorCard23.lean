/-
  Texts that the proof rests on, put together: OpErr.
-/
import Derived.Test.YtehipnbielgbeaaGreatMgExactApplyOperatorCard21
import Derived.Test.YtehipnbielgbeaaGreatMgExactApplyOperatorCard15
import Derived.Test.YtehipnbielgbeaaGreatMgExactApplyOperatorCard22
import Derived.LoopN
/-
  The first error of two operands, the program's and the model's. (Written by genopwalk.py.)
-/

namespace Go.Proofs.YtehipnbielgbeaaGreat
open Go.RowKit
set_option linter.unusedVariables false

theorem eqP_yes {P : Prop} {w : World} (hP : P) (e : Ending) (w' : World) (h : EqP P w e w') : e = .returned (.bool true) ∧ Below w.heap.size w w' := by
  obtain ⟨b, rfl, hb, hbel⟩ := h
  obtain rfl := hb.2 hP
  exact ⟨rfl, hbel⟩
theorem eqP_no {P : Prop} {w : World} (hP : ¬ P) (e : Ending) (w' : World) (h : EqP P w e w') : e = .returned (.bool false) ∧ Below w.heap.size w w' := by
  obtain ⟨b, rfl, hb, hbel⟩ := h
  cases b with
  | false => exact ⟨rfl, hbel⟩
  | true => exact absurd (hb.1 rfl) hP

set_option maxHeartbeats 1600000 in
set_option maxRecDepth 100000 in
theorem implFirst_abad {a b : Dt} (ha : IsVal a) (hb : IsVal b) (hwa : a.wt ≤ 1048576) (hwb : b.wt ≤ 1048576) (cs cs' : List Value) (w : World) (h : Rd w w.heap.size a cs) (h' : Rd w w.heap.size b cs') (g : Nat)
    (ho : w.ownsRow 0 28 7 (.slice (some ⟨g, 0, none⟩) 2 2) 2 (cs ++ cs')) (he : ¬ a.SV) :
    Calls Tryz.prog 23 #[.slice (some ⟨g, 0, none⟩) 2 2] w fun e w' => e = .returned (.tuple #[.agg #[.int .i64 6, .int .i64 4, .int .i64 0, .string ⟨#[]⟩, .slice none 0 0, .slice none 0 0, .slice none 0 0], .bool true]) ∧ Below w.heap.size w w' := by
  have HV := Lib.hid (And.intro ha (And.intro hb (And.intro hwa hwb)))
  have HH := Lib.hid (And.intro h h')
  obtain ⟨k, n, s, t, l, c, r, hl, hr⟩ := ha
  obtain ⟨k', n', s', t', l', c', r', hl', hr'⟩ := hb
  obtain ⟨A4, q4, A5, q5, A6, q6, rfl, -, -, -⟩ := Rd.ofValue h
  obtain ⟨A4', q4', A5', q5', A6', q6', rfl, -, -, -⟩ := Rd.ofValue h'
  simp only [List.length_map] at HH ho
  have hg := (ho.lt g rfl).2
  have hgj := ho.cellAt 0 (by omega)
  have HG0 : Hid (w.cell? ⟨g, 0, none⟩ = some (.int .i64 k)) := Lib.hid hgj
  clear hgj
  have hgj := ho.cellAt 1 (by omega)
  have HG1 : Hid (w.cell? ⟨g, 1, none⟩ = some (.int .i64 n)) := Lib.hid hgj
  clear hgj
  have hgj := ho.cellAt 2 (by omega)
  have HG2 : Hid (w.cell? ⟨g, 2, none⟩ = some (.int .i64 s)) := Lib.hid hgj
  clear hgj
  have hgj := ho.cellAt 3 (by omega)
  have HG3 : Hid (w.cell? ⟨g, 3, none⟩ = some (.string t)) := Lib.hid hgj
  clear hgj
  have hgj := ho.cellAt 4 (by omega)
  have HG4 : Hid (w.cell? ⟨g, 4, none⟩ = some (.slice A4 l.length q4)) := Lib.hid hgj
  clear hgj
  have hgj := ho.cellAt 5 (by omega)
  have HG5 : Hid (w.cell? ⟨g, 5, none⟩ = some (.slice A5 c.length q5)) := Lib.hid hgj
  clear hgj
  have hgj := ho.cellAt 6 (by omega)
  have HG6 : Hid (w.cell? ⟨g, 6, none⟩ = some (.slice A6 r.length q6)) := Lib.hid hgj
  clear hgj
  have hgj := ho.cellAt 7 (by omega)
  have HG7 : Hid (w.cell? ⟨g, 7, none⟩ = some (.int .i64 k')) := Lib.hid hgj
  clear hgj
  have hgj := ho.cellAt 8 (by omega)
  have HG8 : Hid (w.cell? ⟨g, 8, none⟩ = some (.int .i64 n')) := Lib.hid hgj
  clear hgj
  have hgj := ho.cellAt 9 (by omega)
  have HG9 : Hid (w.cell? ⟨g, 9, none⟩ = some (.int .i64 s')) := Lib.hid hgj
  clear hgj
  have hgj := ho.cellAt 10 (by omega)
  have HG10 : Hid (w.cell? ⟨g, 10, none⟩ = some (.string t')) := Lib.hid hgj
  clear hgj
  have hgj := ho.cellAt 11 (by omega)
  have HG11 : Hid (w.cell? ⟨g, 11, none⟩ = some (.slice A4' l'.length q4')) := Lib.hid hgj
  clear hgj
  have hgj := ho.cellAt 12 (by omega)
  have HG12 : Hid (w.cell? ⟨g, 12, none⟩ = some (.slice A5' c'.length q5')) := Lib.hid hgj
  clear hgj
  have hgj := ho.cellAt 13 (by omega)
  have HG13 : Hid (w.cell? ⟨g, 13, none⟩ = some (.slice A6' r'.length q6')) := Lib.hid hgj
  clear hgj
  clear ho h h' hl hr hl' hr' hwa hwb
  have HE := Lib.hid he
  clear he
  have HB0 := Lib.hid (Below.refl w.heap.size w)
  have HM0 := Lib.hid ((MSt.start w).new 28 7 #[.int .i64 0, .int .i64 0, .int .i64 0, .string ⟨#[]⟩, .slice none 0 0, .slice none 0 0, .slice none 0 0] rfl)
  have hz : g < (w.alloc (.cells #[.int .i64 0, .int .i64 0, .int .i64 0, .string ⟨#[]⟩, .slice none 0 0, .slice none 0 0, .slice none 0 0] 28)).heap.size := by simp; omega
  have u0 := (((Below.refl w.heap.size w).alloc (Nat.le_refl _) (.cells #[.int .i64 0, .int .i64 0, .int .i64 0, .string ⟨#[]⟩, .slice none 0 0, .slice none 0 0, .slice none 0 0] 28)).cell (p := ⟨g, 0, none⟩) hg).trans HG0.out
  have u1 := (((Below.refl w.heap.size w).alloc (Nat.le_refl _) (.cells #[.int .i64 0, .int .i64 0, .int .i64 0, .string ⟨#[]⟩, .slice none 0 0, .slice none 0 0, .slice none 0 0] 28)).cell (p := ⟨g, 1, none⟩) hg).trans HG1.out
  have u2 := (((Below.refl w.heap.size w).alloc (Nat.le_refl _) (.cells #[.int .i64 0, .int .i64 0, .int .i64 0, .string ⟨#[]⟩, .slice none 0 0, .slice none 0 0, .slice none 0 0] 28)).cell (p := ⟨g, 2, none⟩) hg).trans HG2.out
  have u3 := (((Below.refl w.heap.size w).alloc (Nat.le_refl _) (.cells #[.int .i64 0, .int .i64 0, .int .i64 0, .string ⟨#[]⟩, .slice none 0 0, .slice none 0 0, .slice none 0 0] 28)).cell (p := ⟨g, 3, none⟩) hg).trans HG3.out
  have u4 := (((Below.refl w.heap.size w).alloc (Nat.le_refl _) (.cells #[.int .i64 0, .int .i64 0, .int .i64 0, .string ⟨#[]⟩, .slice none 0 0, .slice none 0 0, .slice none 0 0] 28)).cell (p := ⟨g, 4, none⟩) hg).trans HG4.out
  have u5 := (((Below.refl w.heap.size w).alloc (Nat.le_refl _) (.cells #[.int .i64 0, .int .i64 0, .int .i64 0, .string ⟨#[]⟩, .slice none 0 0, .slice none 0 0, .slice none 0 0] 28)).cell (p := ⟨g, 5, none⟩) hg).trans HG5.out
  have u6 := (((Below.refl w.heap.size w).alloc (Nat.le_refl _) (.cells #[.int .i64 0, .int .i64 0, .int .i64 0, .string ⟨#[]⟩, .slice none 0 0, .slice none 0 0, .slice none 0 0] 28)).cell (p := ⟨g, 6, none⟩) hg).trans HG6.out
  go_enter Tryz.func23, Tryz.ntmps23
  go_wp2_with fail
  refine wp_loop_rounds 3 ?_
  rw [rounds_succ]
  go_wp2_with fail
  clear hz u0 u1 u2 u3 u4 u5 u6
  refine ((implValidV_any HV.out.1 HV.out.2.2.1 _ _ ((((HH.out.1.below HB0.out).more HB0.out.size).below (B := w.heap.size) (by repeat' (first | refine Below.setCell ?_ (by first | (simp; done) | (simp; omega) | omega) _ | refine Below.alloc ?_ (by first | (simp; done) | (simp; omega) | omega) _ | exact Below.refl _ _))).more (by first | exact Nat.le_refl _ | (simp; done) | (simp; omega)))).mono (eqP_no HE.out)).mono ?_
  rintro e w1 ⟨rfl, hb⟩
  have HB1 : Hid (Below w.heap.size w w1) := by
    refine Lib.hid (Below.trans ?_ (hb.mono ?_))
    · repeat' (first | refine Below.setCell ?_ (by first | (simp; done) | (simp; omega) | omega) _ | refine Below.alloc ?_ (by first | (simp; done) | (simp; omega) | omega) _ | exact Below.refl _ _)
    · first | exact Nat.le_refl _ | (simp; done) | (simp; omega)
  have HS1 := HB1.out.size
  obtain ⟨hc1, hf1⟩ := bcell hb
  have hz1_0 : w.heap.size < w1.heap.size := by have h1 := hb.size; first | (simp at h1; omega) | omega
  have hz1_1 : w.heap.size + 1 < w1.heap.size := by have h1 := hb.size; first | (simp at h1; omega) | omega
  have HM1 : Hid (MSt w [boxA 28 7 w.heap.size [.int .i64 0, .int .i64 0, .int .i64 0, .string ⟨#[]⟩, .slice none 0 0, .slice none 0 0, .slice none 0 0]] w1) := Lib.hid (by first | exact HM0.out.later hb | exact (HM0.out.alloc _).later hb)
  clear hb HM0
  go_wp2_with fail
  refine (implErrorValue_any 4 _).mono ?_
  rintro e w2 ⟨rfl, hb⟩
  have HB2 : Hid (Below w.heap.size w w2) := by
    refine Lib.hid (Below.trans ?_ (hb.mono ?_))
    · repeat' (first | refine Below.setCell ?_ (by first | (simp; done) | (simp; omega) | omega) _ | refine Below.alloc ?_ (by first | (simp; done) | (simp; omega) | omega) _ | exact HB1.out)
    · have := HB1.out.size; first | (simp; done) | (simp; omega) | omega
  have HS2 := HB2.out.size
  obtain ⟨hc2, hf2⟩ := bcell hb
  have hz2_0 : w.heap.size < w2.heap.size := by have h1 := hb.size; first | (simp at h1; omega) | omega
  have hz2_1 : w.heap.size + 1 < w2.heap.size := by have h1 := hb.size; first | (simp at h1; omega) | omega
  have HM2 : Hid (MSt w [boxA 28 7 w.heap.size [.int .i64 0, .int .i64 0, .int .i64 0, .string ⟨#[]⟩, .slice none 0 0, .slice none 0 0, .slice none 0 0]] w2) := Lib.hid (by first | exact HM1.out.later hb | exact (HM1.out.alloc _).later hb)
  clear hb HM1
  go_wp2_with fail
  have hbx := HM2.out.box
  have x0 := hbx.cellAt 0 (by simp)
  have x1 := hbx.cellAt 1 (by simp)
  have x2 := hbx.cellAt 2 (by simp)
  have x3 := hbx.cellAt 3 (by simp)
  have x4 := hbx.cellAt 4 (by simp)
  have x5 := hbx.cellAt 5 (by simp)
  have x6 := hbx.cellAt 6 (by simp)
  simp at x0 x1 x2 x3 x4 x5 x6
  clear hbx
  refine bodyPost_ret (v := .tuple #[.agg #[.int .i64 6, .int .i64 4, .int .i64 0, .string ⟨#[]⟩, .slice none 0 0, .slice none 0 0, .slice none 0 0], .bool true]) (by simp [results, Tryz.results23, go_sem, x0, x1, x2, x3, x4, x5, x6]) rfl ⟨rfl, ?_⟩
  repeat' (first | refine Below.setCell ?_ (by first | (simp; done) | (simp; omega) | omega) _ | refine Below.alloc ?_ (by first | (simp; done) | (simp; omega) | omega) _ | exact HB2.out)

set_option maxHeartbeats 1600000 in
set_option maxRecDepth 100000 in
theorem implFirst_aerr {a b : Dt} (ha : IsVal a) (hb : IsVal b) (hwa : a.wt ≤ 1048576) (hwb : b.wt ≤ 1048576) (cs cs' : List Value) (w : World) (h : Rd w w.heap.size a cs) (h' : Rd w w.heap.size b cs') (g : Nat)
    (ho : w.ownsRow 0 28 7 (.slice (some ⟨g, 0, none⟩) 2 2) 2 (cs ++ cs')) (he : a.SV) (hk : a.kd = 6) :
    Calls Tryz.prog 23 #[.slice (some ⟨g, 0, none⟩) 2 2] w fun e w' => e = .returned (.tuple #[.agg #[.int .i64 6, .int .i64 a.nm, .int .i64 0, .string ⟨#[]⟩, .slice none 0 0, .slice none 0 0, .slice none 0 0], .bool true]) ∧ Below w.heap.size w w' := by
  have HV := Lib.hid (And.intro ha (And.intro hb (And.intro hwa hwb)))
  have HH := Lib.hid (And.intro h h')
  obtain ⟨k, n, s, t, l, c, r, hl, hr⟩ := ha
  obtain ⟨k', n', s', t', l', c', r', hl', hr'⟩ := hb
  obtain ⟨A4, q4, A5, q5, A6, q6, rfl, -, -, -⟩ := Rd.ofValue h
  obtain ⟨A4', q4', A5', q5', A6', q6', rfl, -, -, -⟩ := Rd.ofValue h'
  simp only [List.length_map] at HH ho
  have hg := (ho.lt g rfl).2
  have hgj := ho.cellAt 0 (by omega)
  have HG0 : Hid (w.cell? ⟨g, 0, none⟩ = some (.int .i64 k)) := Lib.hid hgj
  clear hgj
  have hgj := ho.cellAt 1 (by omega)
  have HG1 : Hid (w.cell? ⟨g, 1, none⟩ = some (.int .i64 n)) := Lib.hid hgj
  clear hgj
  have hgj := ho.cellAt 2 (by omega)
  have HG2 : Hid (w.cell? ⟨g, 2, none⟩ = some (.int .i64 s)) := Lib.hid hgj
  clear hgj
  have hgj := ho.cellAt 3 (by omega)
  have HG3 : Hid (w.cell? ⟨g, 3, none⟩ = some (.string t)) := Lib.hid hgj
  clear hgj
  have hgj := ho.cellAt 4 (by omega)
  have HG4 : Hid (w.cell? ⟨g, 4, none⟩ = some (.slice A4 l.length q4)) := Lib.hid hgj
  clear hgj
  have hgj := ho.cellAt 5 (by omega)
  have HG5 : Hid (w.cell? ⟨g, 5, none⟩ = some (.slice A5 c.length q5)) := Lib.hid hgj
  clear hgj
  have hgj := ho.cellAt 6 (by omega)
  have HG6 : Hid (w.cell? ⟨g, 6, none⟩ = some (.slice A6 r.length q6)) := Lib.hid hgj
  clear hgj
  have hgj := ho.cellAt 7 (by omega)
  have HG7 : Hid (w.cell? ⟨g, 7, none⟩ = some (.int .i64 k')) := Lib.hid hgj
  clear hgj
  have hgj := ho.cellAt 8 (by omega)
  have HG8 : Hid (w.cell? ⟨g, 8, none⟩ = some (.int .i64 n')) := Lib.hid hgj
  clear hgj
  have hgj := ho.cellAt 9 (by omega)
  have HG9 : Hid (w.cell? ⟨g, 9, none⟩ = some (.int .i64 s')) := Lib.hid hgj
  clear hgj
  have hgj := ho.cellAt 10 (by omega)
  have HG10 : Hid (w.cell? ⟨g, 10, none⟩ = some (.string t')) := Lib.hid hgj
  clear hgj
  have hgj := ho.cellAt 11 (by omega)
  have HG11 : Hid (w.cell? ⟨g, 11, none⟩ = some (.slice A4' l'.length q4')) := Lib.hid hgj
  clear hgj
  have hgj := ho.cellAt 12 (by omega)
  have HG12 : Hid (w.cell? ⟨g, 12, none⟩ = some (.slice A5' c'.length q5')) := Lib.hid hgj
  clear hgj
  have hgj := ho.cellAt 13 (by omega)
  have HG13 : Hid (w.cell? ⟨g, 13, none⟩ = some (.slice A6' r'.length q6')) := Lib.hid hgj
  clear hgj
  clear ho h h' hl hr hl' hr' hwa hwb
  have HE := Lib.hid he
  clear he
  have hk : k = 6 := hk
  subst hk
  simp only [Dt.nm]
  have HB0 := Lib.hid (Below.refl w.heap.size w)
  have HM0 := Lib.hid ((MSt.start w).new 28 7 #[.int .i64 0, .int .i64 0, .int .i64 0, .string ⟨#[]⟩, .slice none 0 0, .slice none 0 0, .slice none 0 0] rfl)
  have hz : g < (w.alloc (.cells #[.int .i64 0, .int .i64 0, .int .i64 0, .string ⟨#[]⟩, .slice none 0 0, .slice none 0 0, .slice none 0 0] 28)).heap.size := by simp; omega
  have u0 := (((Below.refl w.heap.size w).alloc (Nat.le_refl _) (.cells #[.int .i64 0, .int .i64 0, .int .i64 0, .string ⟨#[]⟩, .slice none 0 0, .slice none 0 0, .slice none 0 0] 28)).cell (p := ⟨g, 0, none⟩) hg).trans HG0.out
  have u1 := (((Below.refl w.heap.size w).alloc (Nat.le_refl _) (.cells #[.int .i64 0, .int .i64 0, .int .i64 0, .string ⟨#[]⟩, .slice none 0 0, .slice none 0 0, .slice none 0 0] 28)).cell (p := ⟨g, 1, none⟩) hg).trans HG1.out
  have u2 := (((Below.refl w.heap.size w).alloc (Nat.le_refl _) (.cells #[.int .i64 0, .int .i64 0, .int .i64 0, .string ⟨#[]⟩, .slice none 0 0, .slice none 0 0, .slice none 0 0] 28)).cell (p := ⟨g, 2, none⟩) hg).trans HG2.out
  have u3 := (((Below.refl w.heap.size w).alloc (Nat.le_refl _) (.cells #[.int .i64 0, .int .i64 0, .int .i64 0, .string ⟨#[]⟩, .slice none 0 0, .slice none 0 0, .slice none 0 0] 28)).cell (p := ⟨g, 3, none⟩) hg).trans HG3.out
  have u4 := (((Below.refl w.heap.size w).alloc (Nat.le_refl _) (.cells #[.int .i64 0, .int .i64 0, .int .i64 0, .string ⟨#[]⟩, .slice none 0 0, .slice none 0 0, .slice none 0 0] 28)).cell (p := ⟨g, 4, none⟩) hg).trans HG4.out
  have u5 := (((Below.refl w.heap.size w).alloc (Nat.le_refl _) (.cells #[.int .i64 0, .int .i64 0, .int .i64 0, .string ⟨#[]⟩, .slice none 0 0, .slice none 0 0, .slice none 0 0] 28)).cell (p := ⟨g, 5, none⟩) hg).trans HG5.out
  have u6 := (((Below.refl w.heap.size w).alloc (Nat.le_refl _) (.cells #[.int .i64 0, .int .i64 0, .int .i64 0, .string ⟨#[]⟩, .slice none 0 0, .slice none 0 0, .slice none 0 0] 28)).cell (p := ⟨g, 6, none⟩) hg).trans HG6.out
  go_enter Tryz.func23, Tryz.ntmps23
  go_wp2_with fail
  refine wp_loop_rounds 3 ?_
  rw [rounds_succ]
  go_wp2_with fail
  clear hz u0 u1 u2 u3 u4 u5 u6
  refine ((implValidV_any HV.out.1 HV.out.2.2.1 _ _ ((((HH.out.1.below HB0.out).more HB0.out.size).below (B := w.heap.size) (by repeat' (first | refine Below.setCell ?_ (by first | (simp; done) | (simp; omega) | omega) _ | refine Below.alloc ?_ (by first | (simp; done) | (simp; omega) | omega) _ | exact Below.refl _ _))).more (by first | exact Nat.le_refl _ | (simp; done) | (simp; omega)))).mono (eqP_yes HE.out)).mono ?_
  rintro e w1 ⟨rfl, hb⟩
  have HB1 : Hid (Below w.heap.size w w1) := by
    refine Lib.hid (Below.trans ?_ (hb.mono ?_))
    · repeat' (first | refine Below.setCell ?_ (by first | (simp; done) | (simp; omega) | omega) _ | refine Below.alloc ?_ (by first | (simp; done) | (simp; omega) | omega) _ | exact Below.refl _ _)
    · first | exact Nat.le_refl _ | (simp; done) | (simp; omega)
  have HS1 := HB1.out.size
  obtain ⟨hc1, hf1⟩ := bcell hb
  have hz1_0 : w.heap.size < w1.heap.size := by have h1 := hb.size; first | (simp at h1; omega) | omega
  have hz1_1 : w.heap.size + 1 < w1.heap.size := by have h1 := hb.size; first | (simp at h1; omega) | omega
  have HM1 : Hid (MSt w [boxA 28 7 w.heap.size [.int .i64 0, .int .i64 0, .int .i64 0, .string ⟨#[]⟩, .slice none 0 0, .slice none 0 0, .slice none 0 0]] w1) := Lib.hid (by first | exact HM0.out.later hb | exact (HM0.out.alloc _).later hb)
  clear hb HM0
  go_wp2_with fail
  refine (implErrorValue_any n _).mono ?_
  rintro e w2 ⟨rfl, hb⟩
  have HB2 : Hid (Below w.heap.size w w2) := by
    refine Lib.hid (Below.trans ?_ (hb.mono ?_))
    · repeat' (first | refine Below.setCell ?_ (by first | (simp; done) | (simp; omega) | omega) _ | refine Below.alloc ?_ (by first | (simp; done) | (simp; omega) | omega) _ | exact HB1.out)
    · have := HB1.out.size; first | (simp; done) | (simp; omega) | omega
  have HS2 := HB2.out.size
  obtain ⟨hc2, hf2⟩ := bcell hb
  have hz2_0 : w.heap.size < w2.heap.size := by have h1 := hb.size; first | (simp at h1; omega) | omega
  have hz2_1 : w.heap.size + 1 < w2.heap.size := by have h1 := hb.size; first | (simp at h1; omega) | omega
  have HM2 : Hid (MSt w [boxA 28 7 w.heap.size [.int .i64 0, .int .i64 0, .int .i64 0, .string ⟨#[]⟩, .slice none 0 0, .slice none 0 0, .slice none 0 0]] w2) := Lib.hid (by first | exact HM1.out.later hb | exact (HM1.out.alloc _).later hb)
  clear hb HM1
  go_wp2_with fail
  have hbx := HM2.out.box
  have x0 := hbx.cellAt 0 (by simp)
  have x1 := hbx.cellAt 1 (by simp)
  have x2 := hbx.cellAt 2 (by simp)
  have x3 := hbx.cellAt 3 (by simp)
  have x4 := hbx.cellAt 4 (by simp)
  have x5 := hbx.cellAt 5 (by simp)
  have x6 := hbx.cellAt 6 (by simp)
  simp at x0 x1 x2 x3 x4 x5 x6
  clear hbx
  refine bodyPost_ret (v := .tuple #[.agg #[.int .i64 6, .int .i64 n, .int .i64 0, .string ⟨#[]⟩, .slice none 0 0, .slice none 0 0, .slice none 0 0], .bool true]) (by simp [results, Tryz.results23, go_sem, x0, x1, x2, x3, x4, x5, x6]) rfl ⟨rfl, ?_⟩
  repeat' (first | refine Below.setCell ?_ (by first | (simp; done) | (simp; omega) | omega) _ | refine Below.alloc ?_ (by first | (simp; done) | (simp; omega) | omega) _ | exact HB2.out)

set_option maxHeartbeats 1600000 in
set_option maxRecDepth 100000 in
theorem implFirst_bbad {a b : Dt} (ha : IsVal a) (hb : IsVal b) (hwa : a.wt ≤ 1048576) (hwb : b.wt ≤ 1048576) (cs cs' : List Value) (w : World) (h : Rd w w.heap.size a cs) (h' : Rd w w.heap.size b cs') (g : Nat)
    (ho : w.ownsRow 0 28 7 (.slice (some ⟨g, 0, none⟩) 2 2) 2 (cs ++ cs')) (hf : Fine a) (he : ¬ b.SV) :
    Calls Tryz.prog 23 #[.slice (some ⟨g, 0, none⟩) 2 2] w fun e w' => e = .returned (.tuple #[.agg #[.int .i64 6, .int .i64 4, .int .i64 0, .string ⟨#[]⟩, .slice none 0 0, .slice none 0 0, .slice none 0 0], .bool true]) ∧ Below w.heap.size w w' := by
  have HV := Lib.hid (And.intro ha (And.intro hb (And.intro hwa hwb)))
  have HH := Lib.hid (And.intro h h')
  obtain ⟨k, n, s, t, l, c, r, hl, hr⟩ := ha
  obtain ⟨k', n', s', t', l', c', r', hl', hr'⟩ := hb
  obtain ⟨A4, q4, A5, q5, A6, q6, rfl, -, -, -⟩ := Rd.ofValue h
  obtain ⟨A4', q4', A5', q5', A6', q6', rfl, -, -, -⟩ := Rd.ofValue h'
  simp only [List.length_map] at HH ho
  have hg := (ho.lt g rfl).2
  have hgj := ho.cellAt 0 (by omega)
  have HG0 : Hid (w.cell? ⟨g, 0, none⟩ = some (.int .i64 k)) := Lib.hid hgj
  clear hgj
  have hgj := ho.cellAt 1 (by omega)
  have HG1 : Hid (w.cell? ⟨g, 1, none⟩ = some (.int .i64 n)) := Lib.hid hgj
  clear hgj
  have hgj := ho.cellAt 2 (by omega)
  have HG2 : Hid (w.cell? ⟨g, 2, none⟩ = some (.int .i64 s)) := Lib.hid hgj
  clear hgj
  have hgj := ho.cellAt 3 (by omega)
  have HG3 : Hid (w.cell? ⟨g, 3, none⟩ = some (.string t)) := Lib.hid hgj
  clear hgj
  have hgj := ho.cellAt 4 (by omega)
  have HG4 : Hid (w.cell? ⟨g, 4, none⟩ = some (.slice A4 l.length q4)) := Lib.hid hgj
  clear hgj
  have hgj := ho.cellAt 5 (by omega)
  have HG5 : Hid (w.cell? ⟨g, 5, none⟩ = some (.slice A5 c.length q5)) := Lib.hid hgj
  clear hgj
  have hgj := ho.cellAt 6 (by omega)
  have HG6 : Hid (w.cell? ⟨g, 6, none⟩ = some (.slice A6 r.length q6)) := Lib.hid hgj
  clear hgj
  have hgj := ho.cellAt 7 (by omega)
  have HG7 : Hid (w.cell? ⟨g, 7, none⟩ = some (.int .i64 k')) := Lib.hid hgj
  clear hgj
  have hgj := ho.cellAt 8 (by omega)
  have HG8 : Hid (w.cell? ⟨g, 8, none⟩ = some (.int .i64 n')) := Lib.hid hgj
  clear hgj
  have hgj := ho.cellAt 9 (by omega)
  have HG9 : Hid (w.cell? ⟨g, 9, none⟩ = some (.int .i64 s')) := Lib.hid hgj
  clear hgj
  have hgj := ho.cellAt 10 (by omega)
  have HG10 : Hid (w.cell? ⟨g, 10, none⟩ = some (.string t')) := Lib.hid hgj
  clear hgj
  have hgj := ho.cellAt 11 (by omega)
  have HG11 : Hid (w.cell? ⟨g, 11, none⟩ = some (.slice A4' l'.length q4')) := Lib.hid hgj
  clear hgj
  have hgj := ho.cellAt 12 (by omega)
  have HG12 : Hid (w.cell? ⟨g, 12, none⟩ = some (.slice A5' c'.length q5')) := Lib.hid hgj
  clear hgj
  have hgj := ho.cellAt 13 (by omega)
  have HG13 : Hid (w.cell? ⟨g, 13, none⟩ = some (.slice A6' r'.length q6')) := Lib.hid hgj
  clear hgj
  clear ho h h' hl hr hl' hr' hwa hwb
  have HE := Lib.hid he
  clear he
  have HF := Lib.hid hf.1
  have hk : (k == 6) = false := by have := hf.2; simp only [Dt.kd] at this; simpa using this
  clear hf
  have HB0 := Lib.hid (Below.refl w.heap.size w)
  have HM0 := Lib.hid ((MSt.start w).new 28 7 #[.int .i64 0, .int .i64 0, .int .i64 0, .string ⟨#[]⟩, .slice none 0 0, .slice none 0 0, .slice none 0 0] rfl)
  have hz : g < (w.alloc (.cells #[.int .i64 0, .int .i64 0, .int .i64 0, .string ⟨#[]⟩, .slice none 0 0, .slice none 0 0, .slice none 0 0] 28)).heap.size := by simp; omega
  have u0 := (((Below.refl w.heap.size w).alloc (Nat.le_refl _) (.cells #[.int .i64 0, .int .i64 0, .int .i64 0, .string ⟨#[]⟩, .slice none 0 0, .slice none 0 0, .slice none 0 0] 28)).cell (p := ⟨g, 0, none⟩) hg).trans HG0.out
  have u1 := (((Below.refl w.heap.size w).alloc (Nat.le_refl _) (.cells #[.int .i64 0, .int .i64 0, .int .i64 0, .string ⟨#[]⟩, .slice none 0 0, .slice none 0 0, .slice none 0 0] 28)).cell (p := ⟨g, 1, none⟩) hg).trans HG1.out
  have u2 := (((Below.refl w.heap.size w).alloc (Nat.le_refl _) (.cells #[.int .i64 0, .int .i64 0, .int .i64 0, .string ⟨#[]⟩, .slice none 0 0, .slice none 0 0, .slice none 0 0] 28)).cell (p := ⟨g, 2, none⟩) hg).trans HG2.out
  have u3 := (((Below.refl w.heap.size w).alloc (Nat.le_refl _) (.cells #[.int .i64 0, .int .i64 0, .int .i64 0, .string ⟨#[]⟩, .slice none 0 0, .slice none 0 0, .slice none 0 0] 28)).cell (p := ⟨g, 3, none⟩) hg).trans HG3.out
  have u4 := (((Below.refl w.heap.size w).alloc (Nat.le_refl _) (.cells #[.int .i64 0, .int .i64 0, .int .i64 0, .string ⟨#[]⟩, .slice none 0 0, .slice none 0 0, .slice none 0 0] 28)).cell (p := ⟨g, 4, none⟩) hg).trans HG4.out
  have u5 := (((Below.refl w.heap.size w).alloc (Nat.le_refl _) (.cells #[.int .i64 0, .int .i64 0, .int .i64 0, .string ⟨#[]⟩, .slice none 0 0, .slice none 0 0, .slice none 0 0] 28)).cell (p := ⟨g, 5, none⟩) hg).trans HG5.out
  have u6 := (((Below.refl w.heap.size w).alloc (Nat.le_refl _) (.cells #[.int .i64 0, .int .i64 0, .int .i64 0, .string ⟨#[]⟩, .slice none 0 0, .slice none 0 0, .slice none 0 0] 28)).cell (p := ⟨g, 6, none⟩) hg).trans HG6.out
  go_enter Tryz.func23, Tryz.ntmps23
  go_wp2_with fail
  refine wp_loop_rounds 3 ?_
  rw [rounds_succ]
  go_wp2_with fail
  clear hz u0 u1 u2 u3 u4 u5 u6
  refine ((implValidV_any HV.out.1 HV.out.2.2.1 _ _ ((((HH.out.1.below HB0.out).more HB0.out.size).below (B := w.heap.size) (by repeat' (first | refine Below.setCell ?_ (by first | (simp; done) | (simp; omega) | omega) _ | refine Below.alloc ?_ (by first | (simp; done) | (simp; omega) | omega) _ | exact Below.refl _ _))).more (by first | exact Nat.le_refl _ | (simp; done) | (simp; omega)))).mono (eqP_yes HF.out)).mono ?_
  rintro e w1 ⟨rfl, hb⟩
  have HB1 : Hid (Below w.heap.size w w1) := by
    refine Lib.hid (Below.trans ?_ (hb.mono ?_))
    · repeat' (first | refine Below.setCell ?_ (by first | (simp; done) | (simp; omega) | omega) _ | refine Below.alloc ?_ (by first | (simp; done) | (simp; omega) | omega) _ | exact Below.refl _ _)
    · first | exact Nat.le_refl _ | (simp; done) | (simp; omega)
  have HS1 := HB1.out.size
  obtain ⟨hc1, hf1⟩ := bcell hb
  have hz1_0 : w.heap.size < w1.heap.size := by have h1 := hb.size; first | (simp at h1; omega) | omega
  have hz1_1 : w.heap.size + 1 < w1.heap.size := by have h1 := hb.size; first | (simp at h1; omega) | omega
  have HM1 : Hid (MSt w [boxA 28 7 w.heap.size [.int .i64 0, .int .i64 0, .int .i64 0, .string ⟨#[]⟩, .slice none 0 0, .slice none 0 0, .slice none 0 0]] w1) := Lib.hid (by first | exact HM0.out.later hb | exact (HM0.out.alloc _).later hb)
  clear hb HM0
  go_wp2_with fail
  have u7 := (HB1.out.cell (p := ⟨g, 7, none⟩) hg).trans HG7.out
  have u8 := (HB1.out.cell (p := ⟨g, 8, none⟩) hg).trans HG8.out
  have u9 := (HB1.out.cell (p := ⟨g, 9, none⟩) hg).trans HG9.out
  have u10 := (HB1.out.cell (p := ⟨g, 10, none⟩) hg).trans HG10.out
  have u11 := (HB1.out.cell (p := ⟨g, 11, none⟩) hg).trans HG11.out
  have u12 := (HB1.out.cell (p := ⟨g, 12, none⟩) hg).trans HG12.out
  have u13 := (HB1.out.cell (p := ⟨g, 13, none⟩) hg).trans HG13.out
  have hgw : g < w1.heap.size := by omega
  rw [rounds_succ]
  go_wp2_with fail
  clear u7 u8 u9 u10 u11 u12 u13
  refine ((implValidV_any HV.out.2.1 HV.out.2.2.2 _ _ ((((HH.out.2.below HB1.out).more HB1.out.size).below (B := w1.heap.size) (by repeat' (first | refine Below.setCell ?_ (by first | (simp; done) | (simp; omega) | omega) _ | refine Below.alloc ?_ (by first | (simp; done) | (simp; omega) | omega) _ | exact Below.refl _ _))).more (by first | exact Nat.le_refl _ | (simp; done) | (simp; omega)))).mono (eqP_no HE.out)).mono ?_
  rintro e w2 ⟨rfl, hb⟩
  have HB2 : Hid (Below w.heap.size w w2) := by
    refine Lib.hid (Below.trans ?_ (hb.mono ?_))
    · repeat' (first | refine Below.setCell ?_ (by first | (simp; done) | (simp; omega) | omega) _ | refine Below.alloc ?_ (by first | (simp; done) | (simp; omega) | omega) _ | exact HB1.out)
    · have := HB1.out.size; first | (simp; done) | (simp; omega) | omega
  have HS2 := HB2.out.size
  obtain ⟨hc2, hf2⟩ := bcell hb
  have hz2_0 : w.heap.size < w2.heap.size := by have h1 := hb.size; first | (simp at h1; omega) | omega
  have hz2_1 : w.heap.size + 1 < w2.heap.size := by have h1 := hb.size; first | (simp at h1; omega) | omega
  have hz2_2 : w1.heap.size < w2.heap.size := by have h1 := hb.size; first | (simp at h1; omega) | omega
  have HM2 : Hid (MSt w [boxA 28 7 w.heap.size [.int .i64 0, .int .i64 0, .int .i64 0, .string ⟨#[]⟩, .slice none 0 0, .slice none 0 0, .slice none 0 0]] w2) := Lib.hid (by first | exact HM1.out.later hb | exact (HM1.out.alloc _).later hb)
  clear hb HM1
  go_wp2_with fail
  refine (implErrorValue_any 4 _).mono ?_
  rintro e w3 ⟨rfl, hb⟩
  have HB3 : Hid (Below w.heap.size w w3) := by
    refine Lib.hid (Below.trans ?_ (hb.mono ?_))
    · repeat' (first | refine Below.setCell ?_ (by first | (simp; done) | (simp; omega) | omega) _ | refine Below.alloc ?_ (by first | (simp; done) | (simp; omega) | omega) _ | exact HB2.out)
    · have := HB2.out.size; first | (simp; done) | (simp; omega) | omega
  have HS3 := HB3.out.size
  obtain ⟨hc3, hf3⟩ := bcell hb
  have hz3_0 : w.heap.size < w3.heap.size := by have h1 := hb.size; first | (simp at h1; omega) | omega
  have hz3_1 : w.heap.size + 1 < w3.heap.size := by have h1 := hb.size; first | (simp at h1; omega) | omega
  have hz3_2 : w1.heap.size < w3.heap.size := by have h1 := hb.size; first | (simp at h1; omega) | omega
  have HM3 : Hid (MSt w [boxA 28 7 w.heap.size [.int .i64 0, .int .i64 0, .int .i64 0, .string ⟨#[]⟩, .slice none 0 0, .slice none 0 0, .slice none 0 0]] w3) := Lib.hid (by first | exact HM2.out.later hb | exact (HM2.out.alloc _).later hb)
  clear hb HM2
  go_wp2_with fail
  have hbx := HM3.out.box
  have x0 := hbx.cellAt 0 (by simp)
  have x1 := hbx.cellAt 1 (by simp)
  have x2 := hbx.cellAt 2 (by simp)
  have x3 := hbx.cellAt 3 (by simp)
  have x4 := hbx.cellAt 4 (by simp)
  have x5 := hbx.cellAt 5 (by simp)
  have x6 := hbx.cellAt 6 (by simp)
  simp at x0 x1 x2 x3 x4 x5 x6
  clear hbx
  refine bodyPost_ret (v := .tuple #[.agg #[.int .i64 6, .int .i64 4, .int .i64 0, .string ⟨#[]⟩, .slice none 0 0, .slice none 0 0, .slice none 0 0], .bool true]) (by simp [results, Tryz.results23, go_sem, x0, x1, x2, x3, x4, x5, x6]) rfl ⟨rfl, ?_⟩
  repeat' (first | refine Below.setCell ?_ (by first | (simp; done) | (simp; omega) | omega) _ | refine Below.alloc ?_ (by first | (simp; done) | (simp; omega) | omega) _ | exact HB3.out)

set_option maxHeartbeats 1600000 in
set_option maxRecDepth 100000 in
theorem implFirst_berr {a b : Dt} (ha : IsVal a) (hb : IsVal b) (hwa : a.wt ≤ 1048576) (hwb : b.wt ≤ 1048576) (cs cs' : List Value) (w : World) (h : Rd w w.heap.size a cs) (h' : Rd w w.heap.size b cs') (g : Nat)
    (ho : w.ownsRow 0 28 7 (.slice (some ⟨g, 0, none⟩) 2 2) 2 (cs ++ cs')) (hf : Fine a) (he : b.SV) (hk : b.kd = 6) :
    Calls Tryz.prog 23 #[.slice (some ⟨g, 0, none⟩) 2 2] w fun e w' => e = .returned (.tuple #[.agg #[.int .i64 6, .int .i64 b.nm, .int .i64 0, .string ⟨#[]⟩, .slice none 0 0, .slice none 0 0, .slice none 0 0], .bool true]) ∧ Below w.heap.size w w' := by
  have HV := Lib.hid (And.intro ha (And.intro hb (And.intro hwa hwb)))
  have HH := Lib.hid (And.intro h h')
  obtain ⟨k, n, s, t, l, c, r, hl, hr⟩ := ha
  obtain ⟨k', n', s', t', l', c', r', hl', hr'⟩ := hb
  obtain ⟨A4, q4, A5, q5, A6, q6, rfl, -, -, -⟩ := Rd.ofValue h
  obtain ⟨A4', q4', A5', q5', A6', q6', rfl, -, -, -⟩ := Rd.ofValue h'
  simp only [List.length_map] at HH ho
  have hg := (ho.lt g rfl).2
  have hgj := ho.cellAt 0 (by omega)
  have HG0 : Hid (w.cell? ⟨g, 0, none⟩ = some (.int .i64 k)) := Lib.hid hgj
  clear hgj
  have hgj := ho.cellAt 1 (by omega)
  have HG1 : Hid (w.cell? ⟨g, 1, none⟩ = some (.int .i64 n)) := Lib.hid hgj
  clear hgj
  have hgj := ho.cellAt 2 (by omega)
  have HG2 : Hid (w.cell? ⟨g, 2, none⟩ = some (.int .i64 s)) := Lib.hid hgj
  clear hgj
  have hgj := ho.cellAt 3 (by omega)
  have HG3 : Hid (w.cell? ⟨g, 3, none⟩ = some (.string t)) := Lib.hid hgj
  clear hgj
  have hgj := ho.cellAt 4 (by omega)
  have HG4 : Hid (w.cell? ⟨g, 4, none⟩ = some (.slice A4 l.length q4)) := Lib.hid hgj
  clear hgj
  have hgj := ho.cellAt 5 (by omega)
  have HG5 : Hid (w.cell? ⟨g, 5, none⟩ = some (.slice A5 c.length q5)) := Lib.hid hgj
  clear hgj
  have hgj := ho.cellAt 6 (by omega)
  have HG6 : Hid (w.cell? ⟨g, 6, none⟩ = some (.slice A6 r.length q6)) := Lib.hid hgj
  clear hgj
  have hgj := ho.cellAt 7 (by omega)
  have HG7 : Hid (w.cell? ⟨g, 7, none⟩ = some (.int .i64 k')) := Lib.hid hgj
  clear hgj
  have hgj := ho.cellAt 8 (by omega)
  have HG8 : Hid (w.cell? ⟨g, 8, none⟩ = some (.int .i64 n')) := Lib.hid hgj
  clear hgj
  have hgj := ho.cellAt 9 (by omega)
  have HG9 : Hid (w.cell? ⟨g, 9, none⟩ = some (.int .i64 s')) := Lib.hid hgj
  clear hgj
  have hgj := ho.cellAt 10 (by omega)
  have HG10 : Hid (w.cell? ⟨g, 10, none⟩ = some (.string t')) := Lib.hid hgj
  clear hgj
  have hgj := ho.cellAt 11 (by omega)
  have HG11 : Hid (w.cell? ⟨g, 11, none⟩ = some (.slice A4' l'.length q4')) := Lib.hid hgj
  clear hgj
  have hgj := ho.cellAt 12 (by omega)
  have HG12 : Hid (w.cell? ⟨g, 12, none⟩ = some (.slice A5' c'.length q5')) := Lib.hid hgj
  clear hgj
  have hgj := ho.cellAt 13 (by omega)
  have HG13 : Hid (w.cell? ⟨g, 13, none⟩ = some (.slice A6' r'.length q6')) := Lib.hid hgj
  clear hgj
  clear ho h h' hl hr hl' hr' hwa hwb
  have HE := Lib.hid he
  clear he
  have hk : k' = 6 := hk
  subst hk
  simp only [Dt.nm]
  have HF := Lib.hid hf.1
  have hk : (k == 6) = false := by have := hf.2; simp only [Dt.kd] at this; simpa using this
  clear hf
  have HB0 := Lib.hid (Below.refl w.heap.size w)
  have HM0 := Lib.hid ((MSt.start w).new 28 7 #[.int .i64 0, .int .i64 0, .int .i64 0, .string ⟨#[]⟩, .slice none 0 0, .slice none 0 0, .slice none 0 0] rfl)
  have hz : g < (w.alloc (.cells #[.int .i64 0, .int .i64 0, .int .i64 0, .string ⟨#[]⟩, .slice none 0 0, .slice none 0 0, .slice none 0 0] 28)).heap.size := by simp; omega
  have u0 := (((Below.refl w.heap.size w).alloc (Nat.le_refl _) (.cells #[.int .i64 0, .int .i64 0, .int .i64 0, .string ⟨#[]⟩, .slice none 0 0, .slice none 0 0, .slice none 0 0] 28)).cell (p := ⟨g, 0, none⟩) hg).trans HG0.out
  have u1 := (((Below.refl w.heap.size w).alloc (Nat.le_refl _) (.cells #[.int .i64 0, .int .i64 0, .int .i64 0, .string ⟨#[]⟩, .slice none 0 0, .slice none 0 0, .slice none 0 0] 28)).cell (p := ⟨g, 1, none⟩) hg).trans HG1.out
  have u2 := (((Below.refl w.heap.size w).alloc (Nat.le_refl _) (.cells #[.int .i64 0, .int .i64 0, .int .i64 0, .string ⟨#[]⟩, .slice none 0 0, .slice none 0 0, .slice none 0 0] 28)).cell (p := ⟨g, 2, none⟩) hg).trans HG2.out
  have u3 := (((Below.refl w.heap.size w).alloc (Nat.le_refl _) (.cells #[.int .i64 0, .int .i64 0, .int .i64 0, .string ⟨#[]⟩, .slice none 0 0, .slice none 0 0, .slice none 0 0] 28)).cell (p := ⟨g, 3, none⟩) hg).trans HG3.out
  have u4 := (((Below.refl w.heap.size w).alloc (Nat.le_refl _) (.cells #[.int .i64 0, .int .i64 0, .int .i64 0, .string ⟨#[]⟩, .slice none 0 0, .slice none 0 0, .slice none 0 0] 28)).cell (p := ⟨g, 4, none⟩) hg).trans HG4.out
  have u5 := (((Below.refl w.heap.size w).alloc (Nat.le_refl _) (.cells #[.int .i64 0, .int .i64 0, .int .i64 0, .string ⟨#[]⟩, .slice none 0 0, .slice none 0 0, .slice none 0 0] 28)).cell (p := ⟨g, 5, none⟩) hg).trans HG5.out
  have u6 := (((Below.refl w.heap.size w).alloc (Nat.le_refl _) (.cells #[.int .i64 0, .int .i64 0, .int .i64 0, .string ⟨#[]⟩, .slice none 0 0, .slice none 0 0, .slice none 0 0] 28)).cell (p := ⟨g, 6, none⟩) hg).trans HG6.out
  go_enter Tryz.func23, Tryz.ntmps23
  go_wp2_with fail
  refine wp_loop_rounds 3 ?_
  rw [rounds_succ]
  go_wp2_with fail
  clear hz u0 u1 u2 u3 u4 u5 u6
  refine ((implValidV_any HV.out.1 HV.out.2.2.1 _ _ ((((HH.out.1.below HB0.out).more HB0.out.size).below (B := w.heap.size) (by repeat' (first | refine Below.setCell ?_ (by first | (simp; done) | (simp; omega) | omega) _ | refine Below.alloc ?_ (by first | (simp; done) | (simp; omega) | omega) _ | exact Below.refl _ _))).more (by first | exact Nat.le_refl _ | (simp; done) | (simp; omega)))).mono (eqP_yes HF.out)).mono ?_
  rintro e w1 ⟨rfl, hb⟩
  have HB1 : Hid (Below w.heap.size w w1) := by
    refine Lib.hid (Below.trans ?_ (hb.mono ?_))
    · repeat' (first | refine Below.setCell ?_ (by first | (simp; done) | (simp; omega) | omega) _ | refine Below.alloc ?_ (by first | (simp; done) | (simp; omega) | omega) _ | exact Below.refl _ _)
    · first | exact Nat.le_refl _ | (simp; done) | (simp; omega)
  have HS1 := HB1.out.size
  obtain ⟨hc1, hf1⟩ := bcell hb
  have hz1_0 : w.heap.size < w1.heap.size := by have h1 := hb.size; first | (simp at h1; omega) | omega
  have hz1_1 : w.heap.size + 1 < w1.heap.size := by have h1 := hb.size; first | (simp at h1; omega) | omega
  have HM1 : Hid (MSt w [boxA 28 7 w.heap.size [.int .i64 0, .int .i64 0, .int .i64 0, .string ⟨#[]⟩, .slice none 0 0, .slice none 0 0, .slice none 0 0]] w1) := Lib.hid (by first | exact HM0.out.later hb | exact (HM0.out.alloc _).later hb)
  clear hb HM0
  go_wp2_with fail
  have u7 := (HB1.out.cell (p := ⟨g, 7, none⟩) hg).trans HG7.out
  have u8 := (HB1.out.cell (p := ⟨g, 8, none⟩) hg).trans HG8.out
  have u9 := (HB1.out.cell (p := ⟨g, 9, none⟩) hg).trans HG9.out
  have u10 := (HB1.out.cell (p := ⟨g, 10, none⟩) hg).trans HG10.out
  have u11 := (HB1.out.cell (p := ⟨g, 11, none⟩) hg).trans HG11.out
  have u12 := (HB1.out.cell (p := ⟨g, 12, none⟩) hg).trans HG12.out
  have u13 := (HB1.out.cell (p := ⟨g, 13, none⟩) hg).trans HG13.out
  have hgw : g < w1.heap.size := by omega
  rw [rounds_succ]
  go_wp2_with fail
  clear u7 u8 u9 u10 u11 u12 u13
  refine ((implValidV_any HV.out.2.1 HV.out.2.2.2 _ _ ((((HH.out.2.below HB1.out).more HB1.out.size).below (B := w1.heap.size) (by repeat' (first | refine Below.setCell ?_ (by first | (simp; done) | (simp; omega) | omega) _ | refine Below.alloc ?_ (by first | (simp; done) | (simp; omega) | omega) _ | exact Below.refl _ _))).more (by first | exact Nat.le_refl _ | (simp; done) | (simp; omega)))).mono (eqP_yes HE.out)).mono ?_
  rintro e w2 ⟨rfl, hb⟩
  have HB2 : Hid (Below w.heap.size w w2) := by
    refine Lib.hid (Below.trans ?_ (hb.mono ?_))
    · repeat' (first | refine Below.setCell ?_ (by first | (simp; done) | (simp; omega) | omega) _ | refine Below.alloc ?_ (by first | (simp; done) | (simp; omega) | omega) _ | exact HB1.out)
    · have := HB1.out.size; first | (simp; done) | (simp; omega) | omega
  have HS2 := HB2.out.size
  obtain ⟨hc2, hf2⟩ := bcell hb
  have hz2_0 : w.heap.size < w2.heap.size := by have h1 := hb.size; first | (simp at h1; omega) | omega
  have hz2_1 : w.heap.size + 1 < w2.heap.size := by have h1 := hb.size; first | (simp at h1; omega) | omega
  have hz2_2 : w1.heap.size < w2.heap.size := by have h1 := hb.size; first | (simp at h1; omega) | omega
  have HM2 : Hid (MSt w [boxA 28 7 w.heap.size [.int .i64 0, .int .i64 0, .int .i64 0, .string ⟨#[]⟩, .slice none 0 0, .slice none 0 0, .slice none 0 0]] w2) := Lib.hid (by first | exact HM1.out.later hb | exact (HM1.out.alloc _).later hb)
  clear hb HM1
  go_wp2_with fail
  refine (implErrorValue_any n' _).mono ?_
  rintro e w3 ⟨rfl, hb⟩
  have HB3 : Hid (Below w.heap.size w w3) := by
    refine Lib.hid (Below.trans ?_ (hb.mono ?_))
    · repeat' (first | refine Below.setCell ?_ (by first | (simp; done) | (simp; omega) | omega) _ | refine Below.alloc ?_ (by first | (simp; done) | (simp; omega) | omega) _ | exact HB2.out)
    · have := HB2.out.size; first | (simp; done) | (simp; omega) | omega
  have HS3 := HB3.out.size
  obtain ⟨hc3, hf3⟩ := bcell hb
  have hz3_0 : w.heap.size < w3.heap.size := by have h1 := hb.size; first | (simp at h1; omega) | omega
  have hz3_1 : w.heap.size + 1 < w3.heap.size := by have h1 := hb.size; first | (simp at h1; omega) | omega
  have hz3_2 : w1.heap.size < w3.heap.size := by have h1 := hb.size; first | (simp at h1; omega) | omega
  have HM3 : Hid (MSt w [boxA 28 7 w.heap.size [.int .i64 0, .int .i64 0, .int .i64 0, .string ⟨#[]⟩, .slice none 0 0, .slice none 0 0, .slice none 0 0]] w3) := Lib.hid (by first | exact HM2.out.later hb | exact (HM2.out.alloc _).later hb)
  clear hb HM2
  go_wp2_with fail
  have hbx := HM3.out.box
  have x0 := hbx.cellAt 0 (by simp)
  have x1 := hbx.cellAt 1 (by simp)
  have x2 := hbx.cellAt 2 (by simp)
  have x3 := hbx.cellAt 3 (by simp)
  have x4 := hbx.cellAt 4 (by simp)
  have x5 := hbx.cellAt 5 (by simp)
  have x6 := hbx.cellAt 6 (by simp)
  simp at x0 x1 x2 x3 x4 x5 x6
  clear hbx
  refine bodyPost_ret (v := .tuple #[.agg #[.int .i64 6, .int .i64 n', .int .i64 0, .string ⟨#[]⟩, .slice none 0 0, .slice none 0 0, .slice none 0 0], .bool true]) (by simp [results, Tryz.results23, go_sem, x0, x1, x2, x3, x4, x5, x6]) rfl ⟨rfl, ?_⟩
  repeat' (first | refine Below.setCell ?_ (by first | (simp; done) | (simp; omega) | omega) _ | refine Below.alloc ?_ (by first | (simp; done) | (simp; omega) | omega) _ | exact HB3.out)

set_option maxHeartbeats 1600000 in
set_option maxRecDepth 100000 in
theorem implFirst_none {a b : Dt} (ha : IsVal a) (hb : IsVal b) (hwa : a.wt ≤ 1048576) (hwb : b.wt ≤ 1048576) (cs cs' : List Value) (w : World) (h : Rd w w.heap.size a cs) (h' : Rd w w.heap.size b cs') (g : Nat)
    (ho : w.ownsRow 0 28 7 (.slice (some ⟨g, 0, none⟩) 2 2) 2 (cs ++ cs')) (hf : Fine a) (hf2 : Fine b) :
    Calls Tryz.prog 23 #[.slice (some ⟨g, 0, none⟩) 2 2] w fun e w' => e = .returned (.tuple #[.agg #[.int .i64 0, .int .i64 0, .int .i64 0, .string ⟨#[]⟩, .slice none 0 0, .slice none 0 0, .slice none 0 0], .bool false]) ∧ Below w.heap.size w w' := by
  have HV := Lib.hid (And.intro ha (And.intro hb (And.intro hwa hwb)))
  have HH := Lib.hid (And.intro h h')
  obtain ⟨k, n, s, t, l, c, r, hl, hr⟩ := ha
  obtain ⟨k', n', s', t', l', c', r', hl', hr'⟩ := hb
  obtain ⟨A4, q4, A5, q5, A6, q6, rfl, -, -, -⟩ := Rd.ofValue h
  obtain ⟨A4', q4', A5', q5', A6', q6', rfl, -, -, -⟩ := Rd.ofValue h'
  simp only [List.length_map] at HH ho
  have hg := (ho.lt g rfl).2
  have hgj := ho.cellAt 0 (by omega)
  have HG0 : Hid (w.cell? ⟨g, 0, none⟩ = some (.int .i64 k)) := Lib.hid hgj
  clear hgj
  have hgj := ho.cellAt 1 (by omega)
  have HG1 : Hid (w.cell? ⟨g, 1, none⟩ = some (.int .i64 n)) := Lib.hid hgj
  clear hgj
  have hgj := ho.cellAt 2 (by omega)
  have HG2 : Hid (w.cell? ⟨g, 2, none⟩ = some (.int .i64 s)) := Lib.hid hgj
  clear hgj
  have hgj := ho.cellAt 3 (by omega)
  have HG3 : Hid (w.cell? ⟨g, 3, none⟩ = some (.string t)) := Lib.hid hgj
  clear hgj
  have hgj := ho.cellAt 4 (by omega)
  have HG4 : Hid (w.cell? ⟨g, 4, none⟩ = some (.slice A4 l.length q4)) := Lib.hid hgj
  clear hgj
  have hgj := ho.cellAt 5 (by omega)
  have HG5 : Hid (w.cell? ⟨g, 5, none⟩ = some (.slice A5 c.length q5)) := Lib.hid hgj
  clear hgj
  have hgj := ho.cellAt 6 (by omega)
  have HG6 : Hid (w.cell? ⟨g, 6, none⟩ = some (.slice A6 r.length q6)) := Lib.hid hgj
  clear hgj
  have hgj := ho.cellAt 7 (by omega)
  have HG7 : Hid (w.cell? ⟨g, 7, none⟩ = some (.int .i64 k')) := Lib.hid hgj
  clear hgj
  have hgj := ho.cellAt 8 (by omega)
  have HG8 : Hid (w.cell? ⟨g, 8, none⟩ = some (.int .i64 n')) := Lib.hid hgj
  clear hgj
  have hgj := ho.cellAt 9 (by omega)
  have HG9 : Hid (w.cell? ⟨g, 9, none⟩ = some (.int .i64 s')) := Lib.hid hgj
  clear hgj
  have hgj := ho.cellAt 10 (by omega)
  have HG10 : Hid (w.cell? ⟨g, 10, none⟩ = some (.string t')) := Lib.hid hgj
  clear hgj
  have hgj := ho.cellAt 11 (by omega)
  have HG11 : Hid (w.cell? ⟨g, 11, none⟩ = some (.slice A4' l'.length q4')) := Lib.hid hgj
  clear hgj
  have hgj := ho.cellAt 12 (by omega)
  have HG12 : Hid (w.cell? ⟨g, 12, none⟩ = some (.slice A5' c'.length q5')) := Lib.hid hgj
  clear hgj
  have hgj := ho.cellAt 13 (by omega)
  have HG13 : Hid (w.cell? ⟨g, 13, none⟩ = some (.slice A6' r'.length q6')) := Lib.hid hgj
  clear hgj
  clear ho h h' hl hr hl' hr' hwa hwb
  have HF := Lib.hid hf.1
  have hk : (k == 6) = false := by have := hf.2; simp only [Dt.kd] at this; simpa using this
  clear hf
  have HF2 := Lib.hid hf2.1
  have hk2 : (k' == 6) = false := by have := hf2.2; simp only [Dt.kd] at this; simpa using this
  clear hf2
  have HB0 := Lib.hid (Below.refl w.heap.size w)
  have HM0 := Lib.hid ((MSt.start w).new 28 7 #[.int .i64 0, .int .i64 0, .int .i64 0, .string ⟨#[]⟩, .slice none 0 0, .slice none 0 0, .slice none 0 0] rfl)
  have hz : g < (w.alloc (.cells #[.int .i64 0, .int .i64 0, .int .i64 0, .string ⟨#[]⟩, .slice none 0 0, .slice none 0 0, .slice none 0 0] 28)).heap.size := by simp; omega
  have u0 := (((Below.refl w.heap.size w).alloc (Nat.le_refl _) (.cells #[.int .i64 0, .int .i64 0, .int .i64 0, .string ⟨#[]⟩, .slice none 0 0, .slice none 0 0, .slice none 0 0] 28)).cell (p := ⟨g, 0, none⟩) hg).trans HG0.out
  have u1 := (((Below.refl w.heap.size w).alloc (Nat.le_refl _) (.cells #[.int .i64 0, .int .i64 0, .int .i64 0, .string ⟨#[]⟩, .slice none 0 0, .slice none 0 0, .slice none 0 0] 28)).cell (p := ⟨g, 1, none⟩) hg).trans HG1.out
  have u2 := (((Below.refl w.heap.size w).alloc (Nat.le_refl _) (.cells #[.int .i64 0, .int .i64 0, .int .i64 0, .string ⟨#[]⟩, .slice none 0 0, .slice none 0 0, .slice none 0 0] 28)).cell (p := ⟨g, 2, none⟩) hg).trans HG2.out
  have u3 := (((Below.refl w.heap.size w).alloc (Nat.le_refl _) (.cells #[.int .i64 0, .int .i64 0, .int .i64 0, .string ⟨#[]⟩, .slice none 0 0, .slice none 0 0, .slice none 0 0] 28)).cell (p := ⟨g, 3, none⟩) hg).trans HG3.out
  have u4 := (((Below.refl w.heap.size w).alloc (Nat.le_refl _) (.cells #[.int .i64 0, .int .i64 0, .int .i64 0, .string ⟨#[]⟩, .slice none 0 0, .slice none 0 0, .slice none 0 0] 28)).cell (p := ⟨g, 4, none⟩) hg).trans HG4.out
  have u5 := (((Below.refl w.heap.size w).alloc (Nat.le_refl _) (.cells #[.int .i64 0, .int .i64 0, .int .i64 0, .string ⟨#[]⟩, .slice none 0 0, .slice none 0 0, .slice none 0 0] 28)).cell (p := ⟨g, 5, none⟩) hg).trans HG5.out
  have u6 := (((Below.refl w.heap.size w).alloc (Nat.le_refl _) (.cells #[.int .i64 0, .int .i64 0, .int .i64 0, .string ⟨#[]⟩, .slice none 0 0, .slice none 0 0, .slice none 0 0] 28)).cell (p := ⟨g, 6, none⟩) hg).trans HG6.out
  go_enter Tryz.func23, Tryz.ntmps23
  go_wp2_with fail
  refine wp_loop_rounds 3 ?_
  rw [rounds_succ]
  go_wp2_with fail
  clear hz u0 u1 u2 u3 u4 u5 u6
  refine ((implValidV_any HV.out.1 HV.out.2.2.1 _ _ ((((HH.out.1.below HB0.out).more HB0.out.size).below (B := w.heap.size) (by repeat' (first | refine Below.setCell ?_ (by first | (simp; done) | (simp; omega) | omega) _ | refine Below.alloc ?_ (by first | (simp; done) | (simp; omega) | omega) _ | exact Below.refl _ _))).more (by first | exact Nat.le_refl _ | (simp; done) | (simp; omega)))).mono (eqP_yes HF.out)).mono ?_
  rintro e w1 ⟨rfl, hb⟩
  have HB1 : Hid (Below w.heap.size w w1) := by
    refine Lib.hid (Below.trans ?_ (hb.mono ?_))
    · repeat' (first | refine Below.setCell ?_ (by first | (simp; done) | (simp; omega) | omega) _ | refine Below.alloc ?_ (by first | (simp; done) | (simp; omega) | omega) _ | exact Below.refl _ _)
    · first | exact Nat.le_refl _ | (simp; done) | (simp; omega)
  have HS1 := HB1.out.size
  obtain ⟨hc1, hf1⟩ := bcell hb
  have hz1_0 : w.heap.size < w1.heap.size := by have h1 := hb.size; first | (simp at h1; omega) | omega
  have hz1_1 : w.heap.size + 1 < w1.heap.size := by have h1 := hb.size; first | (simp at h1; omega) | omega
  have HM1 : Hid (MSt w [boxA 28 7 w.heap.size [.int .i64 0, .int .i64 0, .int .i64 0, .string ⟨#[]⟩, .slice none 0 0, .slice none 0 0, .slice none 0 0]] w1) := Lib.hid (by first | exact HM0.out.later hb | exact (HM0.out.alloc _).later hb)
  clear hb HM0
  go_wp2_with fail
  have u7 := (HB1.out.cell (p := ⟨g, 7, none⟩) hg).trans HG7.out
  have u8 := (HB1.out.cell (p := ⟨g, 8, none⟩) hg).trans HG8.out
  have u9 := (HB1.out.cell (p := ⟨g, 9, none⟩) hg).trans HG9.out
  have u10 := (HB1.out.cell (p := ⟨g, 10, none⟩) hg).trans HG10.out
  have u11 := (HB1.out.cell (p := ⟨g, 11, none⟩) hg).trans HG11.out
  have u12 := (HB1.out.cell (p := ⟨g, 12, none⟩) hg).trans HG12.out
  have u13 := (HB1.out.cell (p := ⟨g, 13, none⟩) hg).trans HG13.out
  have hgw : g < w1.heap.size := by omega
  rw [rounds_succ]
  go_wp2_with fail
  clear u7 u8 u9 u10 u11 u12 u13
  refine ((implValidV_any HV.out.2.1 HV.out.2.2.2 _ _ ((((HH.out.2.below HB1.out).more HB1.out.size).below (B := w1.heap.size) (by repeat' (first | refine Below.setCell ?_ (by first | (simp; done) | (simp; omega) | omega) _ | refine Below.alloc ?_ (by first | (simp; done) | (simp; omega) | omega) _ | exact Below.refl _ _))).more (by first | exact Nat.le_refl _ | (simp; done) | (simp; omega)))).mono (eqP_yes HF2.out)).mono ?_
  rintro e w2 ⟨rfl, hb⟩
  have HB2 : Hid (Below w.heap.size w w2) := by
    refine Lib.hid (Below.trans ?_ (hb.mono ?_))
    · repeat' (first | refine Below.setCell ?_ (by first | (simp; done) | (simp; omega) | omega) _ | refine Below.alloc ?_ (by first | (simp; done) | (simp; omega) | omega) _ | exact HB1.out)
    · have := HB1.out.size; first | (simp; done) | (simp; omega) | omega
  have HS2 := HB2.out.size
  obtain ⟨hc2, hf2⟩ := bcell hb
  have hz2_0 : w.heap.size < w2.heap.size := by have h1 := hb.size; first | (simp at h1; omega) | omega
  have hz2_1 : w.heap.size + 1 < w2.heap.size := by have h1 := hb.size; first | (simp at h1; omega) | omega
  have hz2_2 : w1.heap.size < w2.heap.size := by have h1 := hb.size; first | (simp at h1; omega) | omega
  have HM2 : Hid (MSt w [boxA 28 7 w.heap.size [.int .i64 0, .int .i64 0, .int .i64 0, .string ⟨#[]⟩, .slice none 0 0, .slice none 0 0, .slice none 0 0]] w2) := Lib.hid (by first | exact HM1.out.later hb | exact (HM1.out.alloc _).later hb)
  clear hb HM1
  go_wp2_with fail
  rw [rounds_succ]
  go_wp2_with fail
  have hbx := HM2.out.box
  have x0 := hbx.cellAt 0 (by simp)
  have x1 := hbx.cellAt 1 (by simp)
  have x2 := hbx.cellAt 2 (by simp)
  have x3 := hbx.cellAt 3 (by simp)
  have x4 := hbx.cellAt 4 (by simp)
  have x5 := hbx.cellAt 5 (by simp)
  have x6 := hbx.cellAt 6 (by simp)
  simp at x0 x1 x2 x3 x4 x5 x6
  clear hbx
  refine bodyPost_ret (v := .tuple #[.agg #[.int .i64 0, .int .i64 0, .int .i64 0, .string ⟨#[]⟩, .slice none 0 0, .slice none 0 0, .slice none 0 0], .bool false]) (by simp [results, Tryz.results23, go_sem, x0, x1, x2, x3, x4, x5, x6]) rfl ⟨rfl, ?_⟩
  repeat' (first | refine Below.setCell ?_ (by first | (simp; done) | (simp; omega) | omega) _ | refine Below.alloc ?_ (by first | (simp; done) | (simp; omega) | omega) _ | exact HB2.out)

set_option maxHeartbeats 1600000 in
set_option maxRecDepth 100000 in
theorem specFirst_abad {a b : Dt} (ha : IsVal a) (hb : IsVal b) (hwa : a.wt ≤ 1048576) (hwb : b.wt ≤ 1048576) (cs cs' : List Value) (w : World) (h : Rd w w.heap.size a cs) (h' : Rd w w.heap.size b cs') (g : Nat)
    (ho : w.ownsRow 0 28 7 (.slice (some ⟨g, 0, none⟩) 2 2) 2 (cs ++ cs')) (he : ¬ a.SV) :
    Calls Tryz.prog 26 #[.slice (some ⟨g, 0, none⟩) 2 2] w fun e w' => e = .returned (.tuple #[.agg #[.int .i64 6, .int .i64 4, .int .i64 0, .string ⟨#[]⟩, .slice none 0 0, .slice none 0 0, .slice none 0 0], .bool true]) ∧ Below w.heap.size w w' := by
  have HV := Lib.hid (And.intro ha (And.intro hb (And.intro hwa hwb)))
  have HH := Lib.hid (And.intro h h')
  obtain ⟨k, n, s, t, l, c, r, hl, hr⟩ := ha
  obtain ⟨k', n', s', t', l', c', r', hl', hr'⟩ := hb
  obtain ⟨A4, q4, A5, q5, A6, q6, rfl, -, -, -⟩ := Rd.ofValue h
  obtain ⟨A4', q4', A5', q5', A6', q6', rfl, -, -, -⟩ := Rd.ofValue h'
  simp only [List.length_map] at HH ho
  have hg := (ho.lt g rfl).2
  have hgj := ho.cellAt 0 (by omega)
  have HG0 : Hid (w.cell? ⟨g, 0, none⟩ = some (.int .i64 k)) := Lib.hid hgj
  clear hgj
  have hgj := ho.cellAt 1 (by omega)
  have HG1 : Hid (w.cell? ⟨g, 1, none⟩ = some (.int .i64 n)) := Lib.hid hgj
  clear hgj
  have hgj := ho.cellAt 2 (by omega)
  have HG2 : Hid (w.cell? ⟨g, 2, none⟩ = some (.int .i64 s)) := Lib.hid hgj
  clear hgj
  have hgj := ho.cellAt 3 (by omega)
  have HG3 : Hid (w.cell? ⟨g, 3, none⟩ = some (.string t)) := Lib.hid hgj
  clear hgj
  have hgj := ho.cellAt 4 (by omega)
  have HG4 : Hid (w.cell? ⟨g, 4, none⟩ = some (.slice A4 l.length q4)) := Lib.hid hgj
  clear hgj
  have hgj := ho.cellAt 5 (by omega)
  have HG5 : Hid (w.cell? ⟨g, 5, none⟩ = some (.slice A5 c.length q5)) := Lib.hid hgj
  clear hgj
  have hgj := ho.cellAt 6 (by omega)
  have HG6 : Hid (w.cell? ⟨g, 6, none⟩ = some (.slice A6 r.length q6)) := Lib.hid hgj
  clear hgj
  have hgj := ho.cellAt 7 (by omega)
  have HG7 : Hid (w.cell? ⟨g, 7, none⟩ = some (.int .i64 k')) := Lib.hid hgj
  clear hgj
  have hgj := ho.cellAt 8 (by omega)
  have HG8 : Hid (w.cell? ⟨g, 8, none⟩ = some (.int .i64 n')) := Lib.hid hgj
  clear hgj
  have hgj := ho.cellAt 9 (by omega)
  have HG9 : Hid (w.cell? ⟨g, 9, none⟩ = some (.int .i64 s')) := Lib.hid hgj
  clear hgj
  have hgj := ho.cellAt 10 (by omega)
  have HG10 : Hid (w.cell? ⟨g, 10, none⟩ = some (.string t')) := Lib.hid hgj
  clear hgj
  have hgj := ho.cellAt 11 (by omega)
  have HG11 : Hid (w.cell? ⟨g, 11, none⟩ = some (.slice A4' l'.length q4')) := Lib.hid hgj
  clear hgj
  have hgj := ho.cellAt 12 (by omega)
  have HG12 : Hid (w.cell? ⟨g, 12, none⟩ = some (.slice A5' c'.length q5')) := Lib.hid hgj
  clear hgj
  have hgj := ho.cellAt 13 (by omega)
  have HG13 : Hid (w.cell? ⟨g, 13, none⟩ = some (.slice A6' r'.length q6')) := Lib.hid hgj
  clear hgj
  clear ho h h' hl hr hl' hr' hwa hwb
  have HE := Lib.hid he
  clear he
  have HB0 := Lib.hid (Below.refl w.heap.size w)
  have HM0 := Lib.hid ((MSt.start w).new 28 7 #[.int .i64 0, .int .i64 0, .int .i64 0, .string ⟨#[]⟩, .slice none 0 0, .slice none 0 0, .slice none 0 0] rfl)
  have u0 := (((Below.refl w.heap.size w).alloc (Nat.le_refl _) (.cells #[.int .i64 0, .int .i64 0, .int .i64 0, .string ⟨#[]⟩, .slice none 0 0, .slice none 0 0, .slice none 0 0] 28)).cell (p := ⟨g, 0, none⟩) hg).trans HG0.out
  have u1 := (((Below.refl w.heap.size w).alloc (Nat.le_refl _) (.cells #[.int .i64 0, .int .i64 0, .int .i64 0, .string ⟨#[]⟩, .slice none 0 0, .slice none 0 0, .slice none 0 0] 28)).cell (p := ⟨g, 1, none⟩) hg).trans HG1.out
  have u2 := (((Below.refl w.heap.size w).alloc (Nat.le_refl _) (.cells #[.int .i64 0, .int .i64 0, .int .i64 0, .string ⟨#[]⟩, .slice none 0 0, .slice none 0 0, .slice none 0 0] 28)).cell (p := ⟨g, 2, none⟩) hg).trans HG2.out
  have u3 := (((Below.refl w.heap.size w).alloc (Nat.le_refl _) (.cells #[.int .i64 0, .int .i64 0, .int .i64 0, .string ⟨#[]⟩, .slice none 0 0, .slice none 0 0, .slice none 0 0] 28)).cell (p := ⟨g, 3, none⟩) hg).trans HG3.out
  have u4 := (((Below.refl w.heap.size w).alloc (Nat.le_refl _) (.cells #[.int .i64 0, .int .i64 0, .int .i64 0, .string ⟨#[]⟩, .slice none 0 0, .slice none 0 0, .slice none 0 0] 28)).cell (p := ⟨g, 4, none⟩) hg).trans HG4.out
  have u5 := (((Below.refl w.heap.size w).alloc (Nat.le_refl _) (.cells #[.int .i64 0, .int .i64 0, .int .i64 0, .string ⟨#[]⟩, .slice none 0 0, .slice none 0 0, .slice none 0 0] 28)).cell (p := ⟨g, 5, none⟩) hg).trans HG5.out
  have u6 := (((Below.refl w.heap.size w).alloc (Nat.le_refl _) (.cells #[.int .i64 0, .int .i64 0, .int .i64 0, .string ⟨#[]⟩, .slice none 0 0, .slice none 0 0, .slice none 0 0] 28)).cell (p := ⟨g, 6, none⟩) hg).trans HG6.out
  have hz : g < (w.alloc (.cells #[.int .i64 0, .int .i64 0, .int .i64 0, .string ⟨#[]⟩, .slice none 0 0, .slice none 0 0, .slice none 0 0] 28)).heap.size := by simp; omega
  go_enter Tryz.func26, Tryz.ntmps26
  go_wp2_with fail
  refine wp_loop_rounds 3 ?_
  rw [rounds_succ]
  go_wp2_with fail
  clear hz u0 u1 u2 u3 u4 u5 u6
  refine ((specValidV HV.out.1 HV.out.2.2.1 _ _ ((((HH.out.1.below HB0.out).more HB0.out.size).below (B := w.heap.size) (by repeat' (first | refine Below.setCell ?_ (by first | (simp; done) | (simp; omega) | omega) _ | refine Below.alloc ?_ (by first | (simp; done) | (simp; omega) | omega) _ | exact Below.refl _ _))).more (by first | exact Nat.le_refl _ | (simp; done) | (simp; omega)))).mono (eqP_no HE.out)).mono ?_
  rintro e w1 ⟨rfl, hb⟩
  have HB1 : Hid (Below w.heap.size w w1) := by
    refine Lib.hid (Below.trans ?_ (hb.mono ?_))
    · repeat' (first | refine Below.setCell ?_ (by first | (simp; done) | (simp; omega) | omega) _ | refine Below.alloc ?_ (by first | (simp; done) | (simp; omega) | omega) _ | exact Below.refl _ _)
    · first | exact Nat.le_refl _ | (simp; done) | (simp; omega)
  have HS1 := HB1.out.size
  obtain ⟨hc1, hf1⟩ := bcell hb
  have hz1_0 : w.heap.size < w1.heap.size := by have h1 := hb.size; first | (simp at h1; omega) | omega
  have HM1 : Hid (MSt w [boxA 28 7 w.heap.size [.int .i64 0, .int .i64 0, .int .i64 0, .string ⟨#[]⟩, .slice none 0 0, .slice none 0 0, .slice none 0 0]] w1) := Lib.hid (by first | exact HM0.out.later hb | exact (HM0.out.alloc _).later hb)
  clear hb HM0
  go_wp2_with fail
  refine (specErrorValue_any 4 _).mono ?_
  rintro e w2 ⟨rfl, hb⟩
  have HB2 : Hid (Below w.heap.size w w2) := by
    refine Lib.hid (Below.trans ?_ (hb.mono ?_))
    · repeat' (first | refine Below.setCell ?_ (by first | (simp; done) | (simp; omega) | omega) _ | refine Below.alloc ?_ (by first | (simp; done) | (simp; omega) | omega) _ | exact HB1.out)
    · have := HB1.out.size; first | (simp; done) | (simp; omega) | omega
  have HS2 := HB2.out.size
  obtain ⟨hc2, hf2⟩ := bcell hb
  have hz2_0 : w.heap.size < w2.heap.size := by have h1 := hb.size; first | (simp at h1; omega) | omega
  have HM2 : Hid (MSt w [boxA 28 7 w.heap.size [.int .i64 0, .int .i64 0, .int .i64 0, .string ⟨#[]⟩, .slice none 0 0, .slice none 0 0, .slice none 0 0]] w2) := Lib.hid (by first | exact HM1.out.later hb | exact (HM1.out.alloc _).later hb)
  clear hb HM1
  go_wp2_with fail
  have hbx := HM2.out.box
  have x0 := hbx.cellAt 0 (by simp)
  have x1 := hbx.cellAt 1 (by simp)
  have x2 := hbx.cellAt 2 (by simp)
  have x3 := hbx.cellAt 3 (by simp)
  have x4 := hbx.cellAt 4 (by simp)
  have x5 := hbx.cellAt 5 (by simp)
  have x6 := hbx.cellAt 6 (by simp)
  simp at x0 x1 x2 x3 x4 x5 x6
  clear hbx
  refine bodyPost_ret (v := .tuple #[.agg #[.int .i64 6, .int .i64 4, .int .i64 0, .string ⟨#[]⟩, .slice none 0 0, .slice none 0 0, .slice none 0 0], .bool true]) (by simp [results, Tryz.results26, go_sem, x0, x1, x2, x3, x4, x5, x6]) rfl ⟨rfl, ?_⟩
  repeat' (first | refine Below.setCell ?_ (by first | (simp; done) | (simp; omega) | omega) _ | refine Below.alloc ?_ (by first | (simp; done) | (simp; omega) | omega) _ | exact HB2.out)

set_option maxHeartbeats 1600000 in
set_option maxRecDepth 100000 in
theorem specFirst_aerr {a b : Dt} (ha : IsVal a) (hb : IsVal b) (hwa : a.wt ≤ 1048576) (hwb : b.wt ≤ 1048576) (cs cs' : List Value) (w : World) (h : Rd w w.heap.size a cs) (h' : Rd w w.heap.size b cs') (g : Nat)
    (ho : w.ownsRow 0 28 7 (.slice (some ⟨g, 0, none⟩) 2 2) 2 (cs ++ cs')) (he : a.SV) (hk : a.kd = 6) :
    Calls Tryz.prog 26 #[.slice (some ⟨g, 0, none⟩) 2 2] w fun e w' => e = .returned (.tuple #[.agg #[.int .i64 6, .int .i64 a.nm, .int .i64 0, .string ⟨#[]⟩, .slice none 0 0, .slice none 0 0, .slice none 0 0], .bool true]) ∧ Below w.heap.size w w' := by
  have HV := Lib.hid (And.intro ha (And.intro hb (And.intro hwa hwb)))
  have HH := Lib.hid (And.intro h h')
  obtain ⟨k, n, s, t, l, c, r, hl, hr⟩ := ha
  obtain ⟨k', n', s', t', l', c', r', hl', hr'⟩ := hb
  obtain ⟨A4, q4, A5, q5, A6, q6, rfl, -, -, -⟩ := Rd.ofValue h
  obtain ⟨A4', q4', A5', q5', A6', q6', rfl, -, -, -⟩ := Rd.ofValue h'
  simp only [List.length_map] at HH ho
  have hg := (ho.lt g rfl).2
  have hgj := ho.cellAt 0 (by omega)
  have HG0 : Hid (w.cell? ⟨g, 0, none⟩ = some (.int .i64 k)) := Lib.hid hgj
  clear hgj
  have hgj := ho.cellAt 1 (by omega)
  have HG1 : Hid (w.cell? ⟨g, 1, none⟩ = some (.int .i64 n)) := Lib.hid hgj
  clear hgj
  have hgj := ho.cellAt 2 (by omega)
  have HG2 : Hid (w.cell? ⟨g, 2, none⟩ = some (.int .i64 s)) := Lib.hid hgj
  clear hgj
  have hgj := ho.cellAt 3 (by omega)
  have HG3 : Hid (w.cell? ⟨g, 3, none⟩ = some (.string t)) := Lib.hid hgj
  clear hgj
  have hgj := ho.cellAt 4 (by omega)
  have HG4 : Hid (w.cell? ⟨g, 4, none⟩ = some (.slice A4 l.length q4)) := Lib.hid hgj
  clear hgj
  have hgj := ho.cellAt 5 (by omega)
  have HG5 : Hid (w.cell? ⟨g, 5, none⟩ = some (.slice A5 c.length q5)) := Lib.hid hgj
  clear hgj
  have hgj := ho.cellAt 6 (by omega)
  have HG6 : Hid (w.cell? ⟨g, 6, none⟩ = some (.slice A6 r.length q6)) := Lib.hid hgj
  clear hgj
  have hgj := ho.cellAt 7 (by omega)
  have HG7 : Hid (w.cell? ⟨g, 7, none⟩ = some (.int .i64 k')) := Lib.hid hgj
  clear hgj
  have hgj := ho.cellAt 8 (by omega)
  have HG8 : Hid (w.cell? ⟨g, 8, none⟩ = some (.int .i64 n')) := Lib.hid hgj
  clear hgj
  have hgj := ho.cellAt 9 (by omega)
  have HG9 : Hid (w.cell? ⟨g, 9, none⟩ = some (.int .i64 s')) := Lib.hid hgj
  clear hgj
  have hgj := ho.cellAt 10 (by omega)
  have HG10 : Hid (w.cell? ⟨g, 10, none⟩ = some (.string t')) := Lib.hid hgj
  clear hgj
  have hgj := ho.cellAt 11 (by omega)
  have HG11 : Hid (w.cell? ⟨g, 11, none⟩ = some (.slice A4' l'.length q4')) := Lib.hid hgj
  clear hgj
  have hgj := ho.cellAt 12 (by omega)
  have HG12 : Hid (w.cell? ⟨g, 12, none⟩ = some (.slice A5' c'.length q5')) := Lib.hid hgj
  clear hgj
  have hgj := ho.cellAt 13 (by omega)
  have HG13 : Hid (w.cell? ⟨g, 13, none⟩ = some (.slice A6' r'.length q6')) := Lib.hid hgj
  clear hgj
  clear ho h h' hl hr hl' hr' hwa hwb
  have HE := Lib.hid he
  clear he
  have hk : k = 6 := hk
  subst hk
  simp only [Dt.nm]
  have HB0 := Lib.hid (Below.refl w.heap.size w)
  have HM0 := Lib.hid ((MSt.start w).new 28 7 #[.int .i64 0, .int .i64 0, .int .i64 0, .string ⟨#[]⟩, .slice none 0 0, .slice none 0 0, .slice none 0 0] rfl)
  have u0 := (((Below.refl w.heap.size w).alloc (Nat.le_refl _) (.cells #[.int .i64 0, .int .i64 0, .int .i64 0, .string ⟨#[]⟩, .slice none 0 0, .slice none 0 0, .slice none 0 0] 28)).cell (p := ⟨g, 0, none⟩) hg).trans HG0.out
  have u1 := (((Below.refl w.heap.size w).alloc (Nat.le_refl _) (.cells #[.int .i64 0, .int .i64 0, .int .i64 0, .string ⟨#[]⟩, .slice none 0 0, .slice none 0 0, .slice none 0 0] 28)).cell (p := ⟨g, 1, none⟩) hg).trans HG1.out
  have u2 := (((Below.refl w.heap.size w).alloc (Nat.le_refl _) (.cells #[.int .i64 0, .int .i64 0, .int .i64 0, .string ⟨#[]⟩, .slice none 0 0, .slice none 0 0, .slice none 0 0] 28)).cell (p := ⟨g, 2, none⟩) hg).trans HG2.out
  have u3 := (((Below.refl w.heap.size w).alloc (Nat.le_refl _) (.cells #[.int .i64 0, .int .i64 0, .int .i64 0, .string ⟨#[]⟩, .slice none 0 0, .slice none 0 0, .slice none 0 0] 28)).cell (p := ⟨g, 3, none⟩) hg).trans HG3.out
  have u4 := (((Below.refl w.heap.size w).alloc (Nat.le_refl _) (.cells #[.int .i64 0, .int .i64 0, .int .i64 0, .string ⟨#[]⟩, .slice none 0 0, .slice none 0 0, .slice none 0 0] 28)).cell (p := ⟨g, 4, none⟩) hg).trans HG4.out
  have u5 := (((Below.refl w.heap.size w).alloc (Nat.le_refl _) (.cells #[.int .i64 0, .int .i64 0, .int .i64 0, .string ⟨#[]⟩, .slice none 0 0, .slice none 0 0, .slice none 0 0] 28)).cell (p := ⟨g, 5, none⟩) hg).trans HG5.out
  have u6 := (((Below.refl w.heap.size w).alloc (Nat.le_refl _) (.cells #[.int .i64 0, .int .i64 0, .int .i64 0, .string ⟨#[]⟩, .slice none 0 0, .slice none 0 0, .slice none 0 0] 28)).cell (p := ⟨g, 6, none⟩) hg).trans HG6.out
  have hz : g < (w.alloc (.cells #[.int .i64 0, .int .i64 0, .int .i64 0, .string ⟨#[]⟩, .slice none 0 0, .slice none 0 0, .slice none 0 0] 28)).heap.size := by simp; omega
  go_enter Tryz.func26, Tryz.ntmps26
  go_wp2_with fail
  refine wp_loop_rounds 3 ?_
  rw [rounds_succ]
  go_wp2_with fail
  clear hz u0 u1 u2 u3 u4 u5 u6
  refine ((specValidV HV.out.1 HV.out.2.2.1 _ _ ((((HH.out.1.below HB0.out).more HB0.out.size).below (B := w.heap.size) (by repeat' (first | refine Below.setCell ?_ (by first | (simp; done) | (simp; omega) | omega) _ | refine Below.alloc ?_ (by first | (simp; done) | (simp; omega) | omega) _ | exact Below.refl _ _))).more (by first | exact Nat.le_refl _ | (simp; done) | (simp; omega)))).mono (eqP_yes HE.out)).mono ?_
  rintro e w1 ⟨rfl, hb⟩
  have HB1 : Hid (Below w.heap.size w w1) := by
    refine Lib.hid (Below.trans ?_ (hb.mono ?_))
    · repeat' (first | refine Below.setCell ?_ (by first | (simp; done) | (simp; omega) | omega) _ | refine Below.alloc ?_ (by first | (simp; done) | (simp; omega) | omega) _ | exact Below.refl _ _)
    · first | exact Nat.le_refl _ | (simp; done) | (simp; omega)
  have HS1 := HB1.out.size
  obtain ⟨hc1, hf1⟩ := bcell hb
  have hz1_0 : w.heap.size < w1.heap.size := by have h1 := hb.size; first | (simp at h1; omega) | omega
  have HM1 : Hid (MSt w [boxA 28 7 w.heap.size [.int .i64 0, .int .i64 0, .int .i64 0, .string ⟨#[]⟩, .slice none 0 0, .slice none 0 0, .slice none 0 0]] w1) := Lib.hid (by first | exact HM0.out.later hb | exact (HM0.out.alloc _).later hb)
  clear hb HM0
  have u0 := (HB1.out.cell (p := ⟨g, 0, none⟩) hg).trans HG0.out
  have u1 := (HB1.out.cell (p := ⟨g, 1, none⟩) hg).trans HG1.out
  have v0 := HG0.out
  have v1 := HG1.out
  go_wp2_with fail
  clear u0 u1 v0 v1
  refine (specErrorValue_any n _).mono ?_
  rintro e w2 ⟨rfl, hb⟩
  have HB2 : Hid (Below w.heap.size w w2) := by
    refine Lib.hid (Below.trans ?_ (hb.mono ?_))
    · repeat' (first | refine Below.setCell ?_ (by first | (simp; done) | (simp; omega) | omega) _ | refine Below.alloc ?_ (by first | (simp; done) | (simp; omega) | omega) _ | exact HB1.out)
    · have := HB1.out.size; first | (simp; done) | (simp; omega) | omega
  have HS2 := HB2.out.size
  obtain ⟨hc2, hf2⟩ := bcell hb
  have hz2_0 : w.heap.size < w2.heap.size := by have h1 := hb.size; first | (simp at h1; omega) | omega
  have HM2 : Hid (MSt w [boxA 28 7 w.heap.size [.int .i64 0, .int .i64 0, .int .i64 0, .string ⟨#[]⟩, .slice none 0 0, .slice none 0 0, .slice none 0 0]] w2) := Lib.hid (by first | exact HM1.out.later hb | exact (HM1.out.alloc _).later hb)
  clear hb HM1
  go_wp2_with fail
  have hbx := HM2.out.box
  have x0 := hbx.cellAt 0 (by simp)
  have x1 := hbx.cellAt 1 (by simp)
  have x2 := hbx.cellAt 2 (by simp)
  have x3 := hbx.cellAt 3 (by simp)
  have x4 := hbx.cellAt 4 (by simp)
  have x5 := hbx.cellAt 5 (by simp)
  have x6 := hbx.cellAt 6 (by simp)
  simp at x0 x1 x2 x3 x4 x5 x6
  clear hbx
  refine bodyPost_ret (v := .tuple #[.agg #[.int .i64 6, .int .i64 n, .int .i64 0, .string ⟨#[]⟩, .slice none 0 0, .slice none 0 0, .slice none 0 0], .bool true]) (by simp [results, Tryz.results26, go_sem, x0, x1, x2, x3, x4, x5, x6]) rfl ⟨rfl, ?_⟩
  repeat' (first | refine Below.setCell ?_ (by first | (simp; done) | (simp; omega) | omega) _ | refine Below.alloc ?_ (by first | (simp; done) | (simp; omega) | omega) _ | exact HB2.out)

set_option maxHeartbeats 1600000 in
set_option maxRecDepth 100000 in
theorem specFirst_bbad {a b : Dt} (ha : IsVal a) (hb : IsVal b) (hwa : a.wt ≤ 1048576) (hwb : b.wt ≤ 1048576) (cs cs' : List Value) (w : World) (h : Rd w w.heap.size a cs) (h' : Rd w w.heap.size b cs') (g : Nat)
    (ho : w.ownsRow 0 28 7 (.slice (some ⟨g, 0, none⟩) 2 2) 2 (cs ++ cs')) (hf : Fine a) (he : ¬ b.SV) :
    Calls Tryz.prog 26 #[.slice (some ⟨g, 0, none⟩) 2 2] w fun e w' => e = .returned (.tuple #[.agg #[.int .i64 6, .int .i64 4, .int .i64 0, .string ⟨#[]⟩, .slice none 0 0, .slice none 0 0, .slice none 0 0], .bool true]) ∧ Below w.heap.size w w' := by
  have HV := Lib.hid (And.intro ha (And.intro hb (And.intro hwa hwb)))
  have HH := Lib.hid (And.intro h h')
  obtain ⟨k, n, s, t, l, c, r, hl, hr⟩ := ha
  obtain ⟨k', n', s', t', l', c', r', hl', hr'⟩ := hb
  obtain ⟨A4, q4, A5, q5, A6, q6, rfl, -, -, -⟩ := Rd.ofValue h
  obtain ⟨A4', q4', A5', q5', A6', q6', rfl, -, -, -⟩ := Rd.ofValue h'
  simp only [List.length_map] at HH ho
  have hg := (ho.lt g rfl).2
  have hgj := ho.cellAt 0 (by omega)
  have HG0 : Hid (w.cell? ⟨g, 0, none⟩ = some (.int .i64 k)) := Lib.hid hgj
  clear hgj
  have hgj := ho.cellAt 1 (by omega)
  have HG1 : Hid (w.cell? ⟨g, 1, none⟩ = some (.int .i64 n)) := Lib.hid hgj
  clear hgj
  have hgj := ho.cellAt 2 (by omega)
  have HG2 : Hid (w.cell? ⟨g, 2, none⟩ = some (.int .i64 s)) := Lib.hid hgj
  clear hgj
  have hgj := ho.cellAt 3 (by omega)
  have HG3 : Hid (w.cell? ⟨g, 3, none⟩ = some (.string t)) := Lib.hid hgj
  clear hgj
  have hgj := ho.cellAt 4 (by omega)
  have HG4 : Hid (w.cell? ⟨g, 4, none⟩ = some (.slice A4 l.length q4)) := Lib.hid hgj
  clear hgj
  have hgj := ho.cellAt 5 (by omega)
  have HG5 : Hid (w.cell? ⟨g, 5, none⟩ = some (.slice A5 c.length q5)) := Lib.hid hgj
  clear hgj
  have hgj := ho.cellAt 6 (by omega)
  have HG6 : Hid (w.cell? ⟨g, 6, none⟩ = some (.slice A6 r.length q6)) := Lib.hid hgj
  clear hgj
  have hgj := ho.cellAt 7 (by omega)
  have HG7 : Hid (w.cell? ⟨g, 7, none⟩ = some (.int .i64 k')) := Lib.hid hgj
  clear hgj
  have hgj := ho.cellAt 8 (by omega)
  have HG8 : Hid (w.cell? ⟨g, 8, none⟩ = some (.int .i64 n')) := Lib.hid hgj
  clear hgj
  have hgj := ho.cellAt 9 (by omega)
  have HG9 : Hid (w.cell? ⟨g, 9, none⟩ = some (.int .i64 s')) := Lib.hid hgj
  clear hgj
  have hgj := ho.cellAt 10 (by omega)
  have HG10 : Hid (w.cell? ⟨g, 10, none⟩ = some (.string t')) := Lib.hid hgj
  clear hgj
  have hgj := ho.cellAt 11 (by omega)
  have HG11 : Hid (w.cell? ⟨g, 11, none⟩ = some (.slice A4' l'.length q4')) := Lib.hid hgj
  clear hgj
  have hgj := ho.cellAt 12 (by omega)
  have HG12 : Hid (w.cell? ⟨g, 12, none⟩ = some (.slice A5' c'.length q5')) := Lib.hid hgj
  clear hgj
  have hgj := ho.cellAt 13 (by omega)
  have HG13 : Hid (w.cell? ⟨g, 13, none⟩ = some (.slice A6' r'.length q6')) := Lib.hid hgj
  clear hgj
  clear ho h h' hl hr hl' hr' hwa hwb
  have HE := Lib.hid he
  clear he
  have HF := Lib.hid hf.1
  have hk : (k == 6) = false := by have := hf.2; simp only [Dt.kd] at this; simpa using this
  clear hf
  have HB0 := Lib.hid (Below.refl w.heap.size w)
  have HM0 := Lib.hid ((MSt.start w).new 28 7 #[.int .i64 0, .int .i64 0, .int .i64 0, .string ⟨#[]⟩, .slice none 0 0, .slice none 0 0, .slice none 0 0] rfl)
  have u0 := (((Below.refl w.heap.size w).alloc (Nat.le_refl _) (.cells #[.int .i64 0, .int .i64 0, .int .i64 0, .string ⟨#[]⟩, .slice none 0 0, .slice none 0 0, .slice none 0 0] 28)).cell (p := ⟨g, 0, none⟩) hg).trans HG0.out
  have u1 := (((Below.refl w.heap.size w).alloc (Nat.le_refl _) (.cells #[.int .i64 0, .int .i64 0, .int .i64 0, .string ⟨#[]⟩, .slice none 0 0, .slice none 0 0, .slice none 0 0] 28)).cell (p := ⟨g, 1, none⟩) hg).trans HG1.out
  have u2 := (((Below.refl w.heap.size w).alloc (Nat.le_refl _) (.cells #[.int .i64 0, .int .i64 0, .int .i64 0, .string ⟨#[]⟩, .slice none 0 0, .slice none 0 0, .slice none 0 0] 28)).cell (p := ⟨g, 2, none⟩) hg).trans HG2.out
  have u3 := (((Below.refl w.heap.size w).alloc (Nat.le_refl _) (.cells #[.int .i64 0, .int .i64 0, .int .i64 0, .string ⟨#[]⟩, .slice none 0 0, .slice none 0 0, .slice none 0 0] 28)).cell (p := ⟨g, 3, none⟩) hg).trans HG3.out
  have u4 := (((Below.refl w.heap.size w).alloc (Nat.le_refl _) (.cells #[.int .i64 0, .int .i64 0, .int .i64 0, .string ⟨#[]⟩, .slice none 0 0, .slice none 0 0, .slice none 0 0] 28)).cell (p := ⟨g, 4, none⟩) hg).trans HG4.out
  have u5 := (((Below.refl w.heap.size w).alloc (Nat.le_refl _) (.cells #[.int .i64 0, .int .i64 0, .int .i64 0, .string ⟨#[]⟩, .slice none 0 0, .slice none 0 0, .slice none 0 0] 28)).cell (p := ⟨g, 5, none⟩) hg).trans HG5.out
  have u6 := (((Below.refl w.heap.size w).alloc (Nat.le_refl _) (.cells #[.int .i64 0, .int .i64 0, .int .i64 0, .string ⟨#[]⟩, .slice none 0 0, .slice none 0 0, .slice none 0 0] 28)).cell (p := ⟨g, 6, none⟩) hg).trans HG6.out
  have hz : g < (w.alloc (.cells #[.int .i64 0, .int .i64 0, .int .i64 0, .string ⟨#[]⟩, .slice none 0 0, .slice none 0 0, .slice none 0 0] 28)).heap.size := by simp; omega
  go_enter Tryz.func26, Tryz.ntmps26
  go_wp2_with fail
  refine wp_loop_rounds 3 ?_
  rw [rounds_succ]
  go_wp2_with fail
  clear hz u0 u1 u2 u3 u4 u5 u6
  refine ((specValidV HV.out.1 HV.out.2.2.1 _ _ ((((HH.out.1.below HB0.out).more HB0.out.size).below (B := w.heap.size) (by repeat' (first | refine Below.setCell ?_ (by first | (simp; done) | (simp; omega) | omega) _ | refine Below.alloc ?_ (by first | (simp; done) | (simp; omega) | omega) _ | exact Below.refl _ _))).more (by first | exact Nat.le_refl _ | (simp; done) | (simp; omega)))).mono (eqP_yes HF.out)).mono ?_
  rintro e w1 ⟨rfl, hb⟩
  have HB1 : Hid (Below w.heap.size w w1) := by
    refine Lib.hid (Below.trans ?_ (hb.mono ?_))
    · repeat' (first | refine Below.setCell ?_ (by first | (simp; done) | (simp; omega) | omega) _ | refine Below.alloc ?_ (by first | (simp; done) | (simp; omega) | omega) _ | exact Below.refl _ _)
    · first | exact Nat.le_refl _ | (simp; done) | (simp; omega)
  have HS1 := HB1.out.size
  obtain ⟨hc1, hf1⟩ := bcell hb
  have hz1_0 : w.heap.size < w1.heap.size := by have h1 := hb.size; first | (simp at h1; omega) | omega
  have HM1 : Hid (MSt w [boxA 28 7 w.heap.size [.int .i64 0, .int .i64 0, .int .i64 0, .string ⟨#[]⟩, .slice none 0 0, .slice none 0 0, .slice none 0 0]] w1) := Lib.hid (by first | exact HM0.out.later hb | exact (HM0.out.alloc _).later hb)
  clear hb HM0
  have u0 := (HB1.out.cell (p := ⟨g, 0, none⟩) hg).trans HG0.out
  have u1 := (HB1.out.cell (p := ⟨g, 1, none⟩) hg).trans HG1.out
  have v0 := HG0.out
  have v1 := HG1.out
  go_wp2_with fail
  clear u0 u1 v0 v1
  have u7 := (HB1.out.cell (p := ⟨g, 7, none⟩) hg).trans HG7.out
  have u8 := (HB1.out.cell (p := ⟨g, 8, none⟩) hg).trans HG8.out
  have u9 := (HB1.out.cell (p := ⟨g, 9, none⟩) hg).trans HG9.out
  have u10 := (HB1.out.cell (p := ⟨g, 10, none⟩) hg).trans HG10.out
  have u11 := (HB1.out.cell (p := ⟨g, 11, none⟩) hg).trans HG11.out
  have u12 := (HB1.out.cell (p := ⟨g, 12, none⟩) hg).trans HG12.out
  have u13 := (HB1.out.cell (p := ⟨g, 13, none⟩) hg).trans HG13.out
  have hgw : g < w1.heap.size := by omega
  have v7 := HG7.out
  have v8 := HG8.out
  have v9 := HG9.out
  have v10 := HG10.out
  have v11 := HG11.out
  have v12 := HG12.out
  have v13 := HG13.out
  rw [rounds_succ]
  go_wp2_with fail
  clear u7 v7 u8 v8 u9 v9 u10 v10 u11 v11 u12 v12 u13 v13
  refine ((specValidV HV.out.2.1 HV.out.2.2.2 _ _ ((((HH.out.2.below HB1.out).more HB1.out.size).below (B := w1.heap.size) (by repeat' (first | refine Below.setCell ?_ (by first | (simp; done) | (simp; omega) | omega) _ | refine Below.alloc ?_ (by first | (simp; done) | (simp; omega) | omega) _ | exact Below.refl _ _))).more (by first | exact Nat.le_refl _ | (simp; done) | (simp; omega)))).mono (eqP_no HE.out)).mono ?_
  rintro e w2 ⟨rfl, hb⟩
  have HB2 : Hid (Below w.heap.size w w2) := by
    refine Lib.hid (Below.trans ?_ (hb.mono ?_))
    · repeat' (first | refine Below.setCell ?_ (by first | (simp; done) | (simp; omega) | omega) _ | refine Below.alloc ?_ (by first | (simp; done) | (simp; omega) | omega) _ | exact HB1.out)
    · have := HB1.out.size; first | (simp; done) | (simp; omega) | omega
  have HS2 := HB2.out.size
  obtain ⟨hc2, hf2⟩ := bcell hb
  have hz2_0 : w.heap.size < w2.heap.size := by have h1 := hb.size; first | (simp at h1; omega) | omega
  have HM2 : Hid (MSt w [boxA 28 7 w.heap.size [.int .i64 0, .int .i64 0, .int .i64 0, .string ⟨#[]⟩, .slice none 0 0, .slice none 0 0, .slice none 0 0]] w2) := Lib.hid (by first | exact HM1.out.later hb | exact (HM1.out.alloc _).later hb)
  clear hb HM1
  go_wp2_with fail
  refine (specErrorValue_any 4 _).mono ?_
  rintro e w3 ⟨rfl, hb⟩
  have HB3 : Hid (Below w.heap.size w w3) := by
    refine Lib.hid (Below.trans ?_ (hb.mono ?_))
    · repeat' (first | refine Below.setCell ?_ (by first | (simp; done) | (simp; omega) | omega) _ | refine Below.alloc ?_ (by first | (simp; done) | (simp; omega) | omega) _ | exact HB2.out)
    · have := HB2.out.size; first | (simp; done) | (simp; omega) | omega
  have HS3 := HB3.out.size
  obtain ⟨hc3, hf3⟩ := bcell hb
  have hz3_0 : w.heap.size < w3.heap.size := by have h1 := hb.size; first | (simp at h1; omega) | omega
  have HM3 : Hid (MSt w [boxA 28 7 w.heap.size [.int .i64 0, .int .i64 0, .int .i64 0, .string ⟨#[]⟩, .slice none 0 0, .slice none 0 0, .slice none 0 0]] w3) := Lib.hid (by first | exact HM2.out.later hb | exact (HM2.out.alloc _).later hb)
  clear hb HM2
  go_wp2_with fail
  have hbx := HM3.out.box
  have x0 := hbx.cellAt 0 (by simp)
  have x1 := hbx.cellAt 1 (by simp)
  have x2 := hbx.cellAt 2 (by simp)
  have x3 := hbx.cellAt 3 (by simp)
  have x4 := hbx.cellAt 4 (by simp)
  have x5 := hbx.cellAt 5 (by simp)
  have x6 := hbx.cellAt 6 (by simp)
  simp at x0 x1 x2 x3 x4 x5 x6
  clear hbx
  refine bodyPost_ret (v := .tuple #[.agg #[.int .i64 6, .int .i64 4, .int .i64 0, .string ⟨#[]⟩, .slice none 0 0, .slice none 0 0, .slice none 0 0], .bool true]) (by simp [results, Tryz.results26, go_sem, x0, x1, x2, x3, x4, x5, x6]) rfl ⟨rfl, ?_⟩
  repeat' (first | refine Below.setCell ?_ (by first | (simp; done) | (simp; omega) | omega) _ | refine Below.alloc ?_ (by first | (simp; done) | (simp; omega) | omega) _ | exact HB3.out)

set_option maxHeartbeats 1600000 in
set_option maxRecDepth 100000 in
theorem specFirst_berr {a b : Dt} (ha : IsVal a) (hb : IsVal b) (hwa : a.wt ≤ 1048576) (hwb : b.wt ≤ 1048576) (cs cs' : List Value) (w : World) (h : Rd w w.heap.size a cs) (h' : Rd w w.heap.size b cs') (g : Nat)
    (ho : w.ownsRow 0 28 7 (.slice (some ⟨g, 0, none⟩) 2 2) 2 (cs ++ cs')) (hf : Fine a) (he : b.SV) (hk : b.kd = 6) :
    Calls Tryz.prog 26 #[.slice (some ⟨g, 0, none⟩) 2 2] w fun e w' => e = .returned (.tuple #[.agg #[.int .i64 6, .int .i64 b.nm, .int .i64 0, .string ⟨#[]⟩, .slice none 0 0, .slice none 0 0, .slice none 0 0], .bool true]) ∧ Below w.heap.size w w' := by
  have HV := Lib.hid (And.intro ha (And.intro hb (And.intro hwa hwb)))
  have HH := Lib.hid (And.intro h h')
  obtain ⟨k, n, s, t, l, c, r, hl, hr⟩ := ha
  obtain ⟨k', n', s', t', l', c', r', hl', hr'⟩ := hb
  obtain ⟨A4, q4, A5, q5, A6, q6, rfl, -, -, -⟩ := Rd.ofValue h
  obtain ⟨A4', q4', A5', q5', A6', q6', rfl, -, -, -⟩ := Rd.ofValue h'
  simp only [List.length_map] at HH ho
  have hg := (ho.lt g rfl).2
  have hgj := ho.cellAt 0 (by omega)
  have HG0 : Hid (w.cell? ⟨g, 0, none⟩ = some (.int .i64 k)) := Lib.hid hgj
  clear hgj
  have hgj := ho.cellAt 1 (by omega)
  have HG1 : Hid (w.cell? ⟨g, 1, none⟩ = some (.int .i64 n)) := Lib.hid hgj
  clear hgj
  have hgj := ho.cellAt 2 (by omega)
  have HG2 : Hid (w.cell? ⟨g, 2, none⟩ = some (.int .i64 s)) := Lib.hid hgj
  clear hgj
  have hgj := ho.cellAt 3 (by omega)
  have HG3 : Hid (w.cell? ⟨g, 3, none⟩ = some (.string t)) := Lib.hid hgj
  clear hgj
  have hgj := ho.cellAt 4 (by omega)
  have HG4 : Hid (w.cell? ⟨g, 4, none⟩ = some (.slice A4 l.length q4)) := Lib.hid hgj
  clear hgj
  have hgj := ho.cellAt 5 (by omega)
  have HG5 : Hid (w.cell? ⟨g, 5, none⟩ = some (.slice A5 c.length q5)) := Lib.hid hgj
  clear hgj
  have hgj := ho.cellAt 6 (by omega)
  have HG6 : Hid (w.cell? ⟨g, 6, none⟩ = some (.slice A6 r.length q6)) := Lib.hid hgj
  clear hgj
  have hgj := ho.cellAt 7 (by omega)
  have HG7 : Hid (w.cell? ⟨g, 7, none⟩ = some (.int .i64 k')) := Lib.hid hgj
  clear hgj
  have hgj := ho.cellAt 8 (by omega)
  have HG8 : Hid (w.cell? ⟨g, 8, none⟩ = some (.int .i64 n')) := Lib.hid hgj
  clear hgj
  have hgj := ho.cellAt 9 (by omega)
  have HG9 : Hid (w.cell? ⟨g, 9, none⟩ = some (.int .i64 s')) := Lib.hid hgj
  clear hgj
  have hgj := ho.cellAt 10 (by omega)
  have HG10 : Hid (w.cell? ⟨g, 10, none⟩ = some (.string t')) := Lib.hid hgj
  clear hgj
  have hgj := ho.cellAt 11 (by omega)
  have HG11 : Hid (w.cell? ⟨g, 11, none⟩ = some (.slice A4' l'.length q4')) := Lib.hid hgj
  clear hgj
  have hgj := ho.cellAt 12 (by omega)
  have HG12 : Hid (w.cell? ⟨g, 12, none⟩ = some (.slice A5' c'.length q5')) := Lib.hid hgj
  clear hgj
  have hgj := ho.cellAt 13 (by omega)
  have HG13 : Hid (w.cell? ⟨g, 13, none⟩ = some (.slice A6' r'.length q6')) := Lib.hid hgj
  clear hgj
  clear ho h h' hl hr hl' hr' hwa hwb
  have HE := Lib.hid he
  clear he
  have hk : k' = 6 := hk
  subst hk
  simp only [Dt.nm]
  have HF := Lib.hid hf.1
  have hk : (k == 6) = false := by have := hf.2; simp only [Dt.kd] at this; simpa using this
  clear hf
  have HB0 := Lib.hid (Below.refl w.heap.size w)
  have HM0 := Lib.hid ((MSt.start w).new 28 7 #[.int .i64 0, .int .i64 0, .int .i64 0, .string ⟨#[]⟩, .slice none 0 0, .slice none 0 0, .slice none 0 0] rfl)
  have u0 := (((Below.refl w.heap.size w).alloc (Nat.le_refl _) (.cells #[.int .i64 0, .int .i64 0, .int .i64 0, .string ⟨#[]⟩, .slice none 0 0, .slice none 0 0, .slice none 0 0] 28)).cell (p := ⟨g, 0, none⟩) hg).trans HG0.out
  have u1 := (((Below.refl w.heap.size w).alloc (Nat.le_refl _) (.cells #[.int .i64 0, .int .i64 0, .int .i64 0, .string ⟨#[]⟩, .slice none 0 0, .slice none 0 0, .slice none 0 0] 28)).cell (p := ⟨g, 1, none⟩) hg).trans HG1.out
  have u2 := (((Below.refl w.heap.size w).alloc (Nat.le_refl _) (.cells #[.int .i64 0, .int .i64 0, .int .i64 0, .string ⟨#[]⟩, .slice none 0 0, .slice none 0 0, .slice none 0 0] 28)).cell (p := ⟨g, 2, none⟩) hg).trans HG2.out
  have u3 := (((Below.refl w.heap.size w).alloc (Nat.le_refl _) (.cells #[.int .i64 0, .int .i64 0, .int .i64 0, .string ⟨#[]⟩, .slice none 0 0, .slice none 0 0, .slice none 0 0] 28)).cell (p := ⟨g, 3, none⟩) hg).trans HG3.out
  have u4 := (((Below.refl w.heap.size w).alloc (Nat.le_refl _) (.cells #[.int .i64 0, .int .i64 0, .int .i64 0, .string ⟨#[]⟩, .slice none 0 0, .slice none 0 0, .slice none 0 0] 28)).cell (p := ⟨g, 4, none⟩) hg).trans HG4.out
  have u5 := (((Below.refl w.heap.size w).alloc (Nat.le_refl _) (.cells #[.int .i64 0, .int .i64 0, .int .i64 0, .string ⟨#[]⟩, .slice none 0 0, .slice none 0 0, .slice none 0 0] 28)).cell (p := ⟨g, 5, none⟩) hg).trans HG5.out
  have u6 := (((Below.refl w.heap.size w).alloc (Nat.le_refl _) (.cells #[.int .i64 0, .int .i64 0, .int .i64 0, .string ⟨#[]⟩, .slice none 0 0, .slice none 0 0, .slice none 0 0] 28)).cell (p := ⟨g, 6, none⟩) hg).trans HG6.out
  have hz : g < (w.alloc (.cells #[.int .i64 0, .int .i64 0, .int .i64 0, .string ⟨#[]⟩, .slice none 0 0, .slice none 0 0, .slice none 0 0] 28)).heap.size := by simp; omega
  go_enter Tryz.func26, Tryz.ntmps26
  go_wp2_with fail
  refine wp_loop_rounds 3 ?_
  rw [rounds_succ]
  go_wp2_with fail
  clear hz u0 u1 u2 u3 u4 u5 u6
  refine ((specValidV HV.out.1 HV.out.2.2.1 _ _ ((((HH.out.1.below HB0.out).more HB0.out.size).below (B := w.heap.size) (by repeat' (first | refine Below.setCell ?_ (by first | (simp; done) | (simp; omega) | omega) _ | refine Below.alloc ?_ (by first | (simp; done) | (simp; omega) | omega) _ | exact Below.refl _ _))).more (by first | exact Nat.le_refl _ | (simp; done) | (simp; omega)))).mono (eqP_yes HF.out)).mono ?_
  rintro e w1 ⟨rfl, hb⟩
  have HB1 : Hid (Below w.heap.size w w1) := by
    refine Lib.hid (Below.trans ?_ (hb.mono ?_))
    · repeat' (first | refine Below.setCell ?_ (by first | (simp; done) | (simp; omega) | omega) _ | refine Below.alloc ?_ (by first | (simp; done) | (simp; omega) | omega) _ | exact Below.refl _ _)
    · first | exact Nat.le_refl _ | (simp; done) | (simp; omega)
  have HS1 := HB1.out.size
  obtain ⟨hc1, hf1⟩ := bcell hb
  have hz1_0 : w.heap.size < w1.heap.size := by have h1 := hb.size; first | (simp at h1; omega) | omega
  have HM1 : Hid (MSt w [boxA 28 7 w.heap.size [.int .i64 0, .int .i64 0, .int .i64 0, .string ⟨#[]⟩, .slice none 0 0, .slice none 0 0, .slice none 0 0]] w1) := Lib.hid (by first | exact HM0.out.later hb | exact (HM0.out.alloc _).later hb)
  clear hb HM0
  have u0 := (HB1.out.cell (p := ⟨g, 0, none⟩) hg).trans HG0.out
  have u1 := (HB1.out.cell (p := ⟨g, 1, none⟩) hg).trans HG1.out
  have v0 := HG0.out
  have v1 := HG1.out
  go_wp2_with fail
  clear u0 u1 v0 v1
  have u7 := (HB1.out.cell (p := ⟨g, 7, none⟩) hg).trans HG7.out
  have u8 := (HB1.out.cell (p := ⟨g, 8, none⟩) hg).trans HG8.out
  have u9 := (HB1.out.cell (p := ⟨g, 9, none⟩) hg).trans HG9.out
  have u10 := (HB1.out.cell (p := ⟨g, 10, none⟩) hg).trans HG10.out
  have u11 := (HB1.out.cell (p := ⟨g, 11, none⟩) hg).trans HG11.out
  have u12 := (HB1.out.cell (p := ⟨g, 12, none⟩) hg).trans HG12.out
  have u13 := (HB1.out.cell (p := ⟨g, 13, none⟩) hg).trans HG13.out
  have hgw : g < w1.heap.size := by omega
  have v7 := HG7.out
  have v8 := HG8.out
  have v9 := HG9.out
  have v10 := HG10.out
  have v11 := HG11.out
  have v12 := HG12.out
  have v13 := HG13.out
  rw [rounds_succ]
  go_wp2_with fail
  clear u7 v7 u8 v8 u9 v9 u10 v10 u11 v11 u12 v12 u13 v13
  refine ((specValidV HV.out.2.1 HV.out.2.2.2 _ _ ((((HH.out.2.below HB1.out).more HB1.out.size).below (B := w1.heap.size) (by repeat' (first | refine Below.setCell ?_ (by first | (simp; done) | (simp; omega) | omega) _ | refine Below.alloc ?_ (by first | (simp; done) | (simp; omega) | omega) _ | exact Below.refl _ _))).more (by first | exact Nat.le_refl _ | (simp; done) | (simp; omega)))).mono (eqP_yes HE.out)).mono ?_
  rintro e w2 ⟨rfl, hb⟩
  have HB2 : Hid (Below w.heap.size w w2) := by
    refine Lib.hid (Below.trans ?_ (hb.mono ?_))
    · repeat' (first | refine Below.setCell ?_ (by first | (simp; done) | (simp; omega) | omega) _ | refine Below.alloc ?_ (by first | (simp; done) | (simp; omega) | omega) _ | exact HB1.out)
    · have := HB1.out.size; first | (simp; done) | (simp; omega) | omega
  have HS2 := HB2.out.size
  obtain ⟨hc2, hf2⟩ := bcell hb
  have hz2_0 : w.heap.size < w2.heap.size := by have h1 := hb.size; first | (simp at h1; omega) | omega
  have HM2 : Hid (MSt w [boxA 28 7 w.heap.size [.int .i64 0, .int .i64 0, .int .i64 0, .string ⟨#[]⟩, .slice none 0 0, .slice none 0 0, .slice none 0 0]] w2) := Lib.hid (by first | exact HM1.out.later hb | exact (HM1.out.alloc _).later hb)
  clear hb HM1
  have u7 := (HB2.out.cell (p := ⟨g, 7, none⟩) hg).trans HG7.out
  have u8 := (HB2.out.cell (p := ⟨g, 8, none⟩) hg).trans HG8.out
  have v7 := HG7.out
  have v8 := HG8.out
  go_wp2_with fail
  clear u7 u8 v7 v8
  refine (specErrorValue_any n' _).mono ?_
  rintro e w3 ⟨rfl, hb⟩
  have HB3 : Hid (Below w.heap.size w w3) := by
    refine Lib.hid (Below.trans ?_ (hb.mono ?_))
    · repeat' (first | refine Below.setCell ?_ (by first | (simp; done) | (simp; omega) | omega) _ | refine Below.alloc ?_ (by first | (simp; done) | (simp; omega) | omega) _ | exact HB2.out)
    · have := HB2.out.size; first | (simp; done) | (simp; omega) | omega
  have HS3 := HB3.out.size
  obtain ⟨hc3, hf3⟩ := bcell hb
  have hz3_0 : w.heap.size < w3.heap.size := by have h1 := hb.size; first | (simp at h1; omega) | omega
  have HM3 : Hid (MSt w [boxA 28 7 w.heap.size [.int .i64 0, .int .i64 0, .int .i64 0, .string ⟨#[]⟩, .slice none 0 0, .slice none 0 0, .slice none 0 0]] w3) := Lib.hid (by first | exact HM2.out.later hb | exact (HM2.out.alloc _).later hb)
  clear hb HM2
  go_wp2_with fail
  have hbx := HM3.out.box
  have x0 := hbx.cellAt 0 (by simp)
  have x1 := hbx.cellAt 1 (by simp)
  have x2 := hbx.cellAt 2 (by simp)
  have x3 := hbx.cellAt 3 (by simp)
  have x4 := hbx.cellAt 4 (by simp)
  have x5 := hbx.cellAt 5 (by simp)
  have x6 := hbx.cellAt 6 (by simp)
  simp at x0 x1 x2 x3 x4 x5 x6
  clear hbx
  refine bodyPost_ret (v := .tuple #[.agg #[.int .i64 6, .int .i64 n', .int .i64 0, .string ⟨#[]⟩, .slice none 0 0, .slice none 0 0, .slice none 0 0], .bool true]) (by simp [results, Tryz.results26, go_sem, x0, x1, x2, x3, x4, x5, x6]) rfl ⟨rfl, ?_⟩
  repeat' (first | refine Below.setCell ?_ (by first | (simp; done) | (simp; omega) | omega) _ | refine Below.alloc ?_ (by first | (simp; done) | (simp; omega) | omega) _ | exact HB3.out)

set_option maxHeartbeats 1600000 in
set_option maxRecDepth 100000 in
theorem specFirst_none {a b : Dt} (ha : IsVal a) (hb : IsVal b) (hwa : a.wt ≤ 1048576) (hwb : b.wt ≤ 1048576) (cs cs' : List Value) (w : World) (h : Rd w w.heap.size a cs) (h' : Rd w w.heap.size b cs') (g : Nat)
    (ho : w.ownsRow 0 28 7 (.slice (some ⟨g, 0, none⟩) 2 2) 2 (cs ++ cs')) (hf : Fine a) (hf2 : Fine b) :
    Calls Tryz.prog 26 #[.slice (some ⟨g, 0, none⟩) 2 2] w fun e w' => e = .returned (.tuple #[.agg #[.int .i64 0, .int .i64 0, .int .i64 0, .string ⟨#[]⟩, .slice none 0 0, .slice none 0 0, .slice none 0 0], .bool false]) ∧ Below w.heap.size w w' := by
  have HV := Lib.hid (And.intro ha (And.intro hb (And.intro hwa hwb)))
  have HH := Lib.hid (And.intro h h')
  obtain ⟨k, n, s, t, l, c, r, hl, hr⟩ := ha
  obtain ⟨k', n', s', t', l', c', r', hl', hr'⟩ := hb
  obtain ⟨A4, q4, A5, q5, A6, q6, rfl, -, -, -⟩ := Rd.ofValue h
  obtain ⟨A4', q4', A5', q5', A6', q6', rfl, -, -, -⟩ := Rd.ofValue h'
  simp only [List.length_map] at HH ho
  have hg := (ho.lt g rfl).2
  have hgj := ho.cellAt 0 (by omega)
  have HG0 : Hid (w.cell? ⟨g, 0, none⟩ = some (.int .i64 k)) := Lib.hid hgj
  clear hgj
  have hgj := ho.cellAt 1 (by omega)
  have HG1 : Hid (w.cell? ⟨g, 1, none⟩ = some (.int .i64 n)) := Lib.hid hgj
  clear hgj
  have hgj := ho.cellAt 2 (by omega)
  have HG2 : Hid (w.cell? ⟨g, 2, none⟩ = some (.int .i64 s)) := Lib.hid hgj
  clear hgj
  have hgj := ho.cellAt 3 (by omega)
  have HG3 : Hid (w.cell? ⟨g, 3, none⟩ = some (.string t)) := Lib.hid hgj
  clear hgj
  have hgj := ho.cellAt 4 (by omega)
  have HG4 : Hid (w.cell? ⟨g, 4, none⟩ = some (.slice A4 l.length q4)) := Lib.hid hgj
  clear hgj
  have hgj := ho.cellAt 5 (by omega)
  have HG5 : Hid (w.cell? ⟨g, 5, none⟩ = some (.slice A5 c.length q5)) := Lib.hid hgj
  clear hgj
  have hgj := ho.cellAt 6 (by omega)
  have HG6 : Hid (w.cell? ⟨g, 6, none⟩ = some (.slice A6 r.length q6)) := Lib.hid hgj
  clear hgj
  have hgj := ho.cellAt 7 (by omega)
  have HG7 : Hid (w.cell? ⟨g, 7, none⟩ = some (.int .i64 k')) := Lib.hid hgj
  clear hgj
  have hgj := ho.cellAt 8 (by omega)
  have HG8 : Hid (w.cell? ⟨g, 8, none⟩ = some (.int .i64 n')) := Lib.hid hgj
  clear hgj
  have hgj := ho.cellAt 9 (by omega)
  have HG9 : Hid (w.cell? ⟨g, 9, none⟩ = some (.int .i64 s')) := Lib.hid hgj
  clear hgj
  have hgj := ho.cellAt 10 (by omega)
  have HG10 : Hid (w.cell? ⟨g, 10, none⟩ = some (.string t')) := Lib.hid hgj
  clear hgj
  have hgj := ho.cellAt 11 (by omega)
  have HG11 : Hid (w.cell? ⟨g, 11, none⟩ = some (.slice A4' l'.length q4')) := Lib.hid hgj
  clear hgj
  have hgj := ho.cellAt 12 (by omega)
  have HG12 : Hid (w.cell? ⟨g, 12, none⟩ = some (.slice A5' c'.length q5')) := Lib.hid hgj
  clear hgj
  have hgj := ho.cellAt 13 (by omega)
  have HG13 : Hid (w.cell? ⟨g, 13, none⟩ = some (.slice A6' r'.length q6')) := Lib.hid hgj
  clear hgj
  clear ho h h' hl hr hl' hr' hwa hwb
  have HF := Lib.hid hf.1
  have hk : (k == 6) = false := by have := hf.2; simp only [Dt.kd] at this; simpa using this
  clear hf
  have HF2 := Lib.hid hf2.1
  have hk2 : (k' == 6) = false := by have := hf2.2; simp only [Dt.kd] at this; simpa using this
  clear hf2
  have HB0 := Lib.hid (Below.refl w.heap.size w)
  have HM0 := Lib.hid ((MSt.start w).new 28 7 #[.int .i64 0, .int .i64 0, .int .i64 0, .string ⟨#[]⟩, .slice none 0 0, .slice none 0 0, .slice none 0 0] rfl)
  have u0 := (((Below.refl w.heap.size w).alloc (Nat.le_refl _) (.cells #[.int .i64 0, .int .i64 0, .int .i64 0, .string ⟨#[]⟩, .slice none 0 0, .slice none 0 0, .slice none 0 0] 28)).cell (p := ⟨g, 0, none⟩) hg).trans HG0.out
  have u1 := (((Below.refl w.heap.size w).alloc (Nat.le_refl _) (.cells #[.int .i64 0, .int .i64 0, .int .i64 0, .string ⟨#[]⟩, .slice none 0 0, .slice none 0 0, .slice none 0 0] 28)).cell (p := ⟨g, 1, none⟩) hg).trans HG1.out
  have u2 := (((Below.refl w.heap.size w).alloc (Nat.le_refl _) (.cells #[.int .i64 0, .int .i64 0, .int .i64 0, .string ⟨#[]⟩, .slice none 0 0, .slice none 0 0, .slice none 0 0] 28)).cell (p := ⟨g, 2, none⟩) hg).trans HG2.out
  have u3 := (((Below.refl w.heap.size w).alloc (Nat.le_refl _) (.cells #[.int .i64 0, .int .i64 0, .int .i64 0, .string ⟨#[]⟩, .slice none 0 0, .slice none 0 0, .slice none 0 0] 28)).cell (p := ⟨g, 3, none⟩) hg).trans HG3.out
  have u4 := (((Below.refl w.heap.size w).alloc (Nat.le_refl _) (.cells #[.int .i64 0, .int .i64 0, .int .i64 0, .string ⟨#[]⟩, .slice none 0 0, .slice none 0 0, .slice none 0 0] 28)).cell (p := ⟨g, 4, none⟩) hg).trans HG4.out
  have u5 := (((Below.refl w.heap.size w).alloc (Nat.le_refl _) (.cells #[.int .i64 0, .int .i64 0, .int .i64 0, .string ⟨#[]⟩, .slice none 0 0, .slice none 0 0, .slice none 0 0] 28)).cell (p := ⟨g, 5, none⟩) hg).trans HG5.out
  have u6 := (((Below.refl w.heap.size w).alloc (Nat.le_refl _) (.cells #[.int .i64 0, .int .i64 0, .int .i64 0, .string ⟨#[]⟩, .slice none 0 0, .slice none 0 0, .slice none 0 0] 28)).cell (p := ⟨g, 6, none⟩) hg).trans HG6.out
  have hz : g < (w.alloc (.cells #[.int .i64 0, .int .i64 0, .int .i64 0, .string ⟨#[]⟩, .slice none 0 0, .slice none 0 0, .slice none 0 0] 28)).heap.size := by simp; omega
  go_enter Tryz.func26, Tryz.ntmps26
  go_wp2_with fail
  refine wp_loop_rounds 3 ?_
  rw [rounds_succ]
  go_wp2_with fail
  clear hz u0 u1 u2 u3 u4 u5 u6
  refine ((specValidV HV.out.1 HV.out.2.2.1 _ _ ((((HH.out.1.below HB0.out).more HB0.out.size).below (B := w.heap.size) (by repeat' (first | refine Below.setCell ?_ (by first | (simp; done) | (simp; omega) | omega) _ | refine Below.alloc ?_ (by first | (simp; done) | (simp; omega) | omega) _ | exact Below.refl _ _))).more (by first | exact Nat.le_refl _ | (simp; done) | (simp; omega)))).mono (eqP_yes HF.out)).mono ?_
  rintro e w1 ⟨rfl, hb⟩
  have HB1 : Hid (Below w.heap.size w w1) := by
    refine Lib.hid (Below.trans ?_ (hb.mono ?_))
    · repeat' (first | refine Below.setCell ?_ (by first | (simp; done) | (simp; omega) | omega) _ | refine Below.alloc ?_ (by first | (simp; done) | (simp; omega) | omega) _ | exact Below.refl _ _)
    · first | exact Nat.le_refl _ | (simp; done) | (simp; omega)
  have HS1 := HB1.out.size
  obtain ⟨hc1, hf1⟩ := bcell hb
  have hz1_0 : w.heap.size < w1.heap.size := by have h1 := hb.size; first | (simp at h1; omega) | omega
  have HM1 : Hid (MSt w [boxA 28 7 w.heap.size [.int .i64 0, .int .i64 0, .int .i64 0, .string ⟨#[]⟩, .slice none 0 0, .slice none 0 0, .slice none 0 0]] w1) := Lib.hid (by first | exact HM0.out.later hb | exact (HM0.out.alloc _).later hb)
  clear hb HM0
  have u0 := (HB1.out.cell (p := ⟨g, 0, none⟩) hg).trans HG0.out
  have u1 := (HB1.out.cell (p := ⟨g, 1, none⟩) hg).trans HG1.out
  have v0 := HG0.out
  have v1 := HG1.out
  go_wp2_with fail
  clear u0 u1 v0 v1
  have u7 := (HB1.out.cell (p := ⟨g, 7, none⟩) hg).trans HG7.out
  have u8 := (HB1.out.cell (p := ⟨g, 8, none⟩) hg).trans HG8.out
  have u9 := (HB1.out.cell (p := ⟨g, 9, none⟩) hg).trans HG9.out
  have u10 := (HB1.out.cell (p := ⟨g, 10, none⟩) hg).trans HG10.out
  have u11 := (HB1.out.cell (p := ⟨g, 11, none⟩) hg).trans HG11.out
  have u12 := (HB1.out.cell (p := ⟨g, 12, none⟩) hg).trans HG12.out
  have u13 := (HB1.out.cell (p := ⟨g, 13, none⟩) hg).trans HG13.out
  have hgw : g < w1.heap.size := by omega
  have v7 := HG7.out
  have v8 := HG8.out
  have v9 := HG9.out
  have v10 := HG10.out
  have v11 := HG11.out
  have v12 := HG12.out
  have v13 := HG13.out
  rw [rounds_succ]
  go_wp2_with fail
  clear u7 v7 u8 v8 u9 v9 u10 v10 u11 v11 u12 v12 u13 v13
  refine ((specValidV HV.out.2.1 HV.out.2.2.2 _ _ ((((HH.out.2.below HB1.out).more HB1.out.size).below (B := w1.heap.size) (by repeat' (first | refine Below.setCell ?_ (by first | (simp; done) | (simp; omega) | omega) _ | refine Below.alloc ?_ (by first | (simp; done) | (simp; omega) | omega) _ | exact Below.refl _ _))).more (by first | exact Nat.le_refl _ | (simp; done) | (simp; omega)))).mono (eqP_yes HF2.out)).mono ?_
  rintro e w2 ⟨rfl, hb⟩
  have HB2 : Hid (Below w.heap.size w w2) := by
    refine Lib.hid (Below.trans ?_ (hb.mono ?_))
    · repeat' (first | refine Below.setCell ?_ (by first | (simp; done) | (simp; omega) | omega) _ | refine Below.alloc ?_ (by first | (simp; done) | (simp; omega) | omega) _ | exact HB1.out)
    · have := HB1.out.size; first | (simp; done) | (simp; omega) | omega
  have HS2 := HB2.out.size
  obtain ⟨hc2, hf2⟩ := bcell hb
  have hz2_0 : w.heap.size < w2.heap.size := by have h1 := hb.size; first | (simp at h1; omega) | omega
  have HM2 : Hid (MSt w [boxA 28 7 w.heap.size [.int .i64 0, .int .i64 0, .int .i64 0, .string ⟨#[]⟩, .slice none 0 0, .slice none 0 0, .slice none 0 0]] w2) := Lib.hid (by first | exact HM1.out.later hb | exact (HM1.out.alloc _).later hb)
  clear hb HM1
  have u7 := (HB2.out.cell (p := ⟨g, 7, none⟩) hg).trans HG7.out
  have u8 := (HB2.out.cell (p := ⟨g, 8, none⟩) hg).trans HG8.out
  have v7 := HG7.out
  have v8 := HG8.out
  go_wp2_with fail
  clear u7 u8 v7 v8
  rw [rounds_succ]
  go_wp2_with fail
  have hbx := HM2.out.box
  have x0 := hbx.cellAt 0 (by simp)
  have x1 := hbx.cellAt 1 (by simp)
  have x2 := hbx.cellAt 2 (by simp)
  have x3 := hbx.cellAt 3 (by simp)
  have x4 := hbx.cellAt 4 (by simp)
  have x5 := hbx.cellAt 5 (by simp)
  have x6 := hbx.cellAt 6 (by simp)
  simp at x0 x1 x2 x3 x4 x5 x6
  clear hbx
  refine bodyPost_ret (v := .tuple #[.agg #[.int .i64 0, .int .i64 0, .int .i64 0, .string ⟨#[]⟩, .slice none 0 0, .slice none 0 0, .slice none 0 0], .bool false]) (by simp [results, Tryz.results26, go_sem, x0, x1, x2, x3, x4, x5, x6]) rfl ⟨rfl, ?_⟩
  repeat' (first | refine Below.setCell ?_ (by first | (simp; done) | (simp; omega) | omega) _ | refine Below.alloc ?_ (by first | (simp; done) | (simp; omega) | omega) _ | exact HB2.out)

end Go.Proofs.YtehipnbielgbeaaGreat
