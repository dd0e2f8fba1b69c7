/-
  Texts that the proof rests on, put together: HasEffectLaw, EqES.
-/
import Derived.Test.YtaanfdccnnfceaaMgW21
import Derived.Test.YtaanfdccnnfceaaMgW7
import Derived.Test.YtaanfdccnnfceaaMgW12
import Derived.Test.YtaanfdccnnfceaaMgW18
/-
  The law FnExactHasEffect. (Written by genvlaw.py.)
-/

namespace Go.Proofs.Ytaanfdccnnfceaa
open Go.RowKit
set_option linter.unusedVariables false

theorem EqP.ansE {P : Prop} {w : World} {a : Bool} (ha : a = @decide P (Classical.propDecidable P)) (e : Ending) (w' : World) (h : EqP P w e w') : e = .returned (.bool a) ∧ Below w.heap.size w w' := by
  obtain ⟨b, rfl, hb, hbel⟩ := h
  have h2 : (a = true ↔ P) := by rw [ha]; exact @decide_eq_true_iff P (Classical.propDecidable P)
  have h3 := hb.trans h2.symm
  refine ⟨?_, hbel⟩
  cases a <;> cases b <;> simp_all
set_option maxHeartbeats 1600000 in
set_option maxRecDepth 100000 in
theorem fnExactHasEffect_walk (w : World) {d0 : Dt} (hd0 : IsExp d0) (hok0 : d0.Ok) (cs0 : List Value) (hr0 : Rd w w.heap.size d0 cs0) :
    Calls Try.prog 9 #[.agg cs0.toArray] w fun e w' => e = .returned (.bool true) ∧ Below w.heap.size w w' := by
  obtain ⟨y0_a0, y1_a0, y2_a0, y3_a0, n3_a0, c3_a0, rfl⟩ := hd0.form hr0
  have HD0 := Lib.hid (And.intro hd0 (And.intro hok0 hr0))
  clear hd0 hok0 hr0
  go_enter Try.func9, Try.ntmps9
  have HB0 := Lib.hid (Below.refl w.heap.size w)
  go_wp2_with fail
  refine (szExpr_any HD0.out.1 _ 1048576 _ ((((HD0.out.2.2.below HB0.out).more HB0.out.size).below (B := w.heap.size) (by repeat' (first | refine Below.setCell ?_ (by first | (simp; done) | (simp; omega) | omega) _ | refine Below.alloc ?_ (by first | (simp; done) | (simp; omega) | omega) _ | refine Below.drew ?_ | exact Below.refl _ _))).more (by first | exact Nat.le_refl _ | (simp; done) | (simp; omega))) HD0.out.2.1 (by omega) (by omega)).mono ?_
  rintro e w1 ⟨r0, rfl, hr0, hb⟩
  have HR0 := Lib.hid hr0
  clear hr0
  have HS : Hid (Below w.heap.size w w1) := by
    refine Lib.hid (Below.trans ?_ (hb.mono ?_))
    · repeat' (first | refine Below.setCell ?_ (by first | (simp; done) | (simp; omega) | omega) _ | refine Below.alloc ?_ (by first | (simp; done) | (simp; omega) | omega) _ | refine Below.drew ?_ | exact Below.refl _ _)
    · first | exact Nat.le_refl _ | (simp; done) | (simp; omega)
  have HN1 := HS.out.size
  have HB1 := Lib.hid (HB0.out.trans (HS.out.mono HB0.out.size))
  have HM1 := HB1.out.size
  have hx := (own_keep ((box_new (e := 35) (s := 4) (w) #[.int .i64 y0_a0, .int .i64 y1_a0, .string y2_a0, .slice y3_a0 n3_a0 c3_a0] rfl).1) fun j hj => hb.block j (by injection hj with hj; have hj : (w).heap.size = j := hj; subst hj; first | (simp; done) | (simp; omega)))
  have HXA0_1 := Lib.hid hx
  clear hx
  obtain ⟨hc1, hf1⟩ := bcell hb
  have hz1_0 : w.heap.size < w1.heap.size := by have h1 := hb.size; first | (simp at h1; omega) | omega
  clear hb HS
  by_cases hng : r0 < 0
  · go_wp2_with fail
    go_ret
    exact ⟨rfl, HB1.out⟩
  · obtain ⟨l0, rfl⟩ : ∃ l : Nat, r0 = l := ⟨r0.toNat, by omega⟩
    have hle0 : l0 ≤ 1048576 := by have := HR0.out.2; omega
    have hwt0 : d0.wt ≤ 1048576 := by have := HR0.out.1 (by omega); omega
    clear hng
    obtain ⟨ans, hans⟩ : ∃ ans : Bool, ans = @decide (∃ y ∈ d0.enods, efP y) (Classical.propDecidable _) := ⟨_, rfl⟩
    have HANS := Lib.hid hans
    clear hans
    have hne : (ans != ans) = false := by cases ans <;> rfl
    go_wp2_with fail
    refine (toExpr_any HD0.out.1 _ _ ((((HD0.out.2.2.below HB1.out).more HB1.out.size).below (B := w1.heap.size) (by repeat' (first | refine Below.setCell ?_ (by first | (simp; done) | (simp; omega) | omega) _ | refine Below.alloc ?_ (by first | (simp; done) | (simp; omega) | omega) _ | refine Below.drew ?_ | exact Below.refl _ _))).more (by first | exact Nat.le_refl _ | (simp; done) | (simp; omega))) hwt0).mono ?_
    rintro e w2 ⟨cs, fp, rfl, how, _, hb⟩
    have hrd := how.read
    clear how
    obtain ⟨y0_b2, y1_b2, y2_b2, y3_b2, n3_b2, c3_b2, rfl⟩ := HD0.out.1.form hrd
    have HO2_2 := Lib.hid hrd
    clear hrd
    have HS : Hid (Below w1.heap.size w1 w2) := by
      refine Lib.hid (Below.trans ?_ (hb.mono ?_))
      · repeat' (first | refine Below.setCell ?_ (by first | (simp; done) | (simp; omega) | omega) _ | refine Below.alloc ?_ (by first | (simp; done) | (simp; omega) | omega) _ | refine Below.drew ?_ | exact Below.refl _ _)
      · first | exact Nat.le_refl _ | (simp; done) | (simp; omega)
    have HN2 := HS.out.size
    have HB2 := Lib.hid (HB1.out.trans (HS.out.mono HB1.out.size))
    have HM2 := HB2.out.size
    have HXA0_2 := Lib.hid (own_keep HXA0_1.out fun j hj => HS.out.block j (HXA0_1.out.lt j hj).2)
    clear HXA0_1
    obtain ⟨hc2, hf2⟩ := bcell hb
    have hz2_0 : w.heap.size < w2.heap.size := by have h1 := hb.size; first | (simp at h1; omega) | omega
    clear hb HS
    go_wp2_with fail
    refine ((SEff_any HD0.out.1 hwt0 _ _ (((HO2_2.out).below (B := w2.heap.size) (by repeat' (first | refine Below.setCell ?_ (by first | (simp; done) | (simp; omega) | omega) _ | refine Below.alloc ?_ (by first | (simp; done) | (simp; omega) | omega) _ | refine Below.drew ?_ | exact Below.refl _ _))).more (by first | exact Nat.le_refl _ | (simp; done) | (simp; omega)))).mono (EqP.ansE HANS.out)).mono ?_
    rintro e w3 ⟨rfl, hb⟩
    have HS : Hid (Below w2.heap.size w2 w3) := by
      refine Lib.hid (Below.trans ?_ (hb.mono ?_))
      · repeat' (first | refine Below.setCell ?_ (by first | (simp; done) | (simp; omega) | omega) _ | refine Below.alloc ?_ (by first | (simp; done) | (simp; omega) | omega) _ | refine Below.drew ?_ | exact Below.refl _ _)
      · first | exact Nat.le_refl _ | (simp; done) | (simp; omega)
    have HN3 := HS.out.size
    have HB3 := Lib.hid (HB2.out.trans (HS.out.mono HB2.out.size))
    have HM3 := HB3.out.size
    have HO2_3 := Lib.hid ((HO2_2.out.below HS.out).more HS.out.size)
    clear HO2_2
    have HXA0_3 := Lib.hid (own_keep HXA0_2.out fun j hj => HS.out.block j (HXA0_2.out.lt j hj).2)
    clear HXA0_2
    obtain ⟨hc3, hf3⟩ := bcell hb
    have hz3_0 : w.heap.size < w3.heap.size := by have h1 := hb.size; first | (simp at h1; omega) | omega
    clear hb HS
    go_wp2_with fail
    refine (toExpr_any HD0.out.1 _ _ ((((HD0.out.2.2.below HB3.out).more HB3.out.size).below (B := w3.heap.size) (by repeat' (first | refine Below.setCell ?_ (by first | (simp; done) | (simp; omega) | omega) _ | refine Below.alloc ?_ (by first | (simp; done) | (simp; omega) | omega) _ | refine Below.drew ?_ | exact Below.refl _ _))).more (by first | exact Nat.le_refl _ | (simp; done) | (simp; omega))) hwt0).mono ?_
    rintro e w4 ⟨cs, fp, rfl, how, _, hb⟩
    have hrd := how.read
    clear how
    obtain ⟨y0_b4, y1_b4, y2_b4, y3_b4, n3_b4, c3_b4, rfl⟩ := HD0.out.1.form hrd
    have HO4_4 := Lib.hid hrd
    clear hrd
    have HS : Hid (Below w3.heap.size w3 w4) := by
      refine Lib.hid (Below.trans ?_ (hb.mono ?_))
      · repeat' (first | refine Below.setCell ?_ (by first | (simp; done) | (simp; omega) | omega) _ | refine Below.alloc ?_ (by first | (simp; done) | (simp; omega) | omega) _ | refine Below.drew ?_ | exact Below.refl _ _)
      · first | exact Nat.le_refl _ | (simp; done) | (simp; omega)
    have HN4 := HS.out.size
    have HB4 := Lib.hid (HB3.out.trans (HS.out.mono HB3.out.size))
    have HM4 := HB4.out.size
    have HO2_4 := Lib.hid ((HO2_3.out.below HS.out).more HS.out.size)
    clear HO2_3
    have HXA0_4 := Lib.hid (own_keep HXA0_3.out fun j hj => HS.out.block j (HXA0_3.out.lt j hj).2)
    clear HXA0_3
    obtain ⟨hc4, hf4⟩ := bcell hb
    have hz4_0 : w.heap.size < w4.heap.size := by have h1 := hb.size; first | (simp at h1; omega) | omega
    clear hb HS
    go_wp2_with fail
    refine ((implHasEffect_any HD0.out.1 hwt0 _ _ (((HO4_4.out).below (B := w4.heap.size) (by repeat' (first | refine Below.setCell ?_ (by first | (simp; done) | (simp; omega) | omega) _ | refine Below.alloc ?_ (by first | (simp; done) | (simp; omega) | omega) _ | refine Below.drew ?_ | exact Below.refl _ _))).more (by first | exact Nat.le_refl _ | (simp; done) | (simp; omega)))).mono (EqP.ansE HANS.out)).mono ?_
    rintro e w5 ⟨rfl, hb⟩
    have HS : Hid (Below w4.heap.size w4 w5) := by
      refine Lib.hid (Below.trans ?_ (hb.mono ?_))
      · repeat' (first | refine Below.setCell ?_ (by first | (simp; done) | (simp; omega) | omega) _ | refine Below.alloc ?_ (by first | (simp; done) | (simp; omega) | omega) _ | refine Below.drew ?_ | exact Below.refl _ _)
      · first | exact Nat.le_refl _ | (simp; done) | (simp; omega)
    have HN5 := HS.out.size
    have HB5 := Lib.hid (HB4.out.trans (HS.out.mono HB4.out.size))
    have HM5 := HB5.out.size
    have HO2_5 := Lib.hid ((HO2_4.out.below HS.out).more HS.out.size)
    clear HO2_4
    have HO4_5 := Lib.hid ((HO4_4.out.below HS.out).more HS.out.size)
    clear HO4_4
    have HXA0_5 := Lib.hid (own_keep HXA0_4.out fun j hj => HS.out.block j (HXA0_4.out.lt j hj).2)
    clear HXA0_4
    have hx := (own_keep ((box_new (e := 26) (s := 4) (w4) #[.int .i64 y0_b4, .int .i64 y1_b4, .string y2_b4, .slice y3_b4 n3_b4 c3_b4] rfl).1) fun j hj => hb.block j (by injection hj with hj; have hj : (w4).heap.size = j := hj; subst hj; first | (simp; done) | (simp; omega)))
    have HXX0_5 := Lib.hid hx
    clear hx
    obtain ⟨hc5, hf5⟩ := bcell hb
    have hz5_0 : w.heap.size < w5.heap.size := by have h1 := hb.size; first | (simp at h1; omega) | omega
    have hz5_1 : w4.heap.size < w5.heap.size := by have h1 := hb.size; first | (simp at h1; omega) | omega
    clear hb HS
    go_wp2_with fail
    have X0c0 : w5.cell? ⟨w4.heap.size, 0, none⟩ = some (.int .i64 y0_b4) := HXX0_5.out.cellAt 0 (by omega)
    have X0c1 : w5.cell? ⟨w4.heap.size, 1, none⟩ = some (.int .i64 y1_b4) := HXX0_5.out.cellAt 1 (by omega)
    have X0c2 : w5.cell? ⟨w4.heap.size, 2, none⟩ = some (.string y2_b4) := HXX0_5.out.cellAt 2 (by omega)
    have X0c3 : w5.cell? ⟨w4.heap.size, 3, none⟩ = some (.slice y3_b4 n3_b4 c3_b4) := HXX0_5.out.cellAt 3 (by omega)
    have X0lt : w4.heap.size < w5.heap.size := (HXX0_5.out.lt _ rfl).2
    have A0c0 : w5.cell? ⟨w.heap.size, 0, none⟩ = some (.int .i64 y0_a0) := HXA0_5.out.cellAt 0 (by omega)
    have A0c1 : w5.cell? ⟨w.heap.size, 1, none⟩ = some (.int .i64 y1_a0) := HXA0_5.out.cellAt 1 (by omega)
    have A0c2 : w5.cell? ⟨w.heap.size, 2, none⟩ = some (.string y2_a0) := HXA0_5.out.cellAt 2 (by omega)
    have A0c3 : w5.cell? ⟨w.heap.size, 3, none⟩ = some (.slice y3_a0 n3_a0 c3_a0) := HXA0_5.out.cellAt 3 (by omega)
    have A0lt : w.heap.size < w5.heap.size := (HXA0_5.out.lt _ rfl).2
    go_region_held3 (fun w' => w'.cell? ⟨w4.heap.size, 0, none⟩ = some (.int .i64 y0_b4) ∧ w'.cell? ⟨w4.heap.size, 1, none⟩ = some (.int .i64 y1_b4) ∧ w'.cell? ⟨w4.heap.size, 2, none⟩ = some (.string y2_b4) ∧ w'.cell? ⟨w4.heap.size, 3, none⟩ = some (.slice y3_b4 n3_b4 c3_b4) ∧ w'.cell? ⟨w.heap.size, 0, none⟩ = some (.int .i64 y0_a0) ∧ w'.cell? ⟨w.heap.size, 1, none⟩ = some (.int .i64 y1_a0) ∧ w'.cell? ⟨w.heap.size, 2, none⟩ = some (.string y2_a0) ∧ w'.cell? ⟨w.heap.size, 3, none⟩ = some (.slice y3_a0 n3_a0 c3_a0)) (first | exact ⟨X0c0, X0c1, X0c2, X0c3, A0c0, A0c1, A0c2, A0c3⟩ | exact ⟨(hb1.cell (p := ⟨w4.heap.size, 0, none⟩) (by first | exact X0lt | exact Nat.lt_of_lt_of_le X0lt hbs1)).trans X0c0, (hb1.cell (p := ⟨w4.heap.size, 1, none⟩) (by first | exact X0lt | exact Nat.lt_of_lt_of_le X0lt hbs1)).trans X0c1, (hb1.cell (p := ⟨w4.heap.size, 2, none⟩) (by first | exact X0lt | exact Nat.lt_of_lt_of_le X0lt hbs1)).trans X0c2, (hb1.cell (p := ⟨w4.heap.size, 3, none⟩) (by first | exact X0lt | exact Nat.lt_of_lt_of_le X0lt hbs1)).trans X0c3, (hb1.cell (p := ⟨w.heap.size, 0, none⟩) (by first | exact A0lt | exact Nat.lt_of_lt_of_le A0lt hbs1)).trans A0c0, (hb1.cell (p := ⟨w.heap.size, 1, none⟩) (by first | exact A0lt | exact Nat.lt_of_lt_of_le A0lt hbs1)).trans A0c1, (hb1.cell (p := ⟨w.heap.size, 2, none⟩) (by first | exact A0lt | exact Nat.lt_of_lt_of_le A0lt hbs1)).trans A0c2, (hb1.cell (p := ⟨w.heap.size, 3, none⟩) (by first | exact A0lt | exact Nat.lt_of_lt_of_le A0lt hbs1)).trans A0c3⟩ | exact ⟨(hb2.cell (p := ⟨w4.heap.size, 0, none⟩) (by first | exact X0lt | exact Nat.lt_of_lt_of_le X0lt hbs1)).trans ((hb1.cell (p := ⟨w4.heap.size, 0, none⟩) X0lt).trans X0c0), (hb2.cell (p := ⟨w4.heap.size, 1, none⟩) (by first | exact X0lt | exact Nat.lt_of_lt_of_le X0lt hbs1)).trans ((hb1.cell (p := ⟨w4.heap.size, 1, none⟩) X0lt).trans X0c1), (hb2.cell (p := ⟨w4.heap.size, 2, none⟩) (by first | exact X0lt | exact Nat.lt_of_lt_of_le X0lt hbs1)).trans ((hb1.cell (p := ⟨w4.heap.size, 2, none⟩) X0lt).trans X0c2), (hb2.cell (p := ⟨w4.heap.size, 3, none⟩) (by first | exact X0lt | exact Nat.lt_of_lt_of_le X0lt hbs1)).trans ((hb1.cell (p := ⟨w4.heap.size, 3, none⟩) X0lt).trans X0c3), (hb2.cell (p := ⟨w.heap.size, 0, none⟩) (by first | exact A0lt | exact Nat.lt_of_lt_of_le A0lt hbs1)).trans ((hb1.cell (p := ⟨w.heap.size, 0, none⟩) A0lt).trans A0c0), (hb2.cell (p := ⟨w.heap.size, 1, none⟩) (by first | exact A0lt | exact Nat.lt_of_lt_of_le A0lt hbs1)).trans ((hb1.cell (p := ⟨w.heap.size, 1, none⟩) A0lt).trans A0c1), (hb2.cell (p := ⟨w.heap.size, 2, none⟩) (by first | exact A0lt | exact Nat.lt_of_lt_of_le A0lt hbs1)).trans ((hb1.cell (p := ⟨w.heap.size, 2, none⟩) A0lt).trans A0c2), (hb2.cell (p := ⟨w.heap.size, 3, none⟩) (by first | exact A0lt | exact Nat.lt_of_lt_of_le A0lt hbs1)).trans ((hb1.cell (p := ⟨w.heap.size, 3, none⟩) A0lt).trans A0c3)⟩)
      (first | (go_at_call 25; refine (toExpr_any HD0.out.1 _ _ ((((HD0.out.2.2.below HB5.out).more HB5.out.size).below (B := w5.heap.size) (by repeat' (first | refine Below.setCell ?_ (by first | (simp; done) | (simp; omega) | omega) _ | refine Below.alloc ?_ (by first | (simp; done) | (simp; omega) | omega) _ | refine Below.drew ?_ | exact Below.refl _ _))).more (by first | exact Nat.le_refl _ | (simp; done) | (simp; omega))) hwt0).mono ?_; rintro e w6 ⟨cs, fp, rfl, how, _, hb1⟩; have hrd1 := how.read; obtain ⟨y0_b6, y1_b6, y2_b6, y3_b6, n3_b6, c3_b6, rfl⟩ := HD0.out.1.form hrd1; have hbs1 := hb1.size) | (go_at_call 26; refine (eqExpr_any HD0.out.1 HD0.out.1 _ _ _ (((((HO4_5.out).below (B := w5.heap.size) (by repeat' (first | refine Below.setCell ?_ (by first | (simp; done) | (simp; omega) | omega) _ | refine Below.alloc ?_ (by first | (simp; done) | (simp; omega) | omega) _ | refine Below.drew ?_ | exact Below.refl _ _))).more (by first | exact Nat.le_refl _ | (simp; done) | (simp; omega))).below hb1).more hbs1) hrd1).mono ?_; rintro e w7 ⟨b, rfl, hbi, hb2⟩; obtain rfl : b = true := hbi.2 rfl))
    have HS : Hid (Below w5.heap.size w5 w6) := by
      refine Lib.hid (Below.trans ?_ (hb1.mono ?_))
      · repeat' (first | refine Below.setCell ?_ (by first | (simp; done) | (simp; omega) | omega) _ | refine Below.alloc ?_ (by first | (simp; done) | (simp; omega) | omega) _ | refine Below.drew ?_ | exact Below.refl _ _)
      · first | exact Nat.le_refl _ | (simp; done) | (simp; omega)
    have HN6 := HS.out.size
    have HB6 := Lib.hid (HB5.out.trans (HS.out.mono HB5.out.size))
    have HM6 := HB6.out.size
    have HO2_6 := Lib.hid ((HO2_5.out.below HS.out).more HS.out.size)
    clear HO2_5
    have HO4_6 := Lib.hid ((HO4_5.out.below HS.out).more HS.out.size)
    clear HO4_5
    have HXA0_6 := Lib.hid (own_keep HXA0_5.out fun j hj => HS.out.block j (HXA0_5.out.lt j hj).2)
    clear HXA0_5
    have HXX0_6 := Lib.hid (own_keep HXX0_5.out fun j hj => HS.out.block j (HXX0_5.out.lt j hj).2)
    clear HXX0_5
    obtain ⟨hc6, hf6⟩ := bcell hb1
    have hz6_0 : w.heap.size < w6.heap.size := by have h1 := hb1.size; first | (simp at h1; omega) | omega
    have hz6_1 : w4.heap.size < w6.heap.size := by have h1 := hb1.size; first | (simp at h1; omega) | omega
    clear hb1 HS
    have HS : Hid (Below w6.heap.size w6 w7) := by
      refine Lib.hid (Below.trans ?_ (hb2.mono ?_))
      · repeat' (first | refine Below.setCell ?_ (by first | (simp; done) | (simp; omega) | omega) _ | refine Below.alloc ?_ (by first | (simp; done) | (simp; omega) | omega) _ | refine Below.drew ?_ | exact Below.refl _ _)
      · first | exact Nat.le_refl _ | (simp; done) | (simp; omega)
    have HN7 := HS.out.size
    have HB7 := Lib.hid (HB6.out.trans (HS.out.mono HB6.out.size))
    have HM7 := HB7.out.size
    have HO2_7 := Lib.hid ((HO2_6.out.below HS.out).more HS.out.size)
    clear HO2_6
    have HO4_7 := Lib.hid ((HO4_6.out.below HS.out).more HS.out.size)
    clear HO4_6
    have HXA0_7 := Lib.hid (own_keep HXA0_6.out fun j hj => HS.out.block j (HXA0_6.out.lt j hj).2)
    clear HXA0_6
    have HXX0_7 := Lib.hid (own_keep HXX0_6.out fun j hj => HS.out.block j (HXX0_6.out.lt j hj).2)
    clear HXX0_6
    obtain ⟨hc7, hf7⟩ := bcell hb2
    have hz7_0 : w.heap.size < w7.heap.size := by have h1 := hb2.size; first | (simp at h1; omega) | omega
    have hz7_1 : w4.heap.size < w7.heap.size := by have h1 := hb2.size; first | (simp at h1; omega) | omega
    clear hb2 HS
    go_wp2_with fail
    go_ret
    refine ⟨rfl, HB7.out.trans ?_⟩
    repeat' (first | refine Below.setCell ?_ (by first | (simp; done) | (simp; omega) | omega) _ | refine Below.alloc ?_ (by first | (simp; done) | (simp; omega) | omega) _ | refine Below.drew ?_ | exact Below.refl _ _)
end Go.Proofs.Ytaanfdccnnfceaa

/-
  EqualExpr: the program's and the model's. (Written by gen10n.py.)
-/

namespace Go.Proofs.Ytaanfdccnnfceaa
open Go.RowKit
set_option linter.unusedVariables false

set_option maxHeartbeats 400000 in
set_option maxRecDepth 100000 in
theorem implEqualExpr_any {d d' : Dt} (hd : IsExp d) (hd' : IsExp d') (hwt : d.wt ≤ 1048576) (hwt' : d'.wt ≤ 1048576) (cs cs' : List Value) (w : World) (h : Rd w w.heap.size d cs) (h' : Rd w w.heap.size d' cs') :
    Calls Try.prog 20 #[.agg cs.toArray, .agg cs'.toArray] w (EqP (d = d') w) := by
  obtain ⟨y0, y1, y2, y3, n3, c3, rfl⟩ := hd.form h
  obtain ⟨x0, x1, x2, x3, m3, e3, rfl⟩ := hd'.form h'
  have hb0 := ((Below.refl w.heap.size w).alloc (Nat.le_refl _) (.cells #[Value.int .i64 y0, .int .i64 y1, .string y2, .slice y3 n3 c3] 26)).alloc (by simp) (.cells #[Value.int .i64 x0, .int .i64 x1, .string x2, .slice x3 m3 e3] 26)
  have HD := Lib.hid (And.intro hd (And.intro hd' (And.intro h (And.intro h' hb0))))
  clear hd hd' h h' hb0
  go_enter Try.func20, Try.ntmps20
  go_wp2_with fail
  refine (equalTreesE_any HD.out.1 HD.out.2.1 hwt hwt' _ _ _ ((HD.out.2.2.1.below HD.out.2.2.2.2).more (by simp; omega)) ((HD.out.2.2.2.1.below HD.out.2.2.2.2).more (by simp; omega))).mono ?_
  rintro e w1 ⟨b, rfl, hb, hbel⟩
  have HB := Lib.hid (And.intro hb hbel)
  clear hb hbel
  go_wp2_with fail
  go_ret
  exact ⟨b, rfl, HB.out.1, HD.out.2.2.2.2.trans (HB.out.2.mono (by simp; omega))⟩

def SEqC (d : Dt) : Prop := ∀ d', IsExp d' → d.wt ≤ 1048576 → d'.wt ≤ 1048576 → ∀ (cs cs' : List Value) (w : World), Rd w w.heap.size d cs → Rd w w.heap.size d' cs' → Calls Try.prog 28 #[.agg cs.toArray, .agg cs'.toArray] w (EqP (d = d') w)
theorem take_snoc_eq {xs ys : List Dt} {j : Nat} (hx : j < xs.length) (hy : j < ys.length) (h : xs.take j = ys.take j) (he : xs[j] = ys[j]) : xs.take (j + 1) = ys.take (j + 1) := by
  rw [List.take_succ_eq_append_getElem hx, List.take_succ_eq_append_getElem hy, h, he]
set_option maxHeartbeats 1600000 in
set_option maxRecDepth 100000 in
theorem SEqC_of (k n : Int) (t : ByteArray) (l : List Dt) (hl : ∀ x ∈ l, IsExp x) (ih : ∀ x ∈ l, SEqC x) : SEqC (.agg [.int k, .int n, .str t, .lst l]) := by
  intro d' hd' hwt hwt' cs cs' w h h'
  cases hd' with
  | mk k' n' t' l' hl' =>
  obtain ⟨A3, q3, rfl, r3⟩ := Rd.ofExpr h
  obtain ⟨B3, p3, rfl, s3⟩ := Rd.ofExpr h'
  have hwl : ∀ x ∈ l, x.wt ≤ 1048576 := fun x hx => by
    have := wts_memD hx
    simp only [Dt.wt, wts] at hwt
    omega
  have hwl' : ∀ x ∈ l', x.wt ≤ 1048576 := fun x hx => by
    have := wts_memD hx
    simp only [Dt.wt, wts] at hwt'
    omega
  have hln := r3.lst_len
  have hln' := s3.lst_len
  unfold maxLen at hln hln'
  have heq := exp_eq k n t l k' n' t' l'
  have hb0 := ((Below.refl w.heap.size w).alloc (Nat.le_refl _) (.cells #[Value.int .i64 k, .int .i64 n, .string t, .slice A3 l.length q3] 26)).alloc (by simp) (.cells #[Value.int .i64 k', .int .i64 n', .string t', .slice B3 l'.length p3] 26)
  have HB := Lib.hid hb0
  have HR := Lib.hid (And.intro r3 (And.intro s3 (And.intro hl (And.intro hl' (And.intro ih (And.intro hwl hwl'))))))
  obtain ⟨E, hE⟩ : ∃ E, E = (Dt.agg [.int k, .int n, .str t, .lst l] = Dt.agg [.int k', .int n', .str t', .lst l']) := ⟨_, rfl⟩
  rw [← hE] at heq ⊢
  have HE := Lib.hid heq
  clear h h' r3 s3 hl hl' ih hwl hwl' hb0 heq hE hwt hwt'
  by_cases h0 : k = k'
  · subst h0
    by_cases h0 : n = n'
    · subst h0
      by_cases h0 : t = t'
      · subst h0
        have hb : (t.toList == t.toList) = true := by simp
        by_cases h0 : l.length = l'.length
        · have hl1 : ((l.length : Int) != (l'.length : Int)) = false := by simp [h0]
          have HLL := Lib.hid h0
          clear h0
          go_enter Try.func28, Try.ntmps28
          go_wp2_with fail
          obtain ⟨ha1, ha2, ha3⟩ := box_new (e := 26) (s := 4) w #[Value.int .i64 k, .int .i64 n, .string t, .slice A3 l.length q3] rfl
          obtain ⟨hc1, hc2, hc3⟩ := box_new (e := 26) (s := 4) (w.alloc (.cells #[Value.int .i64 k, .int .i64 n, .string t, .slice A3 l.length q3] 26)) #[Value.int .i64 k, .int .i64 n, .string t, .slice B3 l'.length p3] rfl
          have ha4 := World.ownsRow.alloc ha1 (.cells #[Value.int .i64 k, .int .i64 n, .string t, .slice B3 l'.length p3] 26)
          rw [ha3] at hc1
          generalize hW : (w.alloc (.cells #[Value.int .i64 k, .int .i64 n, .string t, .slice A3 l.length q3] 26)).alloc (.cells #[Value.int .i64 k, .int .i64 n, .string t, .slice B3 l'.length p3] 26) = w1 at *
          have hs1 : w1.heap.size = w.heap.size + 2 := by omega
          have MK := Lib.hid (fun (wr : World) (hb : Below w1.heap.size w1 wr) => And.intro ((hb.cell (p := ⟨w.heap.size, 3, none⟩) (by show w.heap.size < w1.heap.size; omega)).trans (ha4.cellAt 3 (by omega))) ((hb.cell (p := ⟨w.heap.size + 1, 3, none⟩) (by show w.heap.size + 1 < w1.heap.size; omega)).trans (hc1.cellAt 3 (by omega))))
          have HB1 := Lib.hid (show Below w.heap.size w w1 from hW ▸ HB.out)
          clear ha1 ha2 ha3 hc1 hc2 hc3 ha4 hW
          go_loopw [5] (fun i wr => ∃ j : Nat, j ≤ l.length ∧ i = .int .i64 (j : Int) ∧ l.take j = l'.take j ∧ Below w1.heap.size w1 wr) (fun i _ => l.length - (intOf i).toNat)
          case atStart => exact ⟨0, Nat.zero_le _, rfl, by simp, Below.refl _ _⟩
          case round =>
            obtain ⟨j, hj, rfl, htk, hb'⟩ := hrel
            obtain ⟨hk3, hm3⟩ := MK.out wr hb'
            simp only [List.getElem?_cons_zero, List.getElem?_cons_succ] at hk3 hm3
            by_cases hjl : j < l.length
            · have hjl' : j < l'.length := by have := HLL.out; omega
              have hbw := HB1.out.trans (hb'.mono (by omega))
              obtain ⟨b, o, cs, hA, hbB, hrd, hlen, hcell⟩ := (HR.out.1.below hbw).at (k := 4) (fun x hx' => (HR.out.2.2.1 x hx').width) (by omega) j hjl
              obtain ⟨b', o', cs', hA', hbB', hrd', hlen', hcell'⟩ := (HR.out.2.1.below hbw).at (k := 4) (fun x hx' => (HR.out.2.2.2.1 x hx').width) (by omega) j hjl'
              obtain ⟨z0, z1, z2, z3, m3, d3, rfl⟩ := (HR.out.2.2.1 _ (List.getElem_mem hjl)).form hrd
              obtain ⟨u0, u1, u2, u3, v3, f3, rfl⟩ := (HR.out.2.2.2.1 _ (List.getElem_mem hjl')).form hrd'
              subst hA
              subst hA'
              have h00 := hcell 0 (by omega)
              have h01 := hcell 1 (by omega)
              have h02 := hcell 2 (by omega)
              have h03 := hcell 3 (by omega)
              have g00 := hcell' 0 (by omega)
              have g01 := hcell' 1 (by omega)
              have g02 := hcell' 2 (by omega)
              have g03 := hcell' 3 (by omega)
              simp at h00 h01 h02 h03 g00 g01 g02 g03
              have hbs := hb'.size
              have HX := Lib.hid (And.intro hb' (And.intro hbw (And.intro hrd (And.intro hrd' htk))))
              have hbl : b < wr.heap.size := by omega
              have hbl' : b' < wr.heap.size := by omega
              have hwl0 : w.heap.size < wr.heap.size := by omega
              have hwl1 : w.heap.size + 1 < wr.heap.size := by omega
              clear hcell hlen hb' hbw hrd hcell' hlen' hrd' htk
              have hji : (j : Int) < (l.length : Int) := by omega
              have hji' : (j : Int) < (l'.length : Int) := by omega
              have hj0 : (0 : Int) ≤ (j : Int) := by omega
              have hbs2 : w.heap.size ≤ wr.heap.size := by omega
              go_wp2_with fail
              go_region_held3 (fun w' => w'.cell? ⟨w.heap.size, 3, none⟩ = some (.slice (some ⟨b, o, none⟩) l.length q3) ∧ w'.cell? ⟨w.heap.size + 1, 3, none⟩ = some (.slice (some ⟨b', o', none⟩) l'.length p3) ∧ w'.cell? ⟨b, o + j * 4, none⟩ = some (.int .i64 z0) ∧ w'.cell? ⟨b, o + j * 4 + 1, none⟩ = some (.int .i64 z1) ∧ w'.cell? ⟨b, o + j * 4 + 2, none⟩ = some (.string z2) ∧ w'.cell? ⟨b, o + j * 4 + 3, none⟩ = some (.slice z3 m3 d3) ∧ w'.cell? ⟨b', o' + j * 4, none⟩ = some (.int .i64 u0) ∧ w'.cell? ⟨b', o' + j * 4 + 1, none⟩ = some (.int .i64 u1) ∧ w'.cell? ⟨b', o' + j * 4 + 2, none⟩ = some (.string u2) ∧ w'.cell? ⟨b', o' + j * 4 + 3, none⟩ = some (.slice u3 v3 f3))
                (first | exact ⟨hk3, hm3, h00, h01, h02, h03, g00, g01, g02, g03⟩ | exact ⟨(hb9.cell (p := ⟨w.heap.size, 3, none⟩) hwl0).trans hk3, (hb9.cell (p := ⟨w.heap.size + 1, 3, none⟩) hwl1).trans hm3, (hb9.cell (p := ⟨b, o + j * 4, none⟩) hbl).trans h00, (hb9.cell (p := ⟨b, o + j * 4 + 1, none⟩) hbl).trans h01, (hb9.cell (p := ⟨b, o + j * 4 + 2, none⟩) hbl).trans h02, (hb9.cell (p := ⟨b, o + j * 4 + 3, none⟩) hbl).trans h03, (hb9.cell (p := ⟨b', o' + j * 4, none⟩) hbl').trans g00, (hb9.cell (p := ⟨b', o' + j * 4 + 1, none⟩) hbl').trans g01, (hb9.cell (p := ⟨b', o' + j * 4 + 2, none⟩) hbl').trans g02, (hb9.cell (p := ⟨b', o' + j * 4 + 3, none⟩) hbl').trans g03⟩)
                (first
                  | (go_at_call_of 28 (Value.agg #[.int .i64 z0, .int .i64 z1, .string z2, .slice z3 m3 d3]); refine (HR.out.2.2.2.2.1 _ (List.getElem_mem hjl) _ (HR.out.2.2.2.1 _ (List.getElem_mem hjl')) (HR.out.2.2.2.2.2.1 _ (List.getElem_mem hjl)) (HR.out.2.2.2.2.2.2 _ (List.getElem_mem hjl')) [.int .i64 z0, .int .i64 z1, .string z2, .slice z3 m3 d3] [.int .i64 u0, .int .i64 u1, .string u2, .slice u3 v3 f3] wr.drew ((HX.out.2.2.1.below (Below.refl w.heap.size wr).drew).more hbs2) ((HX.out.2.2.2.1.below (Below.refl w.heap.size wr).drew).more hbs2)).mono ?_; rintro e w9 ⟨bb, rfl, hbb, hb9⟩)
                  | fail)
              have HB9 := Lib.hid (And.intro (HX.out.1.trans (Below.trans (b := wr.drew) (Below.refl _ _).drew (hb9.mono hbs))) hbb)
              clear hbb hb9 h00 h01 h02 h03 g00 g01 g02 g03 hk3 hm3
              cases bb
              · go_wp2_with fail
                go_ret
                exact ⟨false, rfl, ⟨fun h => (by cases h), fun h => by
                  have e1 := (HE.out.1 h).2.2
                  have e2 : l[j] = l'[j] := by subst e1; rfl
                  have := HB9.out.2.2 e2
                  cases this⟩, HB1.out.trans (HB9.out.1.mono (by omega))⟩
              · go_wp2_with fail
                exact ⟨⟨j + 1, by omega, by simp, take_snoc_eq hjl hjl' HX.out.2.2.2.2 (HB9.out.2.1 (by trivial)), HB9.out.1⟩, by simp [intOf]; omega⟩
            · obtain rfl : j = l.length := by omega
              have HX := Lib.hid (And.intro (HB1.out.trans (hb'.mono (by omega))) htk)
              clear hb' htk
              go_wp2_with fail
              go_ret
              have e1 := HX.out.2
              rw [List.take_length, HLL.out, List.take_length] at e1
              exact ⟨true, rfl, ⟨fun _ => HE.out.2 ⟨HLL.out, (by simp), e1⟩, fun _ => rfl⟩, HX.out.1⟩
        · have hl1 : ((l.length : Int) != (l'.length : Int)) = !false := by simp; omega
          have HN := Lib.hid h0
          clear h0
          go_enter Try.func28, Try.ntmps28
          go_wp2_with fail
          go_ret
          exact ⟨false, rfl, ⟨fun h => (by cases h), fun h => absurd ((HE.out.1 h).1) HN.out⟩, HB.out⟩
      · have hb : (t.toList == t'.toList) = false := by simp; exact fun e => h0 (bytes_inj e)
        have HN := Lib.hid h0
        clear h0
        go_enter Try.func28, Try.ntmps28
        go_wp2_with fail
        go_ret
        exact ⟨false, rfl, ⟨fun h => (by cases h), fun h => absurd ((HE.out.1 h).2.1.2.2) HN.out⟩, HB.out⟩
    · have hb : ((n : Int) == n') = false := by simp [h0]
      have HN := Lib.hid h0
      clear h0
      go_enter Try.func28, Try.ntmps28
      go_wp2_with fail
      go_ret
      exact ⟨false, rfl, ⟨fun h => (by cases h), fun h => absurd ((HE.out.1 h).2.1.2.1) HN.out⟩, HB.out⟩
  · have hb : ((k : Int) == k') = false := by simp [h0]
    have HN := Lib.hid h0
    clear h0
    go_enter Try.func28, Try.ntmps28
    go_wp2_with fail
    go_ret
    exact ⟨false, rfl, ⟨fun h => (by cases h), fun h => absurd ((HE.out.1 h).2.1.1) HN.out⟩, HB.out⟩

theorem SEqC_any {d : Dt} (h : IsExp d) : SEqC d := by
  induction h with
  | mk k n t l hl ih => exact SEqC_of k n t l hl ih
theorem SEq_any {d d' : Dt} (hd : IsExp d) (hd' : IsExp d') (hwt : d.wt ≤ 1048576) (hwt' : d'.wt ≤ 1048576) (cs cs' : List Value) (w : World) (h : Rd w w.heap.size d cs) (h' : Rd w w.heap.size d' cs') :
    Calls Try.prog 28 #[.agg cs.toArray, .agg cs'.toArray] w (EqP (d = d') w) := SEqC_any hd d' hd' hwt hwt' cs cs' w h h'
end Go.Proofs.Ytaanfdccnnfceaa
