/-
  Texts that the proof rests on, put together: IsValidExprLaw.
-/
import Derived.Test.YtaanfdccnnfceaaMgW36
import Derived.Test.YtaanfdccnnfceaaMgW7
import Derived.Test.YtaanfdccnnfceaaMgW12
/-
  The law FnExactIsValidExpr. (Written by genvlaw.py.)
-/

namespace Go.Proofs.Ytaanfdccnnfceaa
open Go.RowKit
set_option linter.unusedVariables false

theorem EqP.ansG {P : Prop} {w : World} {a : Bool} (ha : a = @decide P (Classical.propDecidable P)) (e : Ending) (w' : World) (h : EqP P w e w') : e = .returned (.bool a) ∧ Below w.heap.size w w' := by
  obtain ⟨b, rfl, hb, hbel⟩ := h
  have h2 : (a = true ↔ P) := by rw [ha]; exact @decide_eq_true_iff P (Classical.propDecidable P)
  have h3 := hb.trans h2.symm
  refine ⟨?_, hbel⟩
  cases a <;> cases b <;> simp_all
set_option maxHeartbeats 1600000 in
set_option maxRecDepth 100000 in
theorem fnExactIsValidExpr_walk (w : World) {d0 : Dt} (hd0 : IsExp d0) (hok0 : d0.Ok) (cs0 : List Value) (hr0 : Rd w w.heap.size d0 cs0) :
    Calls Try.prog 7 #[.agg cs0.toArray] w fun e w' => e = .returned (.bool true) ∧ Below w.heap.size w w' := by
  obtain ⟨y0_a0, y1_a0, y2_a0, y3_a0, n3_a0, c3_a0, rfl⟩ := hd0.form hr0
  have HD0 := Lib.hid (And.intro hd0 (And.intro hok0 hr0))
  clear hd0 hok0 hr0
  go_enter Try.func7, Try.ntmps7
  have HB0 := Lib.hid (Below.refl w.heap.size w)
  go_wp2_with fail
  refine (szExpr_any HD0.out.1 _ 1048576 _ ((((HD0.out.2.2.below HB0.out).more HB0.out.size).below (B := w.heap.size) (by repeat' (first | refine Below.setCell ?_ (by first | (simp; done) | (simp; omega) | omega) _ | refine Below.alloc ?_ (by first | (simp; done) | (simp; omega) | omega) _ | refine Below.drew ?_ | exact Below.refl _ _))).more (by first | exact Nat.le_refl _ | (simp; done) | (simp; omega))) HD0.out.2.1 (by omega) (by omega)).mono ?_
  rintro e w1 ⟨r0, rfl, hr0, hb⟩
  have HR0 := Lib.hid hr0
  clear hr0
  have HS : Hid (Below w.heap.size w w1) := by
    refine Lib.hid (Below.trans ?_ (hb.mono ?_))
    · repeat' (first | refine Below.setCell ?_ (by first | (simp; done) | (simp; omega) | omega) _ | refine Below.alloc ?_ (by first | (simp; done) | (simp; omega) | omega) _ | refine Below.drew ?_ | exact Below.refl _ _)
    · first | exact Nat.le_refl _ | (simp; done) | (simp; omega)
  have HN1 := HS.out.size
  have HB1 := Lib.hid (HB0.out.trans (HS.out.mono HB0.out.size))
  have HM1 := HB1.out.size
  have hx := (own_keep ((box_new (e := 35) (s := 4) (w) #[.int .i64 y0_a0, .int .i64 y1_a0, .string y2_a0, .slice y3_a0 n3_a0 c3_a0] rfl).1) fun j hj => hb.block j (by injection hj with hj; have hj : (w).heap.size = j := hj; subst hj; first | (simp; done) | (simp; omega)))
  have HXA0_1 := Lib.hid hx
  clear hx
  obtain ⟨hc1, hf1⟩ := bcell hb
  have hz1_0 : w.heap.size < w1.heap.size := by have h1 := hb.size; first | (simp at h1; omega) | omega
  clear hb HS
  by_cases hng : r0 < 0
  · go_wp2_with fail
    go_ret
    exact ⟨rfl, HB1.out⟩
  · obtain ⟨l0, rfl⟩ : ∃ l : Nat, r0 = l := ⟨r0.toNat, by omega⟩
    have hle0 : l0 ≤ 1048576 := by have := HR0.out.2; omega
    have hwt0 : d0.wt ≤ 1048576 := by have := HR0.out.1 (by omega); omega
    clear hng
    obtain ⟨ans, hans⟩ : ∃ ans : Bool, ans = @decide (VE d0) (Classical.propDecidable _) := ⟨_, rfl⟩
    have HANS := Lib.hid hans
    clear hans
    have hne : (ans != ans) = false := by cases ans <;> rfl
    go_wp2_with fail
    refine (toExpr_any HD0.out.1 _ _ ((((HD0.out.2.2.below HB1.out).more HB1.out.size).below (B := w1.heap.size) (by repeat' (first | refine Below.setCell ?_ (by first | (simp; done) | (simp; omega) | omega) _ | refine Below.alloc ?_ (by first | (simp; done) | (simp; omega) | omega) _ | refine Below.drew ?_ | exact Below.refl _ _))).more (by first | exact Nat.le_refl _ | (simp; done) | (simp; omega))) hwt0).mono ?_
    rintro e w2 ⟨cs, fp, rfl, how, _, hb⟩
    have hrd := how.read
    clear how
    obtain ⟨y0_b2, y1_b2, y2_b2, y3_b2, n3_b2, c3_b2, rfl⟩ := HD0.out.1.form hrd
    have HO2_2 := Lib.hid hrd
    clear hrd
    have HS : Hid (Below w1.heap.size w1 w2) := by
      refine Lib.hid (Below.trans ?_ (hb.mono ?_))
      · repeat' (first | refine Below.setCell ?_ (by first | (simp; done) | (simp; omega) | omega) _ | refine Below.alloc ?_ (by first | (simp; done) | (simp; omega) | omega) _ | refine Below.drew ?_ | exact Below.refl _ _)
      · first | exact Nat.le_refl _ | (simp; done) | (simp; omega)
    have HN2 := HS.out.size
    have HB2 := Lib.hid (HB1.out.trans (HS.out.mono HB1.out.size))
    have HM2 := HB2.out.size
    have HXA0_2 := Lib.hid (own_keep HXA0_1.out fun j hj => HS.out.block j (HXA0_1.out.lt j hj).2)
    clear HXA0_1
    obtain ⟨hc2, hf2⟩ := bcell hb
    have hz2_0 : w.heap.size < w2.heap.size := by have h1 := hb.size; first | (simp at h1; omega) | omega
    clear hb HS
    go_wp2_with fail
    refine ((specValidE_any HD0.out.1 hwt0 _ _ (((HO2_2.out).below (B := w2.heap.size) (by repeat' (first | refine Below.setCell ?_ (by first | (simp; done) | (simp; omega) | omega) _ | refine Below.alloc ?_ (by first | (simp; done) | (simp; omega) | omega) _ | refine Below.drew ?_ | exact Below.refl _ _))).more (by first | exact Nat.le_refl _ | (simp; done) | (simp; omega)))).mono (EqP.ansG HANS.out)).mono ?_
    rintro e w3 ⟨rfl, hb⟩
    have HS : Hid (Below w2.heap.size w2 w3) := by
      refine Lib.hid (Below.trans ?_ (hb.mono ?_))
      · repeat' (first | refine Below.setCell ?_ (by first | (simp; done) | (simp; omega) | omega) _ | refine Below.alloc ?_ (by first | (simp; done) | (simp; omega) | omega) _ | refine Below.drew ?_ | exact Below.refl _ _)
      · first | exact Nat.le_refl _ | (simp; done) | (simp; omega)
    have HN3 := HS.out.size
    have HB3 := Lib.hid (HB2.out.trans (HS.out.mono HB2.out.size))
    have HM3 := HB3.out.size
    have HO2_3 := Lib.hid ((HO2_2.out.below HS.out).more HS.out.size)
    clear HO2_2
    have HXA0_3 := Lib.hid (own_keep HXA0_2.out fun j hj => HS.out.block j (HXA0_2.out.lt j hj).2)
    clear HXA0_2
    obtain ⟨hc3, hf3⟩ := bcell hb
    have hz3_0 : w.heap.size < w3.heap.size := by have h1 := hb.size; first | (simp at h1; omega) | omega
    clear hb HS
    go_wp2_with fail
    refine (toExpr_any HD0.out.1 _ _ ((((HD0.out.2.2.below HB3.out).more HB3.out.size).below (B := w3.heap.size) (by repeat' (first | refine Below.setCell ?_ (by first | (simp; done) | (simp; omega) | omega) _ | refine Below.alloc ?_ (by first | (simp; done) | (simp; omega) | omega) _ | refine Below.drew ?_ | exact Below.refl _ _))).more (by first | exact Nat.le_refl _ | (simp; done) | (simp; omega))) hwt0).mono ?_
    rintro e w4 ⟨cs, fp, rfl, how, _, hb⟩
    have hrd := how.read
    clear how
    obtain ⟨y0_b4, y1_b4, y2_b4, y3_b4, n3_b4, c3_b4, rfl⟩ := HD0.out.1.form hrd
    have HO4_4 := Lib.hid hrd
    clear hrd
    have HS : Hid (Below w3.heap.size w3 w4) := by
      refine Lib.hid (Below.trans ?_ (hb.mono ?_))
      · repeat' (first | refine Below.setCell ?_ (by first | (simp; done) | (simp; omega) | omega) _ | refine Below.alloc ?_ (by first | (simp; done) | (simp; omega) | omega) _ | refine Below.drew ?_ | exact Below.refl _ _)
      · first | exact Nat.le_refl _ | (simp; done) | (simp; omega)
    have HN4 := HS.out.size
    have HB4 := Lib.hid (HB3.out.trans (HS.out.mono HB3.out.size))
    have HM4 := HB4.out.size
    have HO2_4 := Lib.hid ((HO2_3.out.below HS.out).more HS.out.size)
    clear HO2_3
    have HXA0_4 := Lib.hid (own_keep HXA0_3.out fun j hj => HS.out.block j (HXA0_3.out.lt j hj).2)
    clear HXA0_3
    obtain ⟨hc4, hf4⟩ := bcell hb
    have hz4_0 : w.heap.size < w4.heap.size := by have h1 := hb.size; first | (simp at h1; omega) | omega
    clear hb HS
    go_wp2_with fail
    refine ((implValidE_any HD0.out.1 hwt0 _ _ (((HO4_4.out).below (B := w4.heap.size) (by repeat' (first | refine Below.setCell ?_ (by first | (simp; done) | (simp; omega) | omega) _ | refine Below.alloc ?_ (by first | (simp; done) | (simp; omega) | omega) _ | refine Below.drew ?_ | exact Below.refl _ _))).more (by first | exact Nat.le_refl _ | (simp; done) | (simp; omega)))).mono (EqP.ansG HANS.out)).mono ?_
    rintro e w5 ⟨rfl, hb⟩
    have HS : Hid (Below w4.heap.size w4 w5) := by
      refine Lib.hid (Below.trans ?_ (hb.mono ?_))
      · repeat' (first | refine Below.setCell ?_ (by first | (simp; done) | (simp; omega) | omega) _ | refine Below.alloc ?_ (by first | (simp; done) | (simp; omega) | omega) _ | refine Below.drew ?_ | exact Below.refl _ _)
      · first | exact Nat.le_refl _ | (simp; done) | (simp; omega)
    have HN5 := HS.out.size
    have HB5 := Lib.hid (HB4.out.trans (HS.out.mono HB4.out.size))
    have HM5 := HB5.out.size
    have HO2_5 := Lib.hid ((HO2_4.out.below HS.out).more HS.out.size)
    clear HO2_4
    have HO4_5 := Lib.hid ((HO4_4.out.below HS.out).more HS.out.size)
    clear HO4_4
    have HXA0_5 := Lib.hid (own_keep HXA0_4.out fun j hj => HS.out.block j (HXA0_4.out.lt j hj).2)
    clear HXA0_4
    have hx := (own_keep ((box_new (e := 26) (s := 4) (w4) #[.int .i64 y0_b4, .int .i64 y1_b4, .string y2_b4, .slice y3_b4 n3_b4 c3_b4] rfl).1) fun j hj => hb.block j (by injection hj with hj; have hj : (w4).heap.size = j := hj; subst hj; first | (simp; done) | (simp; omega)))
    have HXX0_5 := Lib.hid hx
    clear hx
    obtain ⟨hc5, hf5⟩ := bcell hb
    have hz5_0 : w.heap.size < w5.heap.size := by have h1 := hb.size; first | (simp at h1; omega) | omega
    have hz5_1 : w4.heap.size < w5.heap.size := by have h1 := hb.size; first | (simp at h1; omega) | omega
    clear hb HS
    go_wp2_with fail
    have X0c0 : w5.cell? ⟨w4.heap.size, 0, none⟩ = some (.int .i64 y0_b4) := HXX0_5.out.cellAt 0 (by omega)
    have X0c1 : w5.cell? ⟨w4.heap.size, 1, none⟩ = some (.int .i64 y1_b4) := HXX0_5.out.cellAt 1 (by omega)
    have X0c2 : w5.cell? ⟨w4.heap.size, 2, none⟩ = some (.string y2_b4) := HXX0_5.out.cellAt 2 (by omega)
    have X0c3 : w5.cell? ⟨w4.heap.size, 3, none⟩ = some (.slice y3_b4 n3_b4 c3_b4) := HXX0_5.out.cellAt 3 (by omega)
    have X0lt : w4.heap.size < w5.heap.size := (HXX0_5.out.lt _ rfl).2
    have A0c0 : w5.cell? ⟨w.heap.size, 0, none⟩ = some (.int .i64 y0_a0) := HXA0_5.out.cellAt 0 (by omega)
    have A0c1 : w5.cell? ⟨w.heap.size, 1, none⟩ = some (.int .i64 y1_a0) := HXA0_5.out.cellAt 1 (by omega)
    have A0c2 : w5.cell? ⟨w.heap.size, 2, none⟩ = some (.string y2_a0) := HXA0_5.out.cellAt 2 (by omega)
    have A0c3 : w5.cell? ⟨w.heap.size, 3, none⟩ = some (.slice y3_a0 n3_a0 c3_a0) := HXA0_5.out.cellAt 3 (by omega)
    have A0lt : w.heap.size < w5.heap.size := (HXA0_5.out.lt _ rfl).2
    go_region_held3 (fun w' => w'.cell? ⟨w4.heap.size, 0, none⟩ = some (.int .i64 y0_b4) ∧ w'.cell? ⟨w4.heap.size, 1, none⟩ = some (.int .i64 y1_b4) ∧ w'.cell? ⟨w4.heap.size, 2, none⟩ = some (.string y2_b4) ∧ w'.cell? ⟨w4.heap.size, 3, none⟩ = some (.slice y3_b4 n3_b4 c3_b4) ∧ w'.cell? ⟨w.heap.size, 0, none⟩ = some (.int .i64 y0_a0) ∧ w'.cell? ⟨w.heap.size, 1, none⟩ = some (.int .i64 y1_a0) ∧ w'.cell? ⟨w.heap.size, 2, none⟩ = some (.string y2_a0) ∧ w'.cell? ⟨w.heap.size, 3, none⟩ = some (.slice y3_a0 n3_a0 c3_a0)) (first | exact ⟨X0c0, X0c1, X0c2, X0c3, A0c0, A0c1, A0c2, A0c3⟩ | exact ⟨(hb1.cell (p := ⟨w4.heap.size, 0, none⟩) (by first | exact X0lt | exact Nat.lt_of_lt_of_le X0lt hbs1)).trans X0c0, (hb1.cell (p := ⟨w4.heap.size, 1, none⟩) (by first | exact X0lt | exact Nat.lt_of_lt_of_le X0lt hbs1)).trans X0c1, (hb1.cell (p := ⟨w4.heap.size, 2, none⟩) (by first | exact X0lt | exact Nat.lt_of_lt_of_le X0lt hbs1)).trans X0c2, (hb1.cell (p := ⟨w4.heap.size, 3, none⟩) (by first | exact X0lt | exact Nat.lt_of_lt_of_le X0lt hbs1)).trans X0c3, (hb1.cell (p := ⟨w.heap.size, 0, none⟩) (by first | exact A0lt | exact Nat.lt_of_lt_of_le A0lt hbs1)).trans A0c0, (hb1.cell (p := ⟨w.heap.size, 1, none⟩) (by first | exact A0lt | exact Nat.lt_of_lt_of_le A0lt hbs1)).trans A0c1, (hb1.cell (p := ⟨w.heap.size, 2, none⟩) (by first | exact A0lt | exact Nat.lt_of_lt_of_le A0lt hbs1)).trans A0c2, (hb1.cell (p := ⟨w.heap.size, 3, none⟩) (by first | exact A0lt | exact Nat.lt_of_lt_of_le A0lt hbs1)).trans A0c3⟩ | exact ⟨(hb2.cell (p := ⟨w4.heap.size, 0, none⟩) (by first | exact X0lt | exact Nat.lt_of_lt_of_le X0lt hbs1)).trans ((hb1.cell (p := ⟨w4.heap.size, 0, none⟩) X0lt).trans X0c0), (hb2.cell (p := ⟨w4.heap.size, 1, none⟩) (by first | exact X0lt | exact Nat.lt_of_lt_of_le X0lt hbs1)).trans ((hb1.cell (p := ⟨w4.heap.size, 1, none⟩) X0lt).trans X0c1), (hb2.cell (p := ⟨w4.heap.size, 2, none⟩) (by first | exact X0lt | exact Nat.lt_of_lt_of_le X0lt hbs1)).trans ((hb1.cell (p := ⟨w4.heap.size, 2, none⟩) X0lt).trans X0c2), (hb2.cell (p := ⟨w4.heap.size, 3, none⟩) (by first | exact X0lt | exact Nat.lt_of_lt_of_le X0lt hbs1)).trans ((hb1.cell (p := ⟨w4.heap.size, 3, none⟩) X0lt).trans X0c3), (hb2.cell (p := ⟨w.heap.size, 0, none⟩) (by first | exact A0lt | exact Nat.lt_of_lt_of_le A0lt hbs1)).trans ((hb1.cell (p := ⟨w.heap.size, 0, none⟩) A0lt).trans A0c0), (hb2.cell (p := ⟨w.heap.size, 1, none⟩) (by first | exact A0lt | exact Nat.lt_of_lt_of_le A0lt hbs1)).trans ((hb1.cell (p := ⟨w.heap.size, 1, none⟩) A0lt).trans A0c1), (hb2.cell (p := ⟨w.heap.size, 2, none⟩) (by first | exact A0lt | exact Nat.lt_of_lt_of_le A0lt hbs1)).trans ((hb1.cell (p := ⟨w.heap.size, 2, none⟩) A0lt).trans A0c2), (hb2.cell (p := ⟨w.heap.size, 3, none⟩) (by first | exact A0lt | exact Nat.lt_of_lt_of_le A0lt hbs1)).trans ((hb1.cell (p := ⟨w.heap.size, 3, none⟩) A0lt).trans A0c3)⟩)
      (first | (go_at_call 25; refine (toExpr_any HD0.out.1 _ _ ((((HD0.out.2.2.below HB5.out).more HB5.out.size).below (B := w5.heap.size) (by repeat' (first | refine Below.setCell ?_ (by first | (simp; done) | (simp; omega) | omega) _ | refine Below.alloc ?_ (by first | (simp; done) | (simp; omega) | omega) _ | refine Below.drew ?_ | exact Below.refl _ _))).more (by first | exact Nat.le_refl _ | (simp; done) | (simp; omega))) hwt0).mono ?_; rintro e w6 ⟨cs, fp, rfl, how, _, hb1⟩; have hrd1 := how.read; obtain ⟨y0_b6, y1_b6, y2_b6, y3_b6, n3_b6, c3_b6, rfl⟩ := HD0.out.1.form hrd1; have hbs1 := hb1.size) | (go_at_call 26; refine (eqExpr_any HD0.out.1 HD0.out.1 _ _ _ (((((HO4_5.out).below (B := w5.heap.size) (by repeat' (first | refine Below.setCell ?_ (by first | (simp; done) | (simp; omega) | omega) _ | refine Below.alloc ?_ (by first | (simp; done) | (simp; omega) | omega) _ | refine Below.drew ?_ | exact Below.refl _ _))).more (by first | exact Nat.le_refl _ | (simp; done) | (simp; omega))).below hb1).more hbs1) hrd1).mono ?_; rintro e w7 ⟨b, rfl, hbi, hb2⟩; obtain rfl : b = true := hbi.2 rfl))
    have HS : Hid (Below w5.heap.size w5 w6) := by
      refine Lib.hid (Below.trans ?_ (hb1.mono ?_))
      · repeat' (first | refine Below.setCell ?_ (by first | (simp; done) | (simp; omega) | omega) _ | refine Below.alloc ?_ (by first | (simp; done) | (simp; omega) | omega) _ | refine Below.drew ?_ | exact Below.refl _ _)
      · first | exact Nat.le_refl _ | (simp; done) | (simp; omega)
    have HN6 := HS.out.size
    have HB6 := Lib.hid (HB5.out.trans (HS.out.mono HB5.out.size))
    have HM6 := HB6.out.size
    have HO2_6 := Lib.hid ((HO2_5.out.below HS.out).more HS.out.size)
    clear HO2_5
    have HO4_6 := Lib.hid ((HO4_5.out.below HS.out).more HS.out.size)
    clear HO4_5
    have HXA0_6 := Lib.hid (own_keep HXA0_5.out fun j hj => HS.out.block j (HXA0_5.out.lt j hj).2)
    clear HXA0_5
    have HXX0_6 := Lib.hid (own_keep HXX0_5.out fun j hj => HS.out.block j (HXX0_5.out.lt j hj).2)
    clear HXX0_5
    obtain ⟨hc6, hf6⟩ := bcell hb1
    have hz6_0 : w.heap.size < w6.heap.size := by have h1 := hb1.size; first | (simp at h1; omega) | omega
    have hz6_1 : w4.heap.size < w6.heap.size := by have h1 := hb1.size; first | (simp at h1; omega) | omega
    clear hb1 HS
    have HS : Hid (Below w6.heap.size w6 w7) := by
      refine Lib.hid (Below.trans ?_ (hb2.mono ?_))
      · repeat' (first | refine Below.setCell ?_ (by first | (simp; done) | (simp; omega) | omega) _ | refine Below.alloc ?_ (by first | (simp; done) | (simp; omega) | omega) _ | refine Below.drew ?_ | exact Below.refl _ _)
      · first | exact Nat.le_refl _ | (simp; done) | (simp; omega)
    have HN7 := HS.out.size
    have HB7 := Lib.hid (HB6.out.trans (HS.out.mono HB6.out.size))
    have HM7 := HB7.out.size
    have HO2_7 := Lib.hid ((HO2_6.out.below HS.out).more HS.out.size)
    clear HO2_6
    have HO4_7 := Lib.hid ((HO4_6.out.below HS.out).more HS.out.size)
    clear HO4_6
    have HXA0_7 := Lib.hid (own_keep HXA0_6.out fun j hj => HS.out.block j (HXA0_6.out.lt j hj).2)
    clear HXA0_6
    have HXX0_7 := Lib.hid (own_keep HXX0_6.out fun j hj => HS.out.block j (HXX0_6.out.lt j hj).2)
    clear HXX0_6
    obtain ⟨hc7, hf7⟩ := bcell hb2
    have hz7_0 : w.heap.size < w7.heap.size := by have h1 := hb2.size; first | (simp at h1; omega) | omega
    have hz7_1 : w4.heap.size < w7.heap.size := by have h1 := hb2.size; first | (simp at h1; omega) | omega
    clear hb2 HS
    go_wp2_with fail
    go_ret
    refine ⟨rfl, HB7.out.trans ?_⟩
    repeat' (first | refine Below.setCell ?_ (by first | (simp; done) | (simp; omega) | omega) _ | refine Below.alloc ?_ (by first | (simp; done) | (simp; omega) | omega) _ | refine Below.drew ?_ | exact Below.refl _ _)
end Go.Proofs.Ytaanfdccnnfceaa
