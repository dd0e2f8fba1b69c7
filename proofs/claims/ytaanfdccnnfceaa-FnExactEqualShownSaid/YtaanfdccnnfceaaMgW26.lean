/-
  Texts that the proof rests on, put together: DepthLaw, EqSt.
-/
import Derived.Test.YtaanfdccnnfceaaMgW25
import Derived.Test.YtaanfdccnnfceaaMgW7
import Derived.Test.YtaanfdccnnfceaaMgW11
import Derived.Test.YtaanfdccnnfceaaMgW13
import Derived.Test.YtaanfdccnnfceaaMgW24
/-
  The law FnExactDepthOf. (Written by genvlaw.py.)
-/

namespace Go.Proofs.Ytaanfdccnnfceaa
open Go.RowKit
set_option linter.unusedVariables false

theorem specDepth_ans {d : Dt} (hd : IsVal d) (hwt : d.wt ≤ 1048576) (cs : List Value) (w : World) (h : Rd w w.heap.size d cs) (a : Int) (ha : a = (d.dep : Nat)) :
    Calls Try.prog 32 #[.agg cs.toArray] w fun e w' => e = .returned (.int .i64 a) ∧ Below w.heap.size w w' := by subst ha; exact specDepth_any hd hwt cs w h
theorem implDepth_ans {d : Dt} (hd : IsVal d) (hwt : d.wt ≤ 1048576) (cs : List Value) (w : World) (h : Rd w w.heap.size d cs) (a : Int) (ha : a = (d.dep : Nat)) :
    Calls Try.prog 34 #[.agg cs.toArray] w fun e w' => e = .returned (.int .i64 a) ∧ Below w.heap.size w w' := by subst ha; exact implDepth_any hd hwt cs w h
set_option maxHeartbeats 1600000 in
set_option maxRecDepth 100000 in
theorem fnExactDepthOf_walk (w : World) {d0 : Dt} (hd0 : IsVal d0) (hok0 : d0.Ok) (cs0 : List Value) (hr0 : Rd w w.heap.size d0 cs0) :
    Calls Try.prog 10 #[.agg cs0.toArray] w fun e w' => e = .returned (.bool true) ∧ Below w.heap.size w w' := by
  obtain ⟨y0_a0, y1_a0, y2_a0, y3_a0, y4_a0, n4_a0, c4_a0, y5_a0, n5_a0, c5_a0, y6_a0, n6_a0, c6_a0, rfl⟩ := hd0.form hr0
  have HD0 := Lib.hid (And.intro hd0 (And.intro hok0 hr0))
  clear hd0 hok0 hr0
  go_enter Try.func10, Try.ntmps10
  have HB0 := Lib.hid (Below.refl w.heap.size w)
  go_wp2_with fail
  refine (szVal_any HD0.out.1 _ 1048576 _ ((((HD0.out.2.2.below HB0.out).more HB0.out.size).below (B := w.heap.size) (by repeat' (first | refine Below.setCell ?_ (by first | (simp; done) | (simp; omega) | omega) _ | refine Below.alloc ?_ (by first | (simp; done) | (simp; omega) | omega) _ | refine Below.drew ?_ | exact Below.refl _ _))).more (by first | exact Nat.le_refl _ | (simp; done) | (simp; omega))) HD0.out.2.1 (by omega) (by omega)).mono ?_
  rintro e w1 ⟨r0, rfl, hr0, hb⟩
  have HR0 := Lib.hid hr0
  clear hr0
  have HS : Hid (Below w.heap.size w w1) := by
    refine Lib.hid (Below.trans ?_ (hb.mono ?_))
    · repeat' (first | refine Below.setCell ?_ (by first | (simp; done) | (simp; omega) | omega) _ | refine Below.alloc ?_ (by first | (simp; done) | (simp; omega) | omega) _ | refine Below.drew ?_ | exact Below.refl _ _)
    · first | exact Nat.le_refl _ | (simp; done) | (simp; omega)
  have HN1 := HS.out.size
  have HB1 := Lib.hid (HB0.out.trans (HS.out.mono HB0.out.size))
  have HM1 := HB1.out.size
  have hx := (own_keep ((box_new (e := 44) (s := 7) (w) #[.int .i64 y0_a0, .int .i64 y1_a0, .int .i64 y2_a0, .string y3_a0, .slice y4_a0 n4_a0 c4_a0, .slice y5_a0 n5_a0 c5_a0, .slice y6_a0 n6_a0 c6_a0] rfl).1) fun j hj => hb.block j (by injection hj with hj; have hj : (w).heap.size = j := hj; subst hj; first | (simp; done) | (simp; omega)))
  have HXA0_1 := Lib.hid hx
  clear hx
  obtain ⟨hc1, hf1⟩ := bcell hb
  have hz1_0 : w.heap.size < w1.heap.size := by have h1 := hb.size; first | (simp at h1; omega) | omega
  clear hb HS
  by_cases hng : r0 < 0
  · go_wp2_with fail
    go_ret
    exact ⟨rfl, HB1.out⟩
  · obtain ⟨l0, rfl⟩ : ∃ l : Nat, r0 = l := ⟨r0.toNat, by omega⟩
    have hle0 : l0 ≤ 1048576 := by have := HR0.out.2; omega
    have hwt0 : d0.wt ≤ 1048576 := by have := HR0.out.1 (by omega); omega
    clear hng
    obtain ⟨ans, hans⟩ : ∃ ans : Int, ans = (d0.dep : Nat) := ⟨_, rfl⟩
    have HANS := Lib.hid hans
    clear hans
    go_wp2_with fail
    refine (toValue_any HD0.out.1 _ _ ((((HD0.out.2.2.below HB1.out).more HB1.out.size).below (B := w1.heap.size) (by repeat' (first | refine Below.setCell ?_ (by first | (simp; done) | (simp; omega) | omega) _ | refine Below.alloc ?_ (by first | (simp; done) | (simp; omega) | omega) _ | refine Below.drew ?_ | exact Below.refl _ _))).more (by first | exact Nat.le_refl _ | (simp; done) | (simp; omega))) hwt0).mono ?_
    rintro e w2 ⟨cs, fp, rfl, how, _, hb⟩
    have hrd := how.read
    clear how
    obtain ⟨y0_b2, y1_b2, y2_b2, y3_b2, y4_b2, n4_b2, c4_b2, y5_b2, n5_b2, c5_b2, y6_b2, n6_b2, c6_b2, rfl⟩ := HD0.out.1.form hrd
    have HO2_2 := Lib.hid hrd
    clear hrd
    have HS : Hid (Below w1.heap.size w1 w2) := by
      refine Lib.hid (Below.trans ?_ (hb.mono ?_))
      · repeat' (first | refine Below.setCell ?_ (by first | (simp; done) | (simp; omega) | omega) _ | refine Below.alloc ?_ (by first | (simp; done) | (simp; omega) | omega) _ | refine Below.drew ?_ | exact Below.refl _ _)
      · first | exact Nat.le_refl _ | (simp; done) | (simp; omega)
    have HN2 := HS.out.size
    have HB2 := Lib.hid (HB1.out.trans (HS.out.mono HB1.out.size))
    have HM2 := HB2.out.size
    have HXA0_2 := Lib.hid (own_keep HXA0_1.out fun j hj => HS.out.block j (HXA0_1.out.lt j hj).2)
    clear HXA0_1
    obtain ⟨hc2, hf2⟩ := bcell hb
    have hz2_0 : w.heap.size < w2.heap.size := by have h1 := hb.size; first | (simp at h1; omega) | omega
    clear hb HS
    go_wp2_with fail
    refine (specDepth_ans HD0.out.1 hwt0 _ _ (((HO2_2.out).below (B := w2.heap.size) (by repeat' (first | refine Below.setCell ?_ (by first | (simp; done) | (simp; omega) | omega) _ | refine Below.alloc ?_ (by first | (simp; done) | (simp; omega) | omega) _ | refine Below.drew ?_ | exact Below.refl _ _))).more (by first | exact Nat.le_refl _ | (simp; done) | (simp; omega))) _ HANS.out).mono ?_
    rintro e w3 ⟨rfl, hb⟩
    have HS : Hid (Below w2.heap.size w2 w3) := by
      refine Lib.hid (Below.trans ?_ (hb.mono ?_))
      · repeat' (first | refine Below.setCell ?_ (by first | (simp; done) | (simp; omega) | omega) _ | refine Below.alloc ?_ (by first | (simp; done) | (simp; omega) | omega) _ | refine Below.drew ?_ | exact Below.refl _ _)
      · first | exact Nat.le_refl _ | (simp; done) | (simp; omega)
    have HN3 := HS.out.size
    have HB3 := Lib.hid (HB2.out.trans (HS.out.mono HB2.out.size))
    have HM3 := HB3.out.size
    have HO2_3 := Lib.hid ((HO2_2.out.below HS.out).more HS.out.size)
    clear HO2_2
    have HXA0_3 := Lib.hid (own_keep HXA0_2.out fun j hj => HS.out.block j (HXA0_2.out.lt j hj).2)
    clear HXA0_2
    obtain ⟨hc3, hf3⟩ := bcell hb
    have hz3_0 : w.heap.size < w3.heap.size := by have h1 := hb.size; first | (simp at h1; omega) | omega
    clear hb HS
    go_wp2_with fail
    refine (toValue_any HD0.out.1 _ _ ((((HD0.out.2.2.below HB3.out).more HB3.out.size).below (B := w3.heap.size) (by repeat' (first | refine Below.setCell ?_ (by first | (simp; done) | (simp; omega) | omega) _ | refine Below.alloc ?_ (by first | (simp; done) | (simp; omega) | omega) _ | refine Below.drew ?_ | exact Below.refl _ _))).more (by first | exact Nat.le_refl _ | (simp; done) | (simp; omega))) hwt0).mono ?_
    rintro e w4 ⟨cs, fp, rfl, how, _, hb⟩
    have hrd := how.read
    clear how
    obtain ⟨y0_b4, y1_b4, y2_b4, y3_b4, y4_b4, n4_b4, c4_b4, y5_b4, n5_b4, c5_b4, y6_b4, n6_b4, c6_b4, rfl⟩ := HD0.out.1.form hrd
    have HO4_4 := Lib.hid hrd
    clear hrd
    have HS : Hid (Below w3.heap.size w3 w4) := by
      refine Lib.hid (Below.trans ?_ (hb.mono ?_))
      · repeat' (first | refine Below.setCell ?_ (by first | (simp; done) | (simp; omega) | omega) _ | refine Below.alloc ?_ (by first | (simp; done) | (simp; omega) | omega) _ | refine Below.drew ?_ | exact Below.refl _ _)
      · first | exact Nat.le_refl _ | (simp; done) | (simp; omega)
    have HN4 := HS.out.size
    have HB4 := Lib.hid (HB3.out.trans (HS.out.mono HB3.out.size))
    have HM4 := HB4.out.size
    have HO2_4 := Lib.hid ((HO2_3.out.below HS.out).more HS.out.size)
    clear HO2_3
    have HXA0_4 := Lib.hid (own_keep HXA0_3.out fun j hj => HS.out.block j (HXA0_3.out.lt j hj).2)
    clear HXA0_3
    obtain ⟨hc4, hf4⟩ := bcell hb
    have hz4_0 : w.heap.size < w4.heap.size := by have h1 := hb.size; first | (simp at h1; omega) | omega
    clear hb HS
    go_wp2_with fail
    refine (implDepth_ans HD0.out.1 hwt0 _ _ (((HO4_4.out).below (B := w4.heap.size) (by repeat' (first | refine Below.setCell ?_ (by first | (simp; done) | (simp; omega) | omega) _ | refine Below.alloc ?_ (by first | (simp; done) | (simp; omega) | omega) _ | refine Below.drew ?_ | exact Below.refl _ _))).more (by first | exact Nat.le_refl _ | (simp; done) | (simp; omega))) _ HANS.out).mono ?_
    rintro e w5 ⟨rfl, hb⟩
    have HS : Hid (Below w4.heap.size w4 w5) := by
      refine Lib.hid (Below.trans ?_ (hb.mono ?_))
      · repeat' (first | refine Below.setCell ?_ (by first | (simp; done) | (simp; omega) | omega) _ | refine Below.alloc ?_ (by first | (simp; done) | (simp; omega) | omega) _ | refine Below.drew ?_ | exact Below.refl _ _)
      · first | exact Nat.le_refl _ | (simp; done) | (simp; omega)
    have HN5 := HS.out.size
    have HB5 := Lib.hid (HB4.out.trans (HS.out.mono HB4.out.size))
    have HM5 := HB5.out.size
    have HO2_5 := Lib.hid ((HO2_4.out.below HS.out).more HS.out.size)
    clear HO2_4
    have HO4_5 := Lib.hid ((HO4_4.out.below HS.out).more HS.out.size)
    clear HO4_4
    have HXA0_5 := Lib.hid (own_keep HXA0_4.out fun j hj => HS.out.block j (HXA0_4.out.lt j hj).2)
    clear HXA0_4
    have hx := (own_keep ((box_new (e := 50) (s := 7) (w4) #[.int .i64 y0_b4, .int .i64 y1_b4, .int .i64 y2_b4, .string y3_b4, .slice y4_b4 n4_b4 c4_b4, .slice y5_b4 n5_b4 c5_b4, .slice y6_b4 n6_b4 c6_b4] rfl).1) fun j hj => hb.block j (by injection hj with hj; have hj : (w4).heap.size = j := hj; subst hj; first | (simp; done) | (simp; omega)))
    have HXX0_5 := Lib.hid hx
    clear hx
    obtain ⟨hc5, hf5⟩ := bcell hb
    have hz5_0 : w.heap.size < w5.heap.size := by have h1 := hb.size; first | (simp at h1; omega) | omega
    have hz5_1 : w4.heap.size < w5.heap.size := by have h1 := hb.size; first | (simp at h1; omega) | omega
    clear hb HS
    go_wp2_with fail
    have X0c0 : w5.cell? ⟨w4.heap.size, 0, none⟩ = some (.int .i64 y0_b4) := HXX0_5.out.cellAt 0 (by omega)
    have X0c1 : w5.cell? ⟨w4.heap.size, 1, none⟩ = some (.int .i64 y1_b4) := HXX0_5.out.cellAt 1 (by omega)
    have X0c2 : w5.cell? ⟨w4.heap.size, 2, none⟩ = some (.int .i64 y2_b4) := HXX0_5.out.cellAt 2 (by omega)
    have X0c3 : w5.cell? ⟨w4.heap.size, 3, none⟩ = some (.string y3_b4) := HXX0_5.out.cellAt 3 (by omega)
    have X0c4 : w5.cell? ⟨w4.heap.size, 4, none⟩ = some (.slice y4_b4 n4_b4 c4_b4) := HXX0_5.out.cellAt 4 (by omega)
    have X0c5 : w5.cell? ⟨w4.heap.size, 5, none⟩ = some (.slice y5_b4 n5_b4 c5_b4) := HXX0_5.out.cellAt 5 (by omega)
    have X0c6 : w5.cell? ⟨w4.heap.size, 6, none⟩ = some (.slice y6_b4 n6_b4 c6_b4) := HXX0_5.out.cellAt 6 (by omega)
    have X0lt : w4.heap.size < w5.heap.size := (HXX0_5.out.lt _ rfl).2
    have A0c0 : w5.cell? ⟨w.heap.size, 0, none⟩ = some (.int .i64 y0_a0) := HXA0_5.out.cellAt 0 (by omega)
    have A0c1 : w5.cell? ⟨w.heap.size, 1, none⟩ = some (.int .i64 y1_a0) := HXA0_5.out.cellAt 1 (by omega)
    have A0c2 : w5.cell? ⟨w.heap.size, 2, none⟩ = some (.int .i64 y2_a0) := HXA0_5.out.cellAt 2 (by omega)
    have A0c3 : w5.cell? ⟨w.heap.size, 3, none⟩ = some (.string y3_a0) := HXA0_5.out.cellAt 3 (by omega)
    have A0c4 : w5.cell? ⟨w.heap.size, 4, none⟩ = some (.slice y4_a0 n4_a0 c4_a0) := HXA0_5.out.cellAt 4 (by omega)
    have A0c5 : w5.cell? ⟨w.heap.size, 5, none⟩ = some (.slice y5_a0 n5_a0 c5_a0) := HXA0_5.out.cellAt 5 (by omega)
    have A0c6 : w5.cell? ⟨w.heap.size, 6, none⟩ = some (.slice y6_a0 n6_a0 c6_a0) := HXA0_5.out.cellAt 6 (by omega)
    have A0lt : w.heap.size < w5.heap.size := (HXA0_5.out.lt _ rfl).2
    go_region_held3 (fun w' => w'.cell? ⟨w4.heap.size, 0, none⟩ = some (.int .i64 y0_b4) ∧ w'.cell? ⟨w4.heap.size, 1, none⟩ = some (.int .i64 y1_b4) ∧ w'.cell? ⟨w4.heap.size, 2, none⟩ = some (.int .i64 y2_b4) ∧ w'.cell? ⟨w4.heap.size, 3, none⟩ = some (.string y3_b4) ∧ w'.cell? ⟨w4.heap.size, 4, none⟩ = some (.slice y4_b4 n4_b4 c4_b4) ∧ w'.cell? ⟨w4.heap.size, 5, none⟩ = some (.slice y5_b4 n5_b4 c5_b4) ∧ w'.cell? ⟨w4.heap.size, 6, none⟩ = some (.slice y6_b4 n6_b4 c6_b4) ∧ w'.cell? ⟨w.heap.size, 0, none⟩ = some (.int .i64 y0_a0) ∧ w'.cell? ⟨w.heap.size, 1, none⟩ = some (.int .i64 y1_a0) ∧ w'.cell? ⟨w.heap.size, 2, none⟩ = some (.int .i64 y2_a0) ∧ w'.cell? ⟨w.heap.size, 3, none⟩ = some (.string y3_a0) ∧ w'.cell? ⟨w.heap.size, 4, none⟩ = some (.slice y4_a0 n4_a0 c4_a0) ∧ w'.cell? ⟨w.heap.size, 5, none⟩ = some (.slice y5_a0 n5_a0 c5_a0) ∧ w'.cell? ⟨w.heap.size, 6, none⟩ = some (.slice y6_a0 n6_a0 c6_a0)) (first | exact ⟨X0c0, X0c1, X0c2, X0c3, X0c4, X0c5, X0c6, A0c0, A0c1, A0c2, A0c3, A0c4, A0c5, A0c6⟩ | exact ⟨(hb1.cell (p := ⟨w4.heap.size, 0, none⟩) (by first | exact X0lt | exact Nat.lt_of_lt_of_le X0lt hbs1)).trans X0c0, (hb1.cell (p := ⟨w4.heap.size, 1, none⟩) (by first | exact X0lt | exact Nat.lt_of_lt_of_le X0lt hbs1)).trans X0c1, (hb1.cell (p := ⟨w4.heap.size, 2, none⟩) (by first | exact X0lt | exact Nat.lt_of_lt_of_le X0lt hbs1)).trans X0c2, (hb1.cell (p := ⟨w4.heap.size, 3, none⟩) (by first | exact X0lt | exact Nat.lt_of_lt_of_le X0lt hbs1)).trans X0c3, (hb1.cell (p := ⟨w4.heap.size, 4, none⟩) (by first | exact X0lt | exact Nat.lt_of_lt_of_le X0lt hbs1)).trans X0c4, (hb1.cell (p := ⟨w4.heap.size, 5, none⟩) (by first | exact X0lt | exact Nat.lt_of_lt_of_le X0lt hbs1)).trans X0c5, (hb1.cell (p := ⟨w4.heap.size, 6, none⟩) (by first | exact X0lt | exact Nat.lt_of_lt_of_le X0lt hbs1)).trans X0c6, (hb1.cell (p := ⟨w.heap.size, 0, none⟩) (by first | exact A0lt | exact Nat.lt_of_lt_of_le A0lt hbs1)).trans A0c0, (hb1.cell (p := ⟨w.heap.size, 1, none⟩) (by first | exact A0lt | exact Nat.lt_of_lt_of_le A0lt hbs1)).trans A0c1, (hb1.cell (p := ⟨w.heap.size, 2, none⟩) (by first | exact A0lt | exact Nat.lt_of_lt_of_le A0lt hbs1)).trans A0c2, (hb1.cell (p := ⟨w.heap.size, 3, none⟩) (by first | exact A0lt | exact Nat.lt_of_lt_of_le A0lt hbs1)).trans A0c3, (hb1.cell (p := ⟨w.heap.size, 4, none⟩) (by first | exact A0lt | exact Nat.lt_of_lt_of_le A0lt hbs1)).trans A0c4, (hb1.cell (p := ⟨w.heap.size, 5, none⟩) (by first | exact A0lt | exact Nat.lt_of_lt_of_le A0lt hbs1)).trans A0c5, (hb1.cell (p := ⟨w.heap.size, 6, none⟩) (by first | exact A0lt | exact Nat.lt_of_lt_of_le A0lt hbs1)).trans A0c6⟩ | exact ⟨(hb2.cell (p := ⟨w4.heap.size, 0, none⟩) (by first | exact X0lt | exact Nat.lt_of_lt_of_le X0lt hbs1)).trans ((hb1.cell (p := ⟨w4.heap.size, 0, none⟩) X0lt).trans X0c0), (hb2.cell (p := ⟨w4.heap.size, 1, none⟩) (by first | exact X0lt | exact Nat.lt_of_lt_of_le X0lt hbs1)).trans ((hb1.cell (p := ⟨w4.heap.size, 1, none⟩) X0lt).trans X0c1), (hb2.cell (p := ⟨w4.heap.size, 2, none⟩) (by first | exact X0lt | exact Nat.lt_of_lt_of_le X0lt hbs1)).trans ((hb1.cell (p := ⟨w4.heap.size, 2, none⟩) X0lt).trans X0c2), (hb2.cell (p := ⟨w4.heap.size, 3, none⟩) (by first | exact X0lt | exact Nat.lt_of_lt_of_le X0lt hbs1)).trans ((hb1.cell (p := ⟨w4.heap.size, 3, none⟩) X0lt).trans X0c3), (hb2.cell (p := ⟨w4.heap.size, 4, none⟩) (by first | exact X0lt | exact Nat.lt_of_lt_of_le X0lt hbs1)).trans ((hb1.cell (p := ⟨w4.heap.size, 4, none⟩) X0lt).trans X0c4), (hb2.cell (p := ⟨w4.heap.size, 5, none⟩) (by first | exact X0lt | exact Nat.lt_of_lt_of_le X0lt hbs1)).trans ((hb1.cell (p := ⟨w4.heap.size, 5, none⟩) X0lt).trans X0c5), (hb2.cell (p := ⟨w4.heap.size, 6, none⟩) (by first | exact X0lt | exact Nat.lt_of_lt_of_le X0lt hbs1)).trans ((hb1.cell (p := ⟨w4.heap.size, 6, none⟩) X0lt).trans X0c6), (hb2.cell (p := ⟨w.heap.size, 0, none⟩) (by first | exact A0lt | exact Nat.lt_of_lt_of_le A0lt hbs1)).trans ((hb1.cell (p := ⟨w.heap.size, 0, none⟩) A0lt).trans A0c0), (hb2.cell (p := ⟨w.heap.size, 1, none⟩) (by first | exact A0lt | exact Nat.lt_of_lt_of_le A0lt hbs1)).trans ((hb1.cell (p := ⟨w.heap.size, 1, none⟩) A0lt).trans A0c1), (hb2.cell (p := ⟨w.heap.size, 2, none⟩) (by first | exact A0lt | exact Nat.lt_of_lt_of_le A0lt hbs1)).trans ((hb1.cell (p := ⟨w.heap.size, 2, none⟩) A0lt).trans A0c2), (hb2.cell (p := ⟨w.heap.size, 3, none⟩) (by first | exact A0lt | exact Nat.lt_of_lt_of_le A0lt hbs1)).trans ((hb1.cell (p := ⟨w.heap.size, 3, none⟩) A0lt).trans A0c3), (hb2.cell (p := ⟨w.heap.size, 4, none⟩) (by first | exact A0lt | exact Nat.lt_of_lt_of_le A0lt hbs1)).trans ((hb1.cell (p := ⟨w.heap.size, 4, none⟩) A0lt).trans A0c4), (hb2.cell (p := ⟨w.heap.size, 5, none⟩) (by first | exact A0lt | exact Nat.lt_of_lt_of_le A0lt hbs1)).trans ((hb1.cell (p := ⟨w.heap.size, 5, none⟩) A0lt).trans A0c5), (hb2.cell (p := ⟨w.heap.size, 6, none⟩) (by first | exact A0lt | exact Nat.lt_of_lt_of_le A0lt hbs1)).trans ((hb1.cell (p := ⟨w.heap.size, 6, none⟩) A0lt).trans A0c6)⟩)
      (first | (go_at_call 33; refine (toValue_any HD0.out.1 _ _ ((((HD0.out.2.2.below HB5.out).more HB5.out.size).below (B := w5.heap.size) (by repeat' (first | refine Below.setCell ?_ (by first | (simp; done) | (simp; omega) | omega) _ | refine Below.alloc ?_ (by first | (simp; done) | (simp; omega) | omega) _ | refine Below.drew ?_ | exact Below.refl _ _))).more (by first | exact Nat.le_refl _ | (simp; done) | (simp; omega))) hwt0).mono ?_; rintro e w6 ⟨cs, fp, rfl, how, _, hb1⟩; have hrd1 := how.read; obtain ⟨y0_b6, y1_b6, y2_b6, y3_b6, y4_b6, n4_b6, c4_b6, y5_b6, n5_b6, c5_b6, y6_b6, n6_b6, c6_b6, rfl⟩ := HD0.out.1.form hrd1; have hbs1 := hb1.size) | (go_at_call 35; refine (eqValue_any HD0.out.1 HD0.out.1 _ _ _ (((((HO4_5.out).below (B := w5.heap.size) (by repeat' (first | refine Below.setCell ?_ (by first | (simp; done) | (simp; omega) | omega) _ | refine Below.alloc ?_ (by first | (simp; done) | (simp; omega) | omega) _ | refine Below.drew ?_ | exact Below.refl _ _))).more (by first | exact Nat.le_refl _ | (simp; done) | (simp; omega))).below hb1).more hbs1) hrd1).mono ?_; rintro e w7 ⟨b, rfl, hbi, hb2⟩; obtain rfl : b = true := hbi.2 rfl))
    have HS : Hid (Below w5.heap.size w5 w6) := by
      refine Lib.hid (Below.trans ?_ (hb1.mono ?_))
      · repeat' (first | refine Below.setCell ?_ (by first | (simp; done) | (simp; omega) | omega) _ | refine Below.alloc ?_ (by first | (simp; done) | (simp; omega) | omega) _ | refine Below.drew ?_ | exact Below.refl _ _)
      · first | exact Nat.le_refl _ | (simp; done) | (simp; omega)
    have HN6 := HS.out.size
    have HB6 := Lib.hid (HB5.out.trans (HS.out.mono HB5.out.size))
    have HM6 := HB6.out.size
    have HO2_6 := Lib.hid ((HO2_5.out.below HS.out).more HS.out.size)
    clear HO2_5
    have HO4_6 := Lib.hid ((HO4_5.out.below HS.out).more HS.out.size)
    clear HO4_5
    have HXA0_6 := Lib.hid (own_keep HXA0_5.out fun j hj => HS.out.block j (HXA0_5.out.lt j hj).2)
    clear HXA0_5
    have HXX0_6 := Lib.hid (own_keep HXX0_5.out fun j hj => HS.out.block j (HXX0_5.out.lt j hj).2)
    clear HXX0_5
    obtain ⟨hc6, hf6⟩ := bcell hb1
    have hz6_0 : w.heap.size < w6.heap.size := by have h1 := hb1.size; first | (simp at h1; omega) | omega
    have hz6_1 : w4.heap.size < w6.heap.size := by have h1 := hb1.size; first | (simp at h1; omega) | omega
    clear hb1 HS
    have HS : Hid (Below w6.heap.size w6 w7) := by
      refine Lib.hid (Below.trans ?_ (hb2.mono ?_))
      · repeat' (first | refine Below.setCell ?_ (by first | (simp; done) | (simp; omega) | omega) _ | refine Below.alloc ?_ (by first | (simp; done) | (simp; omega) | omega) _ | refine Below.drew ?_ | exact Below.refl _ _)
      · first | exact Nat.le_refl _ | (simp; done) | (simp; omega)
    have HN7 := HS.out.size
    have HB7 := Lib.hid (HB6.out.trans (HS.out.mono HB6.out.size))
    have HM7 := HB7.out.size
    have HO2_7 := Lib.hid ((HO2_6.out.below HS.out).more HS.out.size)
    clear HO2_6
    have HO4_7 := Lib.hid ((HO4_6.out.below HS.out).more HS.out.size)
    clear HO4_6
    have HXA0_7 := Lib.hid (own_keep HXA0_6.out fun j hj => HS.out.block j (HXA0_6.out.lt j hj).2)
    clear HXA0_6
    have HXX0_7 := Lib.hid (own_keep HXX0_6.out fun j hj => HS.out.block j (HXX0_6.out.lt j hj).2)
    clear HXX0_6
    obtain ⟨hc7, hf7⟩ := bcell hb2
    have hz7_0 : w.heap.size < w7.heap.size := by have h1 := hb2.size; first | (simp at h1; omega) | omega
    have hz7_1 : w4.heap.size < w7.heap.size := by have h1 := hb2.size; first | (simp at h1; omega) | omega
    clear hb2 HS
    go_wp2_with fail
    go_ret
    refine ⟨rfl, HB7.out.trans ?_⟩
    repeat' (first | refine Below.setCell ?_ (by first | (simp; done) | (simp; omega) | omega) _ | refine Below.alloc ?_ (by first | (simp; done) | (simp; omega) | omega) _ | refine Below.drew ?_ | exact Below.refl _ _)
end Go.Proofs.Ytaanfdccnnfceaa

/-
  Two stacks of values beside two boxes: what equalBy holds from round to round. (Written by geneqby.py.)
-/

namespace Go.Proofs.Ytaanfdccnnfceaa
open Go.RowKit
set_option linter.unusedVariables false

mutual
/-- A value with its rows turned by f. -/
def Dt.nrm (f : Dt → Dt) : Dt → Dt
  | .agg [a, b, c, e, .lst l, g, .lst r] => .agg [a, b, c, e, .lst (nrms f l), g, .lst (r.map f)]
  | d => d
def nrms (f : Dt → Dt) : List Dt → List Dt
  | [] => []
  | x :: xs => x.nrm f :: nrms f xs
end
theorem nrm_mk (f : Dt → Dt) (k n s : Int) (t : ByteArray) (l c r : List Dt) : Dt.nrm f (.agg [.int k, .int n, .int s, .str t, .lst l, .lst c, .lst r]) = .agg [.int k, .int n, .int s, .str t, .lst (nrms f l), .lst c, .lst (r.map f)] := by simp only [Dt.nrm]
theorem nrms_map (f : Dt → Dt) : ∀ xs : List Dt, nrms f xs = xs.map (Dt.nrm f)
  | [] => by simp [nrms]
  | x :: xs => by simp [nrms, nrms_map f xs]
theorem nrm_eq (f : Dt → Dt) (k n s : Int) (t : ByteArray) (l : List Dt) (c : List ByteArray) (r : List Dt) (k' n' s' : Int) (t' : ByteArray) (l' : List Dt) (c' : List ByteArray) (r' : List Dt) :
    Dt.nrm f (.agg [.int k, .int n, .int s, .str t, .lst l, .lst (c.map .str), .lst r]) = Dt.nrm f (.agg [.int k', .int n', .int s', .str t', .lst l', .lst (c'.map .str), .lst r']) ↔
      (k = k' ∧ n = n' ∧ s = s' ∧ t = t' ∧ l.length = l'.length ∧ c = c') ∧ r.map f = r'.map f ∧ nrms f l = nrms f l' := by
  rw [nrm_mk, nrm_mk]
  simp only [Dt.agg.injEq, List.cons.injEq, Dt.int.injEq, Dt.str.injEq, Dt.lst.injEq, and_true]
  constructor
  · rintro ⟨h1, h2, h3, h4, h5, h6, h7⟩
    have := congrArg List.length h5
    rw [nrms_map, nrms_map, List.length_map, List.length_map] at this
    exact ⟨⟨h1, h2, h3, h4, this, strs_inj h6⟩, h7, h5⟩
  · rintro ⟨⟨h1, h2, h3, h4, _, h6⟩, h7, h5⟩
    exact ⟨h1, h2, h3, h4, h5, by rw [h6], h7⟩
theorem nrms_push (f : Dt → Dt) (us vs : List Dt) (x y : Dt) (h : us.length = vs.length) : nrms f (us ++ [x]) = nrms f (vs ++ [y]) ↔ nrms f us = nrms f vs ∧ x.nrm f = y.nrm f := by
  simp only [nrms_map, List.map_append, List.map_cons, List.map_nil]
  constructor
  · intro e
    have := List.append_inj e (by simp [h])
    exact ⟨this.1, by simpa using this.2⟩
  · rintro ⟨h1, h2⟩
    rw [h1, h2]
theorem nrms_app (f : Dt → Dt) (us vs l l' : List Dt) (h : us.length = vs.length) : nrms f (us ++ l) = nrms f (vs ++ l') ↔ nrms f us = nrms f vs ∧ nrms f l = nrms f l' := by
  simp only [nrms_map, List.map_append]
  constructor
  · intro e
    exact List.append_inj e (by simp [h])
  · rintro ⟨h1, h2⟩
    rw [h1, h2]

structure EqSt (w : World) (st ts : List Dt) (b1 b2 : List Value) (g1 q1 g2 q2 : Nat) (cl cr : List Value) (wx : World) : Prop where
  o1 : wx.ownsRow (w.heap.size + 2) 50 7 (.slice (some ⟨g1, 0, none⟩) st.length q1) st.length cl
  o2 : wx.ownsRow (w.heap.size + 2) 50 7 (.slice (some ⟨g2, 0, none⟩) ts.length q2) ts.length cr
  ne : g1 ≠ g2
  r1 : RdL w w.heap.size st cl
  r2 : RdL w w.heap.size ts cr
  x1 : wx.ownsRow w.heap.size 50 7 (.slice (some ⟨w.heap.size, 0, none⟩) 1 1) 1 b1
  x2 : wx.ownsRow w.heap.size 50 7 (.slice (some ⟨w.heap.size + 1, 0, none⟩) 1 1) 1 b2
  bel : Below w.heap.size w wx
  v1 : ∀ x ∈ st, IsVal x
  v2 : ∀ x ∈ ts, IsVal x

theorem own_at {w : World} {base n q g s : Nat} {e : TypeId} {xs : List Value} (h : w.ownsRow base e s (.slice (some ⟨g, 0, none⟩) n q) n xs) : base ≤ g ∧ g < w.heap.size := h.lt g rfl
theorem own_blk {w : World} {base n q g s : Nat} {e : TypeId} {xs : List Value} (h : w.ownsRow base e s (.slice (some ⟨g, 0, none⟩) n q) n xs) {w' : World} (hk : w'.heap[g]? = w.heap[g]?) : w'.ownsRow base e s (.slice (some ⟨g, 0, none⟩) n q) n xs :=
  own_keep h fun b hb => by injection hb with hb; have hb : g = b := hb; subst hb; exact hk
theorem EqSt.keep {w wx wy : World} {st ts : List Dt} {b1 b2 cl cr : List Value} {g1 q1 g2 q2 : Nat} (h : EqSt w st ts b1 b2 g1 q1 g2 q2 cl cr wx) (hb : Below wx.heap.size wx wy) : EqSt w st ts b1 b2 g1 q1 g2 q2 cl cr wy :=
  ⟨own_blk h.o1 (hb.block _ (own_at h.o1).2), own_blk h.o2 (hb.block _ (own_at h.o2).2), h.ne, h.r1, h.r2, own_blk h.x1 (hb.block _ (own_at h.x1).2), own_blk h.x2 (hb.block _ (own_at h.x2).2), h.bel.trans (hb.mono h.bel.size), h.v1, h.v2⟩
theorem EqSt.drew {w wx : World} {st ts : List Dt} {b1 b2 cl cr : List Value} {g1 q1 g2 q2 : Nat} (h : EqSt w st ts b1 b2 g1 q1 g2 q2 cl cr wx) : EqSt w st ts b1 b2 g1 q1 g2 q2 cl cr wx.drew := h.keep (Below.refl _ _).drew
theorem EqSt.store1 {w wx : World} {st ts : List Dt} {b1 b2 cl cr : List Value} {g1 q1 g2 q2 : Nat} (h : EqSt w st ts b1 b2 g1 q1 g2 q2 cl cr wx) (us : List Value) (hu : us.length = 7) : EqSt w st ts us b2 g1 q1 g2 q2 cl cr (wx.setCells w.heap.size 0 us) := by
  obtain ⟨h1, h2⟩ := box_store h.x1 us hu
  have k : ∀ g, g < wx.heap.size → g ≠ w.heap.size → (wx.setCells w.heap.size 0 us).heap[g]? = wx.heap[g]? := fun g hg hne => h2.block g hg (fun e => hne (by injection e))
  have a1 := own_at h.o1
  have a2 := own_at h.o2
  have a3 := own_at h.x2
  exact ⟨own_blk h.o1 (k _ a1.2 (by omega)), own_blk h.o2 (k _ a2.2 (by omega)), h.ne, h.r1, h.r2, h1, own_blk h.x2 (k _ a3.2 (by omega)), h.bel.grown h2 h.bel.size (fun j hj => by cases hj; first | exact Nat.le_refl _ | exact Nat.le_succ _), h.v1, h.v2⟩
theorem EqSt.store2 {w wx : World} {st ts : List Dt} {b1 b2 cl cr : List Value} {g1 q1 g2 q2 : Nat} (h : EqSt w st ts b1 b2 g1 q1 g2 q2 cl cr wx) (us : List Value) (hu : us.length = 7) : EqSt w st ts b1 us g1 q1 g2 q2 cl cr (wx.setCells (w.heap.size + 1) 0 us) := by
  obtain ⟨h1, h2⟩ := box_store h.x2 us hu
  have k : ∀ g, g < wx.heap.size → g ≠ w.heap.size + 1 → (wx.setCells (w.heap.size + 1) 0 us).heap[g]? = wx.heap[g]? := fun g hg hne => h2.block g hg (fun e => hne (by cases e; rfl))
  have a1 := own_at h.o1
  have a2 := own_at h.o2
  have a3 := own_at h.x1
  exact ⟨own_blk h.o1 (k _ a1.2 (by omega)), own_blk h.o2 (k _ a2.2 (by omega)), h.ne, h.r1, h.r2, own_blk h.x1 (k _ a3.2 (by omega)), h1, h.bel.grown h2 h.bel.size (fun j hj => by cases hj; first | exact Nat.le_refl _ | exact Nat.le_succ _), h.v1, h.v2⟩
/-- The left stack loses its last value and takes others. -/
theorem EqSt.push1 {w wx w2 : World} {us zs ts : List Dt} {x : Dt} {b1 b2 cl cr news : List Value} {g1 q1 g2 q2 m : Nat} {v2 : Value} (h : EqSt w (us ++ [x]) ts b1 b2 g1 q1 g2 q2 cl cr wx)
    (ho : w2.ownsRow (w.heap.size + 2) 50 7 v2 (us.length + zs.length) (cl.take (us.length * 7) ++ news)) (hg : wx.grownBy w2 (Value.slice (some ⟨g1, 0, none⟩) us.length q1).ownBlock)
    (hn : (v2 = .slice none 0 0 ↔ Value.slice (some ⟨g1, 0, none⟩) us.length q1 = .slice none 0 0 ∧ m = 0) ∧ (v2.ownBlock = (Value.slice (some ⟨g1, 0, none⟩) us.length q1).ownBlock ∨ v2.ownBlock = some wx.heap.size))
    (hz : RdL w w.heap.size zs news) (hv : ∀ z ∈ zs, IsVal z) : ∃ g q, v2 = .slice (some ⟨g, 0, none⟩) (us.length + zs.length) q ∧ EqSt w (us ++ zs) ts b1 b2 g q g2 q2 (cl.take (us.length * 7) ++ news) cr w2 := by
  obtain ⟨g, q, rfl, hgg, hgb, hgl⟩ := own_form_at ho hn
  have k : ∀ j, j < wx.heap.size → j ≠ g1 → w2.heap[j]? = wx.heap[j]? := fun j hj hne => hg.block j hj (fun e => hne (by injection e))
  have a2 := own_at h.o2
  have a3 := own_at h.x1
  have a4 := own_at h.x2
  have a1 := own_at h.o1
  have hne := h.ne
  refine ⟨g, q, rfl, ⟨by simpa using ho, own_blk h.o2 (k _ a2.2 (fun e => hne e.symm)), ?_, ?_, h.r2, own_blk h.x1 (k _ a3.2 (by omega)), own_blk h.x2 (k _ a4.2 (by omega)), h.bel.grown hg h.bel.size (fun j hj => by injection hj with hj; have hj : g1 = j := hj; omega), ?_, h.v2⟩⟩
  · rcases hgg with rfl | rfl
    · exact hne
    · omega
  · exact (h.r1.last (k := 7) fun y hy => (h.v1 y (by simp [hy])).width).1.app hz
  · intro y hy
    rcases List.mem_append.1 hy with hy | hy
    · exact h.v1 y (by simp [hy])
    · exact hv y hy
theorem EqSt.push2 {w wx w2 : World} {us zs st : List Dt} {x : Dt} {b1 b2 cl cr news : List Value} {g1 q1 g2 q2 m : Nat} {v2 : Value} (h : EqSt w st (us ++ [x]) b1 b2 g1 q1 g2 q2 cl cr wx)
    (ho : w2.ownsRow (w.heap.size + 2) 50 7 v2 (us.length + zs.length) (cr.take (us.length * 7) ++ news)) (hg : wx.grownBy w2 (Value.slice (some ⟨g2, 0, none⟩) us.length q2).ownBlock)
    (hn : (v2 = .slice none 0 0 ↔ Value.slice (some ⟨g2, 0, none⟩) us.length q2 = .slice none 0 0 ∧ m = 0) ∧ (v2.ownBlock = (Value.slice (some ⟨g2, 0, none⟩) us.length q2).ownBlock ∨ v2.ownBlock = some wx.heap.size))
    (hz : RdL w w.heap.size zs news) (hv : ∀ z ∈ zs, IsVal z) : ∃ g q, v2 = .slice (some ⟨g, 0, none⟩) (us.length + zs.length) q ∧ EqSt w st (us ++ zs) b1 b2 g1 q1 g q cl (cr.take (us.length * 7) ++ news) w2 := by
  obtain ⟨g, q, rfl, hgg, hgb, hgl⟩ := own_form_at ho hn
  have k : ∀ j, j < wx.heap.size → j ≠ g2 → w2.heap[j]? = wx.heap[j]? := fun j hj hne => hg.block j hj (fun e => hne (by injection e))
  have a1 := own_at h.o1
  have a3 := own_at h.x1
  have a4 := own_at h.x2
  have a2 := own_at h.o2
  have hne := h.ne
  refine ⟨g, q, rfl, ⟨own_blk h.o1 (k _ a1.2 hne), by simpa using ho, ?_, h.r1, ?_, own_blk h.x1 (k _ a3.2 (by omega)), own_blk h.x2 (k _ a4.2 (by omega)), h.bel.grown hg h.bel.size (fun j hj => by injection hj with hj; have hj : g2 = j := hj; omega), h.v1, ?_⟩⟩
  · rcases hgg with rfl | rfl
    · exact hne
    · omega
  · exact (h.r2.last (k := 7) fun y hy => (h.v2 y (by simp [hy])).width).1.app hz
  · intro y hy
    rcases List.mem_append.1 hy with hy | hy
    · exact h.v2 y (by simp [hy])
    · exact hv y hy
theorem EqSt.start {w : World} {d d' : Dt} (b1 b2 : Array Value) (h1 : b1.size = 7) (h2 : b2.size = 7) (hd : IsVal d) (hd' : IsVal d') (hr : Rd w w.heap.size d b1.toList) (hr' : Rd w w.heap.size d' b2.toList) :
    EqSt w [d] [d'] b1.toList b2.toList (w.heap.size + 2) 1 (w.heap.size + 3) 1 b1.toList b2.toList ((((w.alloc (.cells b1 50)).alloc (.cells b2 50)).alloc (.cells b1 50)).alloc (.cells b2 50)) ∧
    EqSt w [d] [d'] b1.toList b2.toList (w.heap.size + 3) 1 (w.heap.size + 2) 1 b1.toList b2.toList ((((w.alloc (.cells b1 50)).alloc (.cells b2 50)).alloc (.cells b2 50)).alloc (.cells b1 50)) := by
  have a1 := World.ownsRow_lit (base := w.heap.size) (e := 50) (size := 7) w b1 1 (Nat.le_refl _) (by unfold maxLen; omega) (by omega)
  have a2 := World.ownsRow_lit (base := w.heap.size) (e := 50) (size := 7) (w.alloc (.cells b1 50)) b2 1 (by simp) (by unfold maxLen; omega) (by omega)
  have a3 := World.ownsRow_lit (base := w.heap.size + 2) (e := 50) (size := 7) ((w.alloc (.cells b1 50)).alloc (.cells b2 50)) b1 1 (by simp) (by unfold maxLen; omega) (by omega)
  have a4 := World.ownsRow_lit (base := w.heap.size + 2) (e := 50) (size := 7) (((w.alloc (.cells b1 50)).alloc (.cells b2 50)).alloc (.cells b1 50)) b2 1 (by first | (simp; done) | (simp; omega)) (by unfold maxLen; omega) (by omega)
  have c3 := World.ownsRow_lit (base := w.heap.size + 2) (e := 50) (size := 7) ((w.alloc (.cells b1 50)).alloc (.cells b2 50)) b2 1 (by simp) (by unfold maxLen; omega) (by omega)
  have c4 := World.ownsRow_lit (base := w.heap.size + 2) (e := 50) (size := 7) (((w.alloc (.cells b1 50)).alloc (.cells b2 50)).alloc (.cells b2 50)) b1 1 (by first | (simp; done) | (simp; omega)) (by unfold maxLen; omega) (by omega)
  have bl : ∀ c3 c4, Below w.heap.size w ((((w.alloc (.cells b1 50)).alloc (.cells b2 50)).alloc c3).alloc c4) := fun c3 c4 => (((((Below.refl _ _).alloc (Nat.le_refl _) _).alloc (by simp) _).alloc (by simp; omega) _).alloc (by simp; omega) _)
  have e2 : (w.alloc (.cells b1 50)).heap.size = w.heap.size + 1 := by simp
  have e3 : ((w.alloc (.cells b1 50)).alloc (.cells b2 50)).heap.size = w.heap.size + 2 := by simp
  have e4 : (((w.alloc (.cells b1 50)).alloc (.cells b2 50)).alloc (.cells b1 50)).heap.size = w.heap.size + 3 := by simp
  have e4' : (((w.alloc (.cells b1 50)).alloc (.cells b2 50)).alloc (.cells b2 50)).heap.size = w.heap.size + 3 := by simp
  rw [e2] at a2
  rw [e3] at a3 c3
  rw [e4] at a4
  rw [e4'] at c4
  have rl : RdL w w.heap.size [d] b1.toList := by simp only [RdL]; exact ⟨_, [], by simp, hr, rfl⟩
  have rl' : RdL w w.heap.size [d'] b2.toList := by simp only [RdL]; exact ⟨_, [], by simp, hr', rfl⟩
  exact ⟨⟨World.ownsRow.alloc a3 _, a4, by omega, rl, rl', ((World.ownsRow.alloc a1 _).alloc _).alloc _, (World.ownsRow.alloc a2 _).alloc _, bl _ _, by simpa using hd, by simpa using hd'⟩,
    ⟨c4, World.ownsRow.alloc c3 _, by omega, rl, rl', ((World.ownsRow.alloc a1 _).alloc _).alloc _, (World.ownsRow.alloc a2 _).alloc _, bl _ _, by simpa using hd, by simpa using hd'⟩⟩
end Go.Proofs.Ytaanfdccnnfceaa
