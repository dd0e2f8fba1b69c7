/-
  Texts that the proof rests on, put together: SizeLaw, Depth.
-/
import Derived.Test.YtaanfdccnnfceaaMgW24
import Derived.Test.YtaanfdccnnfceaaMgW7
import Derived.Test.YtaanfdccnnfceaaMgW11
import Derived.Test.YtaanfdccnnfceaaMgW20
/-
  The law FnExactSizeOf. (Written by genvlaw.py.)
-/

namespace Go.Proofs.Ytaanfdccnnfceaa
open Go.RowKit
set_option linter.unusedVariables false

theorem specSize_ans {d : Dt} (hd : IsVal d) (hwt : d.wt ≤ 1048576) (cs : List Value) (w : World) (h : Rd w w.heap.size d cs) (a : Int) (ha : a = (d.vsz : Nat)) :
    Calls Try.prog 38 #[.agg cs.toArray] w fun e w' => e = .returned (.int .i64 a) ∧ Below w.heap.size w w' := by subst ha; exact specSize_any hd hwt cs w h
theorem implSize_ans {d : Dt} (hd : IsVal d) (hwt : d.wt ≤ 1048576) (cs : List Value) (w : World) (h : Rd w w.heap.size d cs) (a : Int) (ha : a = (d.vsz : Nat)) :
    Calls Try.prog 39 #[.agg cs.toArray] w fun e w' => e = .returned (.int .i64 a) ∧ Below w.heap.size w w' := by subst ha; exact implSize_any hd hwt cs w h
set_option maxHeartbeats 1600000 in
set_option maxRecDepth 100000 in
theorem fnExactSizeOf_walk (w : World) {d0 : Dt} (hd0 : IsVal d0) (hok0 : d0.Ok) (cs0 : List Value) (hr0 : Rd w w.heap.size d0 cs0) :
    Calls Try.prog 12 #[.agg cs0.toArray] w fun e w' => e = .returned (.bool true) ∧ Below w.heap.size w w' := by
  obtain ⟨y0_a0, y1_a0, y2_a0, y3_a0, y4_a0, n4_a0, c4_a0, y5_a0, n5_a0, c5_a0, y6_a0, n6_a0, c6_a0, rfl⟩ := hd0.form hr0
  have HD0 := Lib.hid (And.intro hd0 (And.intro hok0 hr0))
  clear hd0 hok0 hr0
  go_enter Try.func12, Try.ntmps12
  have HB0 := Lib.hid (Below.refl w.heap.size w)
  go_wp2_with fail
  refine (szVal_any HD0.out.1 _ 1048576 _ ((((HD0.out.2.2.below HB0.out).more HB0.out.size).below (B := w.heap.size) (by repeat' (first | refine Below.setCell ?_ (by first | (simp; done) | (simp; omega) | omega) _ | refine Below.alloc ?_ (by first | (simp; done) | (simp; omega) | omega) _ | refine Below.drew ?_ | exact Below.refl _ _))).more (by first | exact Nat.le_refl _ | (simp; done) | (simp; omega))) HD0.out.2.1 (by omega) (by omega)).mono ?_
  rintro e w1 ⟨r0, rfl, hr0, hb⟩
  have HR0 := Lib.hid hr0
  clear hr0
  have HS : Hid (Below w.heap.size w w1) := by
    refine Lib.hid (Below.trans ?_ (hb.mono ?_))
    · repeat' (first | refine Below.setCell ?_ (by first | (simp; done) | (simp; omega) | omega) _ | refine Below.alloc ?_ (by first | (simp; done) | (simp; omega) | omega) _ | refine Below.drew ?_ | exact Below.refl _ _)
    · first | exact Nat.le_refl _ | (simp; done) | (simp; omega)
  have HN1 := HS.out.size
  have HB1 := Lib.hid (HB0.out.trans (HS.out.mono HB0.out.size))
  have HM1 := HB1.out.size
  have hx := (own_keep ((box_new (e := 44) (s := 7) (w) #[.int .i64 y0_a0, .int .i64 y1_a0, .int .i64 y2_a0, .string y3_a0, .slice y4_a0 n4_a0 c4_a0, .slice y5_a0 n5_a0 c5_a0, .slice y6_a0 n6_a0 c6_a0] rfl).1) fun j hj => hb.block j (by injection hj with hj; have hj : (w).heap.size = j := hj; subst hj; first | (simp; done) | (simp; omega)))
  have HXA0_1 := Lib.hid hx
  clear hx
  obtain ⟨hc1, hf1⟩ := bcell hb
  have hz1_0 : w.heap.size < w1.heap.size := by have h1 := hb.size; first | (simp at h1; omega) | omega
  clear hb HS
  by_cases hng : r0 < 0
  · go_wp2_with fail
    go_ret
    exact ⟨rfl, HB1.out⟩
  · obtain ⟨l0, rfl⟩ : ∃ l : Nat, r0 = l := ⟨r0.toNat, by omega⟩
    have hle0 : l0 ≤ 1048576 := by have := HR0.out.2; omega
    have hwt0 : d0.wt ≤ 1048576 := by have := HR0.out.1 (by omega); omega
    clear hng
    obtain ⟨ans, hans⟩ : ∃ ans : Int, ans = (d0.vsz : Nat) := ⟨_, rfl⟩
    have HANS := Lib.hid hans
    clear hans
    go_wp2_with fail
    refine (toValue_any HD0.out.1 _ _ ((((HD0.out.2.2.below HB1.out).more HB1.out.size).below (B := w1.heap.size) (by repeat' (first | refine Below.setCell ?_ (by first | (simp; done) | (simp; omega) | omega) _ | refine Below.alloc ?_ (by first | (simp; done) | (simp; omega) | omega) _ | refine Below.drew ?_ | exact Below.refl _ _))).more (by first | exact Nat.le_refl _ | (simp; done) | (simp; omega))) hwt0).mono ?_
    rintro e w2 ⟨cs, fp, rfl, how, _, hb⟩
    have hrd := how.read
    clear how
    obtain ⟨y0_b2, y1_b2, y2_b2, y3_b2, y4_b2, n4_b2, c4_b2, y5_b2, n5_b2, c5_b2, y6_b2, n6_b2, c6_b2, rfl⟩ := HD0.out.1.form hrd
    have HO2_2 := Lib.hid hrd
    clear hrd
    have HS : Hid (Below w1.heap.size w1 w2) := by
      refine Lib.hid (Below.trans ?_ (hb.mono ?_))
      · repeat' (first | refine Below.setCell ?_ (by first | (simp; done) | (simp; omega) | omega) _ | refine Below.alloc ?_ (by first | (simp; done) | (simp; omega) | omega) _ | refine Below.drew ?_ | exact Below.refl _ _)
      · first | exact Nat.le_refl _ | (simp; done) | (simp; omega)
    have HN2 := HS.out.size
    have HB2 := Lib.hid (HB1.out.trans (HS.out.mono HB1.out.size))
    have HM2 := HB2.out.size
    have HXA0_2 := Lib.hid (own_keep HXA0_1.out fun j hj => HS.out.block j (HXA0_1.out.lt j hj).2)
    clear HXA0_1
    obtain ⟨hc2, hf2⟩ := bcell hb
    have hz2_0 : w.heap.size < w2.heap.size := by have h1 := hb.size; first | (simp at h1; omega) | omega
    clear hb HS
    go_wp2_with fail
    refine (specSize_ans HD0.out.1 hwt0 _ _ (((HO2_2.out).below (B := w2.heap.size) (by repeat' (first | refine Below.setCell ?_ (by first | (simp; done) | (simp; omega) | omega) _ | refine Below.alloc ?_ (by first | (simp; done) | (simp; omega) | omega) _ | refine Below.drew ?_ | exact Below.refl _ _))).more (by first | exact Nat.le_refl _ | (simp; done) | (simp; omega))) _ HANS.out).mono ?_
    rintro e w3 ⟨rfl, hb⟩
    have HS : Hid (Below w2.heap.size w2 w3) := by
      refine Lib.hid (Below.trans ?_ (hb.mono ?_))
      · repeat' (first | refine Below.setCell ?_ (by first | (simp; done) | (simp; omega) | omega) _ | refine Below.alloc ?_ (by first | (simp; done) | (simp; omega) | omega) _ | refine Below.drew ?_ | exact Below.refl _ _)
      · first | exact Nat.le_refl _ | (simp; done) | (simp; omega)
    have HN3 := HS.out.size
    have HB3 := Lib.hid (HB2.out.trans (HS.out.mono HB2.out.size))
    have HM3 := HB3.out.size
    have HO2_3 := Lib.hid ((HO2_2.out.below HS.out).more HS.out.size)
    clear HO2_2
    have HXA0_3 := Lib.hid (own_keep HXA0_2.out fun j hj => HS.out.block j (HXA0_2.out.lt j hj).2)
    clear HXA0_2
    obtain ⟨hc3, hf3⟩ := bcell hb
    have hz3_0 : w.heap.size < w3.heap.size := by have h1 := hb.size; first | (simp at h1; omega) | omega
    clear hb HS
    go_wp2_with fail
    refine (toValue_any HD0.out.1 _ _ ((((HD0.out.2.2.below HB3.out).more HB3.out.size).below (B := w3.heap.size) (by repeat' (first | refine Below.setCell ?_ (by first | (simp; done) | (simp; omega) | omega) _ | refine Below.alloc ?_ (by first | (simp; done) | (simp; omega) | omega) _ | refine Below.drew ?_ | exact Below.refl _ _))).more (by first | exact Nat.le_refl _ | (simp; done) | (simp; omega))) hwt0).mono ?_
    rintro e w4 ⟨cs, fp, rfl, how, _, hb⟩
    have hrd := how.read
    clear how
    obtain ⟨y0_b4, y1_b4, y2_b4, y3_b4, y4_b4, n4_b4, c4_b4, y5_b4, n5_b4, c5_b4, y6_b4, n6_b4, c6_b4, rfl⟩ := HD0.out.1.form hrd
    have HO4_4 := Lib.hid hrd
    clear hrd
    have HS : Hid (Below w3.heap.size w3 w4) := by
      refine Lib.hid (Below.trans ?_ (hb.mono ?_))
      · repeat' (first | refine Below.setCell ?_ (by first | (simp; done) | (simp; omega) | omega) _ | refine Below.alloc ?_ (by first | (simp; done) | (simp; omega) | omega) _ | refine Below.drew ?_ | exact Below.refl _ _)
      · first | exact Nat.le_refl _ | (simp; done) | (simp; omega)
    have HN4 := HS.out.size
    have HB4 := Lib.hid (HB3.out.trans (HS.out.mono HB3.out.size))
    have HM4 := HB4.out.size
    have HO2_4 := Lib.hid ((HO2_3.out.below HS.out).more HS.out.size)
    clear HO2_3
    have HXA0_4 := Lib.hid (own_keep HXA0_3.out fun j hj => HS.out.block j (HXA0_3.out.lt j hj).2)
    clear HXA0_3
    obtain ⟨hc4, hf4⟩ := bcell hb
    have hz4_0 : w.heap.size < w4.heap.size := by have h1 := hb.size; first | (simp at h1; omega) | omega
    clear hb HS
    go_wp2_with fail
    refine (implSize_ans HD0.out.1 hwt0 _ _ (((HO4_4.out).below (B := w4.heap.size) (by repeat' (first | refine Below.setCell ?_ (by first | (simp; done) | (simp; omega) | omega) _ | refine Below.alloc ?_ (by first | (simp; done) | (simp; omega) | omega) _ | refine Below.drew ?_ | exact Below.refl _ _))).more (by first | exact Nat.le_refl _ | (simp; done) | (simp; omega))) _ HANS.out).mono ?_
    rintro e w5 ⟨rfl, hb⟩
    have HS : Hid (Below w4.heap.size w4 w5) := by
      refine Lib.hid (Below.trans ?_ (hb.mono ?_))
      · repeat' (first | refine Below.setCell ?_ (by first | (simp; done) | (simp; omega) | omega) _ | refine Below.alloc ?_ (by first | (simp; done) | (simp; omega) | omega) _ | refine Below.drew ?_ | exact Below.refl _ _)
      · first | exact Nat.le_refl _ | (simp; done) | (simp; omega)
    have HN5 := HS.out.size
    have HB5 := Lib.hid (HB4.out.trans (HS.out.mono HB4.out.size))
    have HM5 := HB5.out.size
    have HO2_5 := Lib.hid ((HO2_4.out.below HS.out).more HS.out.size)
    clear HO2_4
    have HO4_5 := Lib.hid ((HO4_4.out.below HS.out).more HS.out.size)
    clear HO4_4
    have HXA0_5 := Lib.hid (own_keep HXA0_4.out fun j hj => HS.out.block j (HXA0_4.out.lt j hj).2)
    clear HXA0_4
    have hx := (own_keep ((box_new (e := 50) (s := 7) (w4) #[.int .i64 y0_b4, .int .i64 y1_b4, .int .i64 y2_b4, .string y3_b4, .slice y4_b4 n4_b4 c4_b4, .slice y5_b4 n5_b4 c5_b4, .slice y6_b4 n6_b4 c6_b4] rfl).1) fun j hj => hb.block j (by injection hj with hj; have hj : (w4).heap.size = j := hj; subst hj; first | (simp; done) | (simp; omega)))
    have HXX0_5 := Lib.hid hx
    clear hx
    obtain ⟨hc5, hf5⟩ := bcell hb
    have hz5_0 : w.heap.size < w5.heap.size := by have h1 := hb.size; first | (simp at h1; omega) | omega
    have hz5_1 : w4.heap.size < w5.heap.size := by have h1 := hb.size; first | (simp at h1; omega) | omega
    clear hb HS
    go_wp2_with fail
    have X0c0 : w5.cell? ⟨w4.heap.size, 0, none⟩ = some (.int .i64 y0_b4) := HXX0_5.out.cellAt 0 (by omega)
    have X0c1 : w5.cell? ⟨w4.heap.size, 1, none⟩ = some (.int .i64 y1_b4) := HXX0_5.out.cellAt 1 (by omega)
    have X0c2 : w5.cell? ⟨w4.heap.size, 2, none⟩ = some (.int .i64 y2_b4) := HXX0_5.out.cellAt 2 (by omega)
    have X0c3 : w5.cell? ⟨w4.heap.size, 3, none⟩ = some (.string y3_b4) := HXX0_5.out.cellAt 3 (by omega)
    have X0c4 : w5.cell? ⟨w4.heap.size, 4, none⟩ = some (.slice y4_b4 n4_b4 c4_b4) := HXX0_5.out.cellAt 4 (by omega)
    have X0c5 : w5.cell? ⟨w4.heap.size, 5, none⟩ = some (.slice y5_b4 n5_b4 c5_b4) := HXX0_5.out.cellAt 5 (by omega)
    have X0c6 : w5.cell? ⟨w4.heap.size, 6, none⟩ = some (.slice y6_b4 n6_b4 c6_b4) := HXX0_5.out.cellAt 6 (by omega)
    have X0lt : w4.heap.size < w5.heap.size := (HXX0_5.out.lt _ rfl).2
    have A0c0 : w5.cell? ⟨w.heap.size, 0, none⟩ = some (.int .i64 y0_a0) := HXA0_5.out.cellAt 0 (by omega)
    have A0c1 : w5.cell? ⟨w.heap.size, 1, none⟩ = some (.int .i64 y1_a0) := HXA0_5.out.cellAt 1 (by omega)
    have A0c2 : w5.cell? ⟨w.heap.size, 2, none⟩ = some (.int .i64 y2_a0) := HXA0_5.out.cellAt 2 (by omega)
    have A0c3 : w5.cell? ⟨w.heap.size, 3, none⟩ = some (.string y3_a0) := HXA0_5.out.cellAt 3 (by omega)
    have A0c4 : w5.cell? ⟨w.heap.size, 4, none⟩ = some (.slice y4_a0 n4_a0 c4_a0) := HXA0_5.out.cellAt 4 (by omega)
    have A0c5 : w5.cell? ⟨w.heap.size, 5, none⟩ = some (.slice y5_a0 n5_a0 c5_a0) := HXA0_5.out.cellAt 5 (by omega)
    have A0c6 : w5.cell? ⟨w.heap.size, 6, none⟩ = some (.slice y6_a0 n6_a0 c6_a0) := HXA0_5.out.cellAt 6 (by omega)
    have A0lt : w.heap.size < w5.heap.size := (HXA0_5.out.lt _ rfl).2
    go_region_held3 (fun w' => w'.cell? ⟨w4.heap.size, 0, none⟩ = some (.int .i64 y0_b4) ∧ w'.cell? ⟨w4.heap.size, 1, none⟩ = some (.int .i64 y1_b4) ∧ w'.cell? ⟨w4.heap.size, 2, none⟩ = some (.int .i64 y2_b4) ∧ w'.cell? ⟨w4.heap.size, 3, none⟩ = some (.string y3_b4) ∧ w'.cell? ⟨w4.heap.size, 4, none⟩ = some (.slice y4_b4 n4_b4 c4_b4) ∧ w'.cell? ⟨w4.heap.size, 5, none⟩ = some (.slice y5_b4 n5_b4 c5_b4) ∧ w'.cell? ⟨w4.heap.size, 6, none⟩ = some (.slice y6_b4 n6_b4 c6_b4) ∧ w'.cell? ⟨w.heap.size, 0, none⟩ = some (.int .i64 y0_a0) ∧ w'.cell? ⟨w.heap.size, 1, none⟩ = some (.int .i64 y1_a0) ∧ w'.cell? ⟨w.heap.size, 2, none⟩ = some (.int .i64 y2_a0) ∧ w'.cell? ⟨w.heap.size, 3, none⟩ = some (.string y3_a0) ∧ w'.cell? ⟨w.heap.size, 4, none⟩ = some (.slice y4_a0 n4_a0 c4_a0) ∧ w'.cell? ⟨w.heap.size, 5, none⟩ = some (.slice y5_a0 n5_a0 c5_a0) ∧ w'.cell? ⟨w.heap.size, 6, none⟩ = some (.slice y6_a0 n6_a0 c6_a0)) (first | exact ⟨X0c0, X0c1, X0c2, X0c3, X0c4, X0c5, X0c6, A0c0, A0c1, A0c2, A0c3, A0c4, A0c5, A0c6⟩ | exact ⟨(hb1.cell (p := ⟨w4.heap.size, 0, none⟩) (by first | exact X0lt | exact Nat.lt_of_lt_of_le X0lt hbs1)).trans X0c0, (hb1.cell (p := ⟨w4.heap.size, 1, none⟩) (by first | exact X0lt | exact Nat.lt_of_lt_of_le X0lt hbs1)).trans X0c1, (hb1.cell (p := ⟨w4.heap.size, 2, none⟩) (by first | exact X0lt | exact Nat.lt_of_lt_of_le X0lt hbs1)).trans X0c2, (hb1.cell (p := ⟨w4.heap.size, 3, none⟩) (by first | exact X0lt | exact Nat.lt_of_lt_of_le X0lt hbs1)).trans X0c3, (hb1.cell (p := ⟨w4.heap.size, 4, none⟩) (by first | exact X0lt | exact Nat.lt_of_lt_of_le X0lt hbs1)).trans X0c4, (hb1.cell (p := ⟨w4.heap.size, 5, none⟩) (by first | exact X0lt | exact Nat.lt_of_lt_of_le X0lt hbs1)).trans X0c5, (hb1.cell (p := ⟨w4.heap.size, 6, none⟩) (by first | exact X0lt | exact Nat.lt_of_lt_of_le X0lt hbs1)).trans X0c6, (hb1.cell (p := ⟨w.heap.size, 0, none⟩) (by first | exact A0lt | exact Nat.lt_of_lt_of_le A0lt hbs1)).trans A0c0, (hb1.cell (p := ⟨w.heap.size, 1, none⟩) (by first | exact A0lt | exact Nat.lt_of_lt_of_le A0lt hbs1)).trans A0c1, (hb1.cell (p := ⟨w.heap.size, 2, none⟩) (by first | exact A0lt | exact Nat.lt_of_lt_of_le A0lt hbs1)).trans A0c2, (hb1.cell (p := ⟨w.heap.size, 3, none⟩) (by first | exact A0lt | exact Nat.lt_of_lt_of_le A0lt hbs1)).trans A0c3, (hb1.cell (p := ⟨w.heap.size, 4, none⟩) (by first | exact A0lt | exact Nat.lt_of_lt_of_le A0lt hbs1)).trans A0c4, (hb1.cell (p := ⟨w.heap.size, 5, none⟩) (by first | exact A0lt | exact Nat.lt_of_lt_of_le A0lt hbs1)).trans A0c5, (hb1.cell (p := ⟨w.heap.size, 6, none⟩) (by first | exact A0lt | exact Nat.lt_of_lt_of_le A0lt hbs1)).trans A0c6⟩ | exact ⟨(hb2.cell (p := ⟨w4.heap.size, 0, none⟩) (by first | exact X0lt | exact Nat.lt_of_lt_of_le X0lt hbs1)).trans ((hb1.cell (p := ⟨w4.heap.size, 0, none⟩) X0lt).trans X0c0), (hb2.cell (p := ⟨w4.heap.size, 1, none⟩) (by first | exact X0lt | exact Nat.lt_of_lt_of_le X0lt hbs1)).trans ((hb1.cell (p := ⟨w4.heap.size, 1, none⟩) X0lt).trans X0c1), (hb2.cell (p := ⟨w4.heap.size, 2, none⟩) (by first | exact X0lt | exact Nat.lt_of_lt_of_le X0lt hbs1)).trans ((hb1.cell (p := ⟨w4.heap.size, 2, none⟩) X0lt).trans X0c2), (hb2.cell (p := ⟨w4.heap.size, 3, none⟩) (by first | exact X0lt | exact Nat.lt_of_lt_of_le X0lt hbs1)).trans ((hb1.cell (p := ⟨w4.heap.size, 3, none⟩) X0lt).trans X0c3), (hb2.cell (p := ⟨w4.heap.size, 4, none⟩) (by first | exact X0lt | exact Nat.lt_of_lt_of_le X0lt hbs1)).trans ((hb1.cell (p := ⟨w4.heap.size, 4, none⟩) X0lt).trans X0c4), (hb2.cell (p := ⟨w4.heap.size, 5, none⟩) (by first | exact X0lt | exact Nat.lt_of_lt_of_le X0lt hbs1)).trans ((hb1.cell (p := ⟨w4.heap.size, 5, none⟩) X0lt).trans X0c5), (hb2.cell (p := ⟨w4.heap.size, 6, none⟩) (by first | exact X0lt | exact Nat.lt_of_lt_of_le X0lt hbs1)).trans ((hb1.cell (p := ⟨w4.heap.size, 6, none⟩) X0lt).trans X0c6), (hb2.cell (p := ⟨w.heap.size, 0, none⟩) (by first | exact A0lt | exact Nat.lt_of_lt_of_le A0lt hbs1)).trans ((hb1.cell (p := ⟨w.heap.size, 0, none⟩) A0lt).trans A0c0), (hb2.cell (p := ⟨w.heap.size, 1, none⟩) (by first | exact A0lt | exact Nat.lt_of_lt_of_le A0lt hbs1)).trans ((hb1.cell (p := ⟨w.heap.size, 1, none⟩) A0lt).trans A0c1), (hb2.cell (p := ⟨w.heap.size, 2, none⟩) (by first | exact A0lt | exact Nat.lt_of_lt_of_le A0lt hbs1)).trans ((hb1.cell (p := ⟨w.heap.size, 2, none⟩) A0lt).trans A0c2), (hb2.cell (p := ⟨w.heap.size, 3, none⟩) (by first | exact A0lt | exact Nat.lt_of_lt_of_le A0lt hbs1)).trans ((hb1.cell (p := ⟨w.heap.size, 3, none⟩) A0lt).trans A0c3), (hb2.cell (p := ⟨w.heap.size, 4, none⟩) (by first | exact A0lt | exact Nat.lt_of_lt_of_le A0lt hbs1)).trans ((hb1.cell (p := ⟨w.heap.size, 4, none⟩) A0lt).trans A0c4), (hb2.cell (p := ⟨w.heap.size, 5, none⟩) (by first | exact A0lt | exact Nat.lt_of_lt_of_le A0lt hbs1)).trans ((hb1.cell (p := ⟨w.heap.size, 5, none⟩) A0lt).trans A0c5), (hb2.cell (p := ⟨w.heap.size, 6, none⟩) (by first | exact A0lt | exact Nat.lt_of_lt_of_le A0lt hbs1)).trans ((hb1.cell (p := ⟨w.heap.size, 6, none⟩) A0lt).trans A0c6)⟩)
      (first | (go_at_call 33; refine (toValue_any HD0.out.1 _ _ ((((HD0.out.2.2.below HB5.out).more HB5.out.size).below (B := w5.heap.size) (by repeat' (first | refine Below.setCell ?_ (by first | (simp; done) | (simp; omega) | omega) _ | refine Below.alloc ?_ (by first | (simp; done) | (simp; omega) | omega) _ | refine Below.drew ?_ | exact Below.refl _ _))).more (by first | exact Nat.le_refl _ | (simp; done) | (simp; omega))) hwt0).mono ?_; rintro e w6 ⟨cs, fp, rfl, how, _, hb1⟩; have hrd1 := how.read; obtain ⟨y0_b6, y1_b6, y2_b6, y3_b6, y4_b6, n4_b6, c4_b6, y5_b6, n5_b6, c5_b6, y6_b6, n6_b6, c6_b6, rfl⟩ := HD0.out.1.form hrd1; have hbs1 := hb1.size) | (go_at_call 35; refine (eqValue_any HD0.out.1 HD0.out.1 _ _ _ (((((HO4_5.out).below (B := w5.heap.size) (by repeat' (first | refine Below.setCell ?_ (by first | (simp; done) | (simp; omega) | omega) _ | refine Below.alloc ?_ (by first | (simp; done) | (simp; omega) | omega) _ | refine Below.drew ?_ | exact Below.refl _ _))).more (by first | exact Nat.le_refl _ | (simp; done) | (simp; omega))).below hb1).more hbs1) hrd1).mono ?_; rintro e w7 ⟨b, rfl, hbi, hb2⟩; obtain rfl : b = true := hbi.2 rfl))
    have HS : Hid (Below w5.heap.size w5 w6) := by
      refine Lib.hid (Below.trans ?_ (hb1.mono ?_))
      · repeat' (first | refine Below.setCell ?_ (by first | (simp; done) | (simp; omega) | omega) _ | refine Below.alloc ?_ (by first | (simp; done) | (simp; omega) | omega) _ | refine Below.drew ?_ | exact Below.refl _ _)
      · first | exact Nat.le_refl _ | (simp; done) | (simp; omega)
    have HN6 := HS.out.size
    have HB6 := Lib.hid (HB5.out.trans (HS.out.mono HB5.out.size))
    have HM6 := HB6.out.size
    have HO2_6 := Lib.hid ((HO2_5.out.below HS.out).more HS.out.size)
    clear HO2_5
    have HO4_6 := Lib.hid ((HO4_5.out.below HS.out).more HS.out.size)
    clear HO4_5
    have HXA0_6 := Lib.hid (own_keep HXA0_5.out fun j hj => HS.out.block j (HXA0_5.out.lt j hj).2)
    clear HXA0_5
    have HXX0_6 := Lib.hid (own_keep HXX0_5.out fun j hj => HS.out.block j (HXX0_5.out.lt j hj).2)
    clear HXX0_5
    obtain ⟨hc6, hf6⟩ := bcell hb1
    have hz6_0 : w.heap.size < w6.heap.size := by have h1 := hb1.size; first | (simp at h1; omega) | omega
    have hz6_1 : w4.heap.size < w6.heap.size := by have h1 := hb1.size; first | (simp at h1; omega) | omega
    clear hb1 HS
    have HS : Hid (Below w6.heap.size w6 w7) := by
      refine Lib.hid (Below.trans ?_ (hb2.mono ?_))
      · repeat' (first | refine Below.setCell ?_ (by first | (simp; done) | (simp; omega) | omega) _ | refine Below.alloc ?_ (by first | (simp; done) | (simp; omega) | omega) _ | refine Below.drew ?_ | exact Below.refl _ _)
      · first | exact Nat.le_refl _ | (simp; done) | (simp; omega)
    have HN7 := HS.out.size
    have HB7 := Lib.hid (HB6.out.trans (HS.out.mono HB6.out.size))
    have HM7 := HB7.out.size
    have HO2_7 := Lib.hid ((HO2_6.out.below HS.out).more HS.out.size)
    clear HO2_6
    have HO4_7 := Lib.hid ((HO4_6.out.below HS.out).more HS.out.size)
    clear HO4_6
    have HXA0_7 := Lib.hid (own_keep HXA0_6.out fun j hj => HS.out.block j (HXA0_6.out.lt j hj).2)
    clear HXA0_6
    have HXX0_7 := Lib.hid (own_keep HXX0_6.out fun j hj => HS.out.block j (HXX0_6.out.lt j hj).2)
    clear HXX0_6
    obtain ⟨hc7, hf7⟩ := bcell hb2
    have hz7_0 : w.heap.size < w7.heap.size := by have h1 := hb2.size; first | (simp at h1; omega) | omega
    have hz7_1 : w4.heap.size < w7.heap.size := by have h1 := hb2.size; first | (simp at h1; omega) | omega
    clear hb2 HS
    go_wp2_with fail
    go_ret
    refine ⟨rfl, HB7.out.trans ?_⟩
    repeat' (first | refine Below.setCell ?_ (by first | (simp; done) | (simp; omega) | omega) _ | refine Below.alloc ?_ (by first | (simp; done) | (simp; omega) | omega) _ | refine Below.drew ?_ | exact Below.refl _ _)
end Go.Proofs.Ytaanfdccnnfceaa

/-
  DepthOf, the program's and the model's.
-/

namespace Go.Proofs.Ytaanfdccnnfceaa
open Go.RowKit
set_option linter.unusedVariables false

theorem deps_le_vszs : ∀ xs : List Dt, (∀ x ∈ xs, x.dep ≤ x.vsz) → deps xs ≤ vszs xs
  | [], _ => by simp [deps]
  | x :: xs, h => by
    have h1 := h x (by simp)
    have h2 := deps_le_vszs xs fun y hy => h y (by simp [hy])
    simp only [deps, vszs]
    omega
theorem dep_le {d : Dt} (h : IsVal d) : d.dep ≤ d.vsz := by
  induction h with
  | mk k n s t l c r hl hr ih =>
    have := deps_le_vszs l ih
    rw [dep_mk, vsz_mk]
    omega
theorem wts_mem1 : ∀ {xs : List Dt} {x : Dt}, x ∈ xs → x.wt ≤ wts xs
  | y :: ys, x, h => by
    simp only [wts]
    rcases List.mem_cons.1 h with rfl | h
    · omega
    · have := wts_mem1 h; omega
set_option maxHeartbeats 400000 in
set_option maxRecDepth 100000 in
theorem implDepth_any {d : Dt} (hd : IsVal d) (hwt : d.wt ≤ 1048576) (cs : List Value) (w : World) (h : Rd w w.heap.size d cs) :
    Calls Try.prog 34 #[.agg cs.toArray] w fun e w' => e = .returned (.int .i64 (d.dep : Nat)) ∧ Below w.heap.size w w' := by
  obtain ⟨y0, y1, y2, y3, y4, n4, c4, y5, n5, c5, y6, n6, c6, rfl⟩ := hd.form h
  have hb0 := (Below.refl w.heap.size w).alloc (Nat.le_refl _) (.cells #[Value.int .i64 y0, .int .i64 y1, .int .i64 y2, .string y3, .slice y4 n4 c4, .slice y5 n5 c5, .slice y6 n6 c6] 50)
  have HH := Lib.hid (And.intro hd (And.intro h hb0))
  clear hd h hb0
  go_enter Try.func34, Try.ntmps34
  go_wp2_with fail
  refine (vlevels_any HH.out.1 hwt _ _ ((HH.out.2.1.below HH.out.2.2).more (by simp))).mono ?_
  rintro e w1 ⟨rfl, hb⟩
  have HB := Lib.hid hb
  clear hb
  go_wp2_with fail
  go_ret
  exact ⟨rfl, HH.out.2.2.trans (HB.out.mono (by simp))⟩

def DepthC (d : Dt) : Prop := d.wt ≤ 1048576 → ∀ (cs : List Value) (w : World), Rd w w.heap.size d cs → Calls Try.prog 32 #[.agg cs.toArray] w fun e w' => e = .returned (.int .i64 (d.dep : Nat)) ∧ Below w.heap.size w w'

set_option maxHeartbeats 400000 in
set_option maxRecDepth 100000 in
theorem l1Max_any (a b : Nat) (w : World) (ha : a ≤ 4194304) (hb : b ≤ 4194304) : Calls Try.prog 55 #[.int .i64 (a : Int), .int .i64 (b : Int)] w fun e w' => e = .returned (.int .i64 ((max a b : Nat) : Int)) ∧ w' = w := by
  by_cases hab : b < a
  · have e : max a b = a := by omega
    rw [e]
    go_enter Try.func55, Try.ntmps55
    go_wp2_with fail
    go_ret
    exact ⟨rfl, rfl⟩
  · have e : max a b = b := by omega
    rw [e]
    go_enter Try.func55, Try.ntmps55
    go_wp2_with fail
    go_ret
    exact ⟨rfl, rfl⟩

set_option maxHeartbeats 1600000 in
set_option maxRecDepth 100000 in
theorem specDepth_of (k n s : Int) (t : ByteArray) (l : List Dt) (cc : List ByteArray) (r : List Dt) (hl : ∀ x ∈ l, IsVal x) (hr : ∀ x ∈ r, IsRow x) (ih : ∀ x ∈ l, DepthC x) : DepthC (.agg [.int k, .int n, .int s, .str t, .lst l, .lst (cc.map .str), .lst r]) := by
  intro hwt cs w h
  have hsz := vsz_le (IsVal.mk k n s t l cc r hl hr)
  have hdp := dep_le (IsVal.mk k n s t l cc r hl hr)
  obtain ⟨A4, q4, A5, q5, A6, q6, rfl, r4, r5, r6⟩ := Rd.ofValue h
  have hwl : ∀ x ∈ l, x.wt ≤ 1048576 := fun x hx => by
    have := wts_mem1 hx
    simp only [Dt.wt, wts] at hwt
    omega
  rw [vsz_mk] at *
  rw [dep_mk] at *
  rw [List.length_map] at *
  have hln := r4.lst_len
  unfold maxLen at hln
  have HR := Lib.hid (And.intro r4 (And.intro hl (And.intro ih hwl)))
  clear h r4 r5 r6 hl hr ih hwl
  go_enter Try.func32, Try.ntmps32
  go_wp2_with fail
  obtain ⟨hbx, hb1, hs1⟩ := box_new (e := 50) (s := 7) w #[Value.int .i64 k, .int .i64 n, .int .i64 s, .string t, .slice A4 l.length q4, .slice A5 cc.length q5, .slice A6 r.length q6] rfl
  generalize hW : w.alloc (.cells #[Value.int .i64 k, .int .i64 n, .int .i64 s, .string t, .slice A4 l.length q4, .slice A5 cc.length q5, .slice A6 r.length q6] 50) = w1 at *
  have mk : ∀ (wr : World) (j : Nat), j < 7 → Below w1.heap.size w1 wr → wr.cell? ⟨w.heap.size, j, none⟩ = (#[Value.int .i64 k, .int .i64 n, .int .i64 s, .string t, .slice A4 l.length q4, .slice A5 cc.length q5, .slice A6 r.length q6] : Array Value).toList[j]? := fun wr j hj hb => (hb.cell (p := ⟨w.heap.size, j, none⟩) (by show w.heap.size < w1.heap.size; omega)).trans (hbx.cellAt j (by omega))
  have MK := Lib.hid mk
  have HB1 := Lib.hid hb1
  clear hW hbx hb1 mk
  go_loopw [3, 4] (fun dp i wr => ∃ j : Nat, j ≤ l.length ∧ dp = .int .i64 ((deps (l.take j) : Nat) : Int) ∧ i = .int .i64 (j : Int) ∧ Below w1.heap.size w1 wr) (fun _ i _ => l.length - (intOf i).toNat)
  case atStart => exact ⟨0, Nat.zero_le _, by simp [deps], rfl, Below.refl _ _⟩
  case round =>
    obtain ⟨j, hj, rfl, rfl, hb⟩ := hrel
    have hk4 := MK.out wr 4 (by omega) hb
    simp only [List.getElem?_cons_zero, List.getElem?_cons_succ] at hk4
    by_cases hjl : j < l.length
    · have hbw := HB1.out.trans (hb.mono (by omega))
      obtain ⟨b, o, cs, hA, hbB, hrd, hlen, hcell⟩ := (HR.out.1.below hbw).at (k := 7) (fun x hx' => (HR.out.2.1 x hx').width) (by omega) j hjl
      obtain ⟨z0, z1, z2, z3, z4, m4, d4, z5, m5, d5, z6, m6, d6, rfl⟩ := (HR.out.2.1 _ (List.getElem_mem hjl)).form hrd
      subst hA
      have hdt := deps_take l j hjl
      have hd1 : deps (l.take (j + 1)) ≤ deps l := by
        have := deps_append (l.take (j + 1)) (l.drop (j + 1))
        rw [List.take_append_drop] at this
        omega
      have h00 := hcell 0 (by omega)
      have h01 := hcell 1 (by omega)
      have h02 := hcell 2 (by omega)
      have h03 := hcell 3 (by omega)
      have h04 := hcell 4 (by omega)
      have h05 := hcell 5 (by omega)
      have h06 := hcell 6 (by omega)
      simp at h00 h01 h02 h03 h04 h05 h06
      have hbs := hb.size
      have HX := Lib.hid (And.intro hb (And.intro hbw hrd))
      clear hcell hlen hb hbw hrd
      go_wp2_with fail
      refine (HR.out.2.2.1 _ (List.getElem_mem hjl) (HR.out.2.2.2 _ (List.getElem_mem hjl)) _ wr (HX.out.2.2.more (by omega))).mono ?_
      rintro e w3 ⟨rfl, hb3⟩
      have HB3 := Lib.hid (HX.out.1.trans (hb3.mono hbs))
      clear hb3 h00 h01 h02 h03 h04 h05 h06 hk4
      go_wp2_with fail
      refine (l1Max_any _ _ _ (by omega) (by omega)).mono ?_
      rintro e w4 ⟨rfl, rfl⟩
      go_wp2_with fail
      refine ⟨⟨j + 1, by omega, by rw [hdt], by simp, HB3.out⟩, by simp [intOf]; omega⟩
    · obtain rfl : j = l.length := by omega
      rw [List.take_length] at *
      have HX := Lib.hid (HB1.out.trans (hb.mono (by omega)))
      clear hb
      go_wp2_with fail
      go_ret
      refine ⟨Eq.trans (b := Ending.returned (.int .i64 ((deps l : Int) + 1))) rfl ?_, HX.out⟩
      congr 2
      push_cast
      omega

theorem specDepth_any {d : Dt} (h : IsVal d) : DepthC d := by
  induction h with
  | mk k n s t l c r hl hr ih => exact specDepth_of k n s t l c r hl hr ih
end Go.Proofs.Ytaanfdccnnfceaa
