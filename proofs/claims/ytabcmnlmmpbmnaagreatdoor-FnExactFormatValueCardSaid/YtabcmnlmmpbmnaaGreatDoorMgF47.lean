/-
  Texts that the proof rests on, put together: FmtLaw, PvMath.
-/
import Derived.Test.YtabcmnlmmpbmnaaGreatDoorMgF45
import Derived.Test.YtabcmnlmmpbmnaaGreatDoorMgF46
import Derived.Test.YtabcmnlmmpbmnaaGreatDoorMgF10
import Derived.Test.YtabcmnlmmpbmnaaGreatDoorMgF14
import Derived.Test.YtabcmnlmmpbmnaaGreatDoorMgF38
/-
  The law FnExactFormatValue. (Written by genvlaw.py.)
-/

namespace Go.Proofs.YtabcmnlmmpbmnaaGreatDoor
open Go.RowKit
set_option linter.unusedVariables false

theorem specFormat_ans {d : Dt} (hd : IsVal d) (hwt : d.wt ≤ 1048576) (cs : List Value) (w : World) (h : Rd w w.heap.size d cs) (a : ByteArray) (ha : a = fmtB d) :
    Calls Tryz.prog 10 #[.agg cs.toArray] w fun e w' => e = .returned (.string a) ∧ Below w.heap.size w w' := by subst ha; exact specFormat_any hd hwt cs w h
theorem implFormat_ans {d : Dt} (hd : IsVal d) (hwt : d.wt ≤ 1048576) (cs : List Value) (w : World) (h : Rd w w.heap.size d cs) (hp : PowOk w) (a : ByteArray) (ha : a = fmtB d) :
    Calls Tryz.prog 8 #[.agg cs.toArray] w fun e w' => e = .returned (.string a) ∧ Below w.heap.size w w' := by subst ha; exact implFormat_any hd hwt cs w h hp
set_option maxHeartbeats 1600000 in
set_option maxRecDepth 100000 in
theorem fnExactFormatValue_walk (w : World) {d0 : Dt} (hd0 : IsVal d0) (hok0 : d0.Ok) (cs0 : List Value) (hr0 : Rd w w.heap.size d0 cs0) (hp : PowOk w) :
    Calls Tryz.prog 5 #[.agg cs0.toArray] w fun e w' => e = .returned (.bool true) ∧ Below w.heap.size w w' := by
  obtain ⟨y0_a0, y1_a0, y2_a0, y3_a0, y4_a0, n4_a0, c4_a0, y5_a0, n5_a0, c5_a0, y6_a0, n6_a0, c6_a0, rfl⟩ := hd0.form hr0
  have HD0 := Lib.hid (And.intro hd0 (And.intro hok0 hr0))
  clear hd0 hok0 hr0
  have HP := Lib.hid hp
  clear hp
  go_enter Tryz.func5, Tryz.ntmps5
  have HB0 := Lib.hid (Below.refl w.heap.size w)
  go_wp2_with fail
  refine (szVal_any HD0.out.1 _ 1048576 _ ((((HD0.out.2.2.below HB0.out).more HB0.out.size).below (B := w.heap.size) (by repeat' (first | refine Below.setCell ?_ (by first | (simp; done) | (simp; omega) | omega) _ | refine Below.alloc ?_ (by first | (simp; done) | (simp; omega) | omega) _ | refine Below.drew ?_ | exact Below.refl _ _))).more (by first | exact Nat.le_refl _ | (simp; done) | (simp; omega))) HD0.out.2.1 (by omega) (by omega)).mono ?_
  rintro e w1 ⟨r0, rfl, hr0, hb⟩
  have HR0 := Lib.hid hr0
  clear hr0
  have HS : Hid (Below w.heap.size w w1) := by
    refine Lib.hid (Below.trans ?_ (hb.mono ?_))
    · repeat' (first | refine Below.setCell ?_ (by first | (simp; done) | (simp; omega) | omega) _ | refine Below.alloc ?_ (by first | (simp; done) | (simp; omega) | omega) _ | refine Below.drew ?_ | exact Below.refl _ _)
    · first | exact Nat.le_refl _ | (simp; done) | (simp; omega)
  have HN1 := HS.out.size
  have HB1 := Lib.hid (HB0.out.trans (HS.out.mono HB0.out.size))
  have HM1 := HB1.out.size
  have hx := (own_keep ((box_new (e := 41) (s := 7) (w) #[.int .i64 y0_a0, .int .i64 y1_a0, .int .i64 y2_a0, .string y3_a0, .slice y4_a0 n4_a0 c4_a0, .slice y5_a0 n5_a0 c5_a0, .slice y6_a0 n6_a0 c6_a0] rfl).1) fun j hj => hb.block j (by injection hj with hj; have hj : (w).heap.size = j := hj; subst hj; first | (simp; done) | (simp; omega)))
  have HXA0_1 := Lib.hid hx
  clear hx
  obtain ⟨hc1, hf1⟩ := bcell hb
  have hz1_0 : w.heap.size < w1.heap.size := by have h1 := hb.size; first | (simp at h1; omega) | omega
  clear hb HS
  by_cases hng : r0 < 0
  · go_wp2_with fail
    go_ret
    exact ⟨rfl, HB1.out⟩
  · obtain ⟨l0, rfl⟩ : ∃ l : Nat, r0 = l := ⟨r0.toNat, by omega⟩
    have hle0 : l0 ≤ 1048576 := by have := HR0.out.2; omega
    have hwt0 : d0.wt ≤ 1048576 := by have := HR0.out.1 (by omega); omega
    clear hng
    obtain ⟨ans, hans⟩ : ∃ ans : ByteArray, ans = fmtB d0 := ⟨_, rfl⟩
    have HANS := Lib.hid hans
    clear hans
    go_wp2_with fail
    refine (toValue_any HD0.out.1 _ _ ((((HD0.out.2.2.below HB1.out).more HB1.out.size).below (B := w1.heap.size) (by repeat' (first | refine Below.setCell ?_ (by first | (simp; done) | (simp; omega) | omega) _ | refine Below.alloc ?_ (by first | (simp; done) | (simp; omega) | omega) _ | refine Below.drew ?_ | exact Below.refl _ _))).more (by first | exact Nat.le_refl _ | (simp; done) | (simp; omega))) hwt0).mono ?_
    rintro e w2 ⟨cs, fp, rfl, how, _, hb⟩
    have hrd := how.read
    clear how
    obtain ⟨y0_b2, y1_b2, y2_b2, y3_b2, y4_b2, n4_b2, c4_b2, y5_b2, n5_b2, c5_b2, y6_b2, n6_b2, c6_b2, rfl⟩ := HD0.out.1.form hrd
    have HO2_2 := Lib.hid hrd
    clear hrd
    have HS : Hid (Below w1.heap.size w1 w2) := by
      refine Lib.hid (Below.trans ?_ (hb.mono ?_))
      · repeat' (first | refine Below.setCell ?_ (by first | (simp; done) | (simp; omega) | omega) _ | refine Below.alloc ?_ (by first | (simp; done) | (simp; omega) | omega) _ | refine Below.drew ?_ | exact Below.refl _ _)
      · first | exact Nat.le_refl _ | (simp; done) | (simp; omega)
    have HN2 := HS.out.size
    have HB2 := Lib.hid (HB1.out.trans (HS.out.mono HB1.out.size))
    have HM2 := HB2.out.size
    have HXA0_2 := Lib.hid (own_keep HXA0_1.out fun j hj => HS.out.block j (HXA0_1.out.lt j hj).2)
    clear HXA0_1
    obtain ⟨hc2, hf2⟩ := bcell hb
    have hz2_0 : w.heap.size < w2.heap.size := by have h1 := hb.size; first | (simp at h1; omega) | omega
    clear hb HS
    go_wp2_with fail
    refine (specFormat_ans HD0.out.1 hwt0 _ _ (((HO2_2.out).below (B := w2.heap.size) (by repeat' (first | refine Below.setCell ?_ (by first | (simp; done) | (simp; omega) | omega) _ | refine Below.alloc ?_ (by first | (simp; done) | (simp; omega) | omega) _ | refine Below.drew ?_ | exact Below.refl _ _))).more (by first | exact Nat.le_refl _ | (simp; done) | (simp; omega))) _ HANS.out).mono ?_
    rintro e w3 ⟨rfl, hb⟩
    have HS : Hid (Below w2.heap.size w2 w3) := by
      refine Lib.hid (Below.trans ?_ (hb.mono ?_))
      · repeat' (first | refine Below.setCell ?_ (by first | (simp; done) | (simp; omega) | omega) _ | refine Below.alloc ?_ (by first | (simp; done) | (simp; omega) | omega) _ | refine Below.drew ?_ | exact Below.refl _ _)
      · first | exact Nat.le_refl _ | (simp; done) | (simp; omega)
    have HN3 := HS.out.size
    have HB3 := Lib.hid (HB2.out.trans (HS.out.mono HB2.out.size))
    have HM3 := HB3.out.size
    have HO2_3 := Lib.hid ((HO2_2.out.below HS.out).more HS.out.size)
    clear HO2_2
    have HXA0_3 := Lib.hid (own_keep HXA0_2.out fun j hj => HS.out.block j (HXA0_2.out.lt j hj).2)
    clear HXA0_2
    obtain ⟨hc3, hf3⟩ := bcell hb
    have hz3_0 : w.heap.size < w3.heap.size := by have h1 := hb.size; first | (simp at h1; omega) | omega
    clear hb HS
    go_wp2_with fail
    refine (toValue_any HD0.out.1 _ _ ((((HD0.out.2.2.below HB3.out).more HB3.out.size).below (B := w3.heap.size) (by repeat' (first | refine Below.setCell ?_ (by first | (simp; done) | (simp; omega) | omega) _ | refine Below.alloc ?_ (by first | (simp; done) | (simp; omega) | omega) _ | refine Below.drew ?_ | exact Below.refl _ _))).more (by first | exact Nat.le_refl _ | (simp; done) | (simp; omega))) hwt0).mono ?_
    rintro e w4 ⟨cs, fp, rfl, how, _, hb⟩
    have hrd := how.read
    clear how
    obtain ⟨y0_b4, y1_b4, y2_b4, y3_b4, y4_b4, n4_b4, c4_b4, y5_b4, n5_b4, c5_b4, y6_b4, n6_b4, c6_b4, rfl⟩ := HD0.out.1.form hrd
    have HO4_4 := Lib.hid hrd
    clear hrd
    have HS : Hid (Below w3.heap.size w3 w4) := by
      refine Lib.hid (Below.trans ?_ (hb.mono ?_))
      · repeat' (first | refine Below.setCell ?_ (by first | (simp; done) | (simp; omega) | omega) _ | refine Below.alloc ?_ (by first | (simp; done) | (simp; omega) | omega) _ | refine Below.drew ?_ | exact Below.refl _ _)
      · first | exact Nat.le_refl _ | (simp; done) | (simp; omega)
    have HN4 := HS.out.size
    have HB4 := Lib.hid (HB3.out.trans (HS.out.mono HB3.out.size))
    have HM4 := HB4.out.size
    have HO2_4 := Lib.hid ((HO2_3.out.below HS.out).more HS.out.size)
    clear HO2_3
    have HXA0_4 := Lib.hid (own_keep HXA0_3.out fun j hj => HS.out.block j (HXA0_3.out.lt j hj).2)
    clear HXA0_3
    obtain ⟨hc4, hf4⟩ := bcell hb
    have hz4_0 : w.heap.size < w4.heap.size := by have h1 := hb.size; first | (simp at h1; omega) | omega
    clear hb HS
    go_wp2_with fail
    refine (implFormat_ans HD0.out.1 hwt0 _ _ (((HO4_4.out).below (B := w4.heap.size) (by repeat' (first | refine Below.setCell ?_ (by first | (simp; done) | (simp; omega) | omega) _ | refine Below.alloc ?_ (by first | (simp; done) | (simp; omega) | omega) _ | refine Below.drew ?_ | exact Below.refl _ _))).more (by first | exact Nat.le_refl _ | (simp; done) | (simp; omega))) ((HP.out.later HB4.out).later (by repeat' (first | refine Below.setCell ?_ (by first | (simp; done) | (simp; omega) | omega) _ | refine Below.alloc ?_ (by first | (simp; done) | (simp; omega) | omega) _ | refine Below.drew ?_ | exact Below.refl _ _))) _ HANS.out).mono ?_
    rintro e w5 ⟨rfl, hb⟩
    have HS : Hid (Below w4.heap.size w4 w5) := by
      refine Lib.hid (Below.trans ?_ (hb.mono ?_))
      · repeat' (first | refine Below.setCell ?_ (by first | (simp; done) | (simp; omega) | omega) _ | refine Below.alloc ?_ (by first | (simp; done) | (simp; omega) | omega) _ | refine Below.drew ?_ | exact Below.refl _ _)
      · first | exact Nat.le_refl _ | (simp; done) | (simp; omega)
    have HN5 := HS.out.size
    have HB5 := Lib.hid (HB4.out.trans (HS.out.mono HB4.out.size))
    have HM5 := HB5.out.size
    have HO2_5 := Lib.hid ((HO2_4.out.below HS.out).more HS.out.size)
    clear HO2_4
    have HO4_5 := Lib.hid ((HO4_4.out.below HS.out).more HS.out.size)
    clear HO4_4
    have HXA0_5 := Lib.hid (own_keep HXA0_4.out fun j hj => HS.out.block j (HXA0_4.out.lt j hj).2)
    clear HXA0_4
    have hx := (own_keep ((box_new (e := 28) (s := 7) (w4) #[.int .i64 y0_b4, .int .i64 y1_b4, .int .i64 y2_b4, .string y3_b4, .slice y4_b4 n4_b4 c4_b4, .slice y5_b4 n5_b4 c5_b4, .slice y6_b4 n6_b4 c6_b4] rfl).1) fun j hj => hb.block j (by injection hj with hj; have hj : (w4).heap.size = j := hj; subst hj; first | (simp; done) | (simp; omega)))
    have HXX0_5 := Lib.hid hx
    clear hx
    obtain ⟨hc5, hf5⟩ := bcell hb
    have hz5_0 : w.heap.size < w5.heap.size := by have h1 := hb.size; first | (simp at h1; omega) | omega
    have hz5_1 : w4.heap.size < w5.heap.size := by have h1 := hb.size; first | (simp at h1; omega) | omega
    clear hb HS
    go_wp2_with fail
    have X0c0 : w5.cell? ⟨w4.heap.size, 0, none⟩ = some (.int .i64 y0_b4) := HXX0_5.out.cellAt 0 (by omega)
    have X0c1 : w5.cell? ⟨w4.heap.size, 1, none⟩ = some (.int .i64 y1_b4) := HXX0_5.out.cellAt 1 (by omega)
    have X0c2 : w5.cell? ⟨w4.heap.size, 2, none⟩ = some (.int .i64 y2_b4) := HXX0_5.out.cellAt 2 (by omega)
    have X0c3 : w5.cell? ⟨w4.heap.size, 3, none⟩ = some (.string y3_b4) := HXX0_5.out.cellAt 3 (by omega)
    have X0c4 : w5.cell? ⟨w4.heap.size, 4, none⟩ = some (.slice y4_b4 n4_b4 c4_b4) := HXX0_5.out.cellAt 4 (by omega)
    have X0c5 : w5.cell? ⟨w4.heap.size, 5, none⟩ = some (.slice y5_b4 n5_b4 c5_b4) := HXX0_5.out.cellAt 5 (by omega)
    have X0c6 : w5.cell? ⟨w4.heap.size, 6, none⟩ = some (.slice y6_b4 n6_b4 c6_b4) := HXX0_5.out.cellAt 6 (by omega)
    have X0lt : w4.heap.size < w5.heap.size := (HXX0_5.out.lt _ rfl).2
    have A0c0 : w5.cell? ⟨w.heap.size, 0, none⟩ = some (.int .i64 y0_a0) := HXA0_5.out.cellAt 0 (by omega)
    have A0c1 : w5.cell? ⟨w.heap.size, 1, none⟩ = some (.int .i64 y1_a0) := HXA0_5.out.cellAt 1 (by omega)
    have A0c2 : w5.cell? ⟨w.heap.size, 2, none⟩ = some (.int .i64 y2_a0) := HXA0_5.out.cellAt 2 (by omega)
    have A0c3 : w5.cell? ⟨w.heap.size, 3, none⟩ = some (.string y3_a0) := HXA0_5.out.cellAt 3 (by omega)
    have A0c4 : w5.cell? ⟨w.heap.size, 4, none⟩ = some (.slice y4_a0 n4_a0 c4_a0) := HXA0_5.out.cellAt 4 (by omega)
    have A0c5 : w5.cell? ⟨w.heap.size, 5, none⟩ = some (.slice y5_a0 n5_a0 c5_a0) := HXA0_5.out.cellAt 5 (by omega)
    have A0c6 : w5.cell? ⟨w.heap.size, 6, none⟩ = some (.slice y6_a0 n6_a0 c6_a0) := HXA0_5.out.cellAt 6 (by omega)
    have A0lt : w.heap.size < w5.heap.size := (HXA0_5.out.lt _ rfl).2
    go_region_held3 (fun w' => w'.cell? ⟨w4.heap.size, 0, none⟩ = some (.int .i64 y0_b4) ∧ w'.cell? ⟨w4.heap.size, 1, none⟩ = some (.int .i64 y1_b4) ∧ w'.cell? ⟨w4.heap.size, 2, none⟩ = some (.int .i64 y2_b4) ∧ w'.cell? ⟨w4.heap.size, 3, none⟩ = some (.string y3_b4) ∧ w'.cell? ⟨w4.heap.size, 4, none⟩ = some (.slice y4_b4 n4_b4 c4_b4) ∧ w'.cell? ⟨w4.heap.size, 5, none⟩ = some (.slice y5_b4 n5_b4 c5_b4) ∧ w'.cell? ⟨w4.heap.size, 6, none⟩ = some (.slice y6_b4 n6_b4 c6_b4) ∧ w'.cell? ⟨w.heap.size, 0, none⟩ = some (.int .i64 y0_a0) ∧ w'.cell? ⟨w.heap.size, 1, none⟩ = some (.int .i64 y1_a0) ∧ w'.cell? ⟨w.heap.size, 2, none⟩ = some (.int .i64 y2_a0) ∧ w'.cell? ⟨w.heap.size, 3, none⟩ = some (.string y3_a0) ∧ w'.cell? ⟨w.heap.size, 4, none⟩ = some (.slice y4_a0 n4_a0 c4_a0) ∧ w'.cell? ⟨w.heap.size, 5, none⟩ = some (.slice y5_a0 n5_a0 c5_a0) ∧ w'.cell? ⟨w.heap.size, 6, none⟩ = some (.slice y6_a0 n6_a0 c6_a0)) (first | exact ⟨X0c0, X0c1, X0c2, X0c3, X0c4, X0c5, X0c6, A0c0, A0c1, A0c2, A0c3, A0c4, A0c5, A0c6⟩ | exact ⟨(hb1.cell (p := ⟨w4.heap.size, 0, none⟩) (by first | exact X0lt | exact Nat.lt_of_lt_of_le X0lt hbs1)).trans X0c0, (hb1.cell (p := ⟨w4.heap.size, 1, none⟩) (by first | exact X0lt | exact Nat.lt_of_lt_of_le X0lt hbs1)).trans X0c1, (hb1.cell (p := ⟨w4.heap.size, 2, none⟩) (by first | exact X0lt | exact Nat.lt_of_lt_of_le X0lt hbs1)).trans X0c2, (hb1.cell (p := ⟨w4.heap.size, 3, none⟩) (by first | exact X0lt | exact Nat.lt_of_lt_of_le X0lt hbs1)).trans X0c3, (hb1.cell (p := ⟨w4.heap.size, 4, none⟩) (by first | exact X0lt | exact Nat.lt_of_lt_of_le X0lt hbs1)).trans X0c4, (hb1.cell (p := ⟨w4.heap.size, 5, none⟩) (by first | exact X0lt | exact Nat.lt_of_lt_of_le X0lt hbs1)).trans X0c5, (hb1.cell (p := ⟨w4.heap.size, 6, none⟩) (by first | exact X0lt | exact Nat.lt_of_lt_of_le X0lt hbs1)).trans X0c6, (hb1.cell (p := ⟨w.heap.size, 0, none⟩) (by first | exact A0lt | exact Nat.lt_of_lt_of_le A0lt hbs1)).trans A0c0, (hb1.cell (p := ⟨w.heap.size, 1, none⟩) (by first | exact A0lt | exact Nat.lt_of_lt_of_le A0lt hbs1)).trans A0c1, (hb1.cell (p := ⟨w.heap.size, 2, none⟩) (by first | exact A0lt | exact Nat.lt_of_lt_of_le A0lt hbs1)).trans A0c2, (hb1.cell (p := ⟨w.heap.size, 3, none⟩) (by first | exact A0lt | exact Nat.lt_of_lt_of_le A0lt hbs1)).trans A0c3, (hb1.cell (p := ⟨w.heap.size, 4, none⟩) (by first | exact A0lt | exact Nat.lt_of_lt_of_le A0lt hbs1)).trans A0c4, (hb1.cell (p := ⟨w.heap.size, 5, none⟩) (by first | exact A0lt | exact Nat.lt_of_lt_of_le A0lt hbs1)).trans A0c5, (hb1.cell (p := ⟨w.heap.size, 6, none⟩) (by first | exact A0lt | exact Nat.lt_of_lt_of_le A0lt hbs1)).trans A0c6⟩ | exact ⟨(hb2.cell (p := ⟨w4.heap.size, 0, none⟩) (by first | exact X0lt | exact Nat.lt_of_lt_of_le X0lt hbs1)).trans ((hb1.cell (p := ⟨w4.heap.size, 0, none⟩) X0lt).trans X0c0), (hb2.cell (p := ⟨w4.heap.size, 1, none⟩) (by first | exact X0lt | exact Nat.lt_of_lt_of_le X0lt hbs1)).trans ((hb1.cell (p := ⟨w4.heap.size, 1, none⟩) X0lt).trans X0c1), (hb2.cell (p := ⟨w4.heap.size, 2, none⟩) (by first | exact X0lt | exact Nat.lt_of_lt_of_le X0lt hbs1)).trans ((hb1.cell (p := ⟨w4.heap.size, 2, none⟩) X0lt).trans X0c2), (hb2.cell (p := ⟨w4.heap.size, 3, none⟩) (by first | exact X0lt | exact Nat.lt_of_lt_of_le X0lt hbs1)).trans ((hb1.cell (p := ⟨w4.heap.size, 3, none⟩) X0lt).trans X0c3), (hb2.cell (p := ⟨w4.heap.size, 4, none⟩) (by first | exact X0lt | exact Nat.lt_of_lt_of_le X0lt hbs1)).trans ((hb1.cell (p := ⟨w4.heap.size, 4, none⟩) X0lt).trans X0c4), (hb2.cell (p := ⟨w4.heap.size, 5, none⟩) (by first | exact X0lt | exact Nat.lt_of_lt_of_le X0lt hbs1)).trans ((hb1.cell (p := ⟨w4.heap.size, 5, none⟩) X0lt).trans X0c5), (hb2.cell (p := ⟨w4.heap.size, 6, none⟩) (by first | exact X0lt | exact Nat.lt_of_lt_of_le X0lt hbs1)).trans ((hb1.cell (p := ⟨w4.heap.size, 6, none⟩) X0lt).trans X0c6), (hb2.cell (p := ⟨w.heap.size, 0, none⟩) (by first | exact A0lt | exact Nat.lt_of_lt_of_le A0lt hbs1)).trans ((hb1.cell (p := ⟨w.heap.size, 0, none⟩) A0lt).trans A0c0), (hb2.cell (p := ⟨w.heap.size, 1, none⟩) (by first | exact A0lt | exact Nat.lt_of_lt_of_le A0lt hbs1)).trans ((hb1.cell (p := ⟨w.heap.size, 1, none⟩) A0lt).trans A0c1), (hb2.cell (p := ⟨w.heap.size, 2, none⟩) (by first | exact A0lt | exact Nat.lt_of_lt_of_le A0lt hbs1)).trans ((hb1.cell (p := ⟨w.heap.size, 2, none⟩) A0lt).trans A0c2), (hb2.cell (p := ⟨w.heap.size, 3, none⟩) (by first | exact A0lt | exact Nat.lt_of_lt_of_le A0lt hbs1)).trans ((hb1.cell (p := ⟨w.heap.size, 3, none⟩) A0lt).trans A0c3), (hb2.cell (p := ⟨w.heap.size, 4, none⟩) (by first | exact A0lt | exact Nat.lt_of_lt_of_le A0lt hbs1)).trans ((hb1.cell (p := ⟨w.heap.size, 4, none⟩) A0lt).trans A0c4), (hb2.cell (p := ⟨w.heap.size, 5, none⟩) (by first | exact A0lt | exact Nat.lt_of_lt_of_le A0lt hbs1)).trans ((hb1.cell (p := ⟨w.heap.size, 5, none⟩) A0lt).trans A0c5), (hb2.cell (p := ⟨w.heap.size, 6, none⟩) (by first | exact A0lt | exact Nat.lt_of_lt_of_le A0lt hbs1)).trans ((hb1.cell (p := ⟨w.heap.size, 6, none⟩) A0lt).trans A0c6)⟩)
      (first | (go_at_call 18; refine (toValue_any HD0.out.1 _ _ ((((HD0.out.2.2.below HB5.out).more HB5.out.size).below (B := w5.heap.size) (by repeat' (first | refine Below.setCell ?_ (by first | (simp; done) | (simp; omega) | omega) _ | refine Below.alloc ?_ (by first | (simp; done) | (simp; omega) | omega) _ | refine Below.drew ?_ | exact Below.refl _ _))).more (by first | exact Nat.le_refl _ | (simp; done) | (simp; omega))) hwt0).mono ?_; rintro e w6 ⟨cs, fp, rfl, how, _, hb1⟩; have hrd1 := how.read; obtain ⟨y0_b6, y1_b6, y2_b6, y3_b6, y4_b6, n4_b6, c4_b6, y5_b6, n5_b6, c5_b6, y6_b6, n6_b6, c6_b6, rfl⟩ := HD0.out.1.form hrd1; have hbs1 := hb1.size) | (go_at_call 19; refine (eqValue_any HD0.out.1 HD0.out.1 _ _ _ (((((HO4_5.out).below (B := w5.heap.size) (by repeat' (first | refine Below.setCell ?_ (by first | (simp; done) | (simp; omega) | omega) _ | refine Below.alloc ?_ (by first | (simp; done) | (simp; omega) | omega) _ | refine Below.drew ?_ | exact Below.refl _ _))).more (by first | exact Nat.le_refl _ | (simp; done) | (simp; omega))).below hb1).more hbs1) hrd1).mono ?_; rintro e w7 ⟨b, rfl, hbi, hb2⟩; obtain rfl : b = true := hbi.2 rfl))
    have HS : Hid (Below w5.heap.size w5 w6) := by
      refine Lib.hid (Below.trans ?_ (hb1.mono ?_))
      · repeat' (first | refine Below.setCell ?_ (by first | (simp; done) | (simp; omega) | omega) _ | refine Below.alloc ?_ (by first | (simp; done) | (simp; omega) | omega) _ | refine Below.drew ?_ | exact Below.refl _ _)
      · first | exact Nat.le_refl _ | (simp; done) | (simp; omega)
    have HN6 := HS.out.size
    have HB6 := Lib.hid (HB5.out.trans (HS.out.mono HB5.out.size))
    have HM6 := HB6.out.size
    have HO2_6 := Lib.hid ((HO2_5.out.below HS.out).more HS.out.size)
    clear HO2_5
    have HO4_6 := Lib.hid ((HO4_5.out.below HS.out).more HS.out.size)
    clear HO4_5
    have HXA0_6 := Lib.hid (own_keep HXA0_5.out fun j hj => HS.out.block j (HXA0_5.out.lt j hj).2)
    clear HXA0_5
    have HXX0_6 := Lib.hid (own_keep HXX0_5.out fun j hj => HS.out.block j (HXX0_5.out.lt j hj).2)
    clear HXX0_5
    obtain ⟨hc6, hf6⟩ := bcell hb1
    have hz6_0 : w.heap.size < w6.heap.size := by have h1 := hb1.size; first | (simp at h1; omega) | omega
    have hz6_1 : w4.heap.size < w6.heap.size := by have h1 := hb1.size; first | (simp at h1; omega) | omega
    clear hb1 HS
    have HS : Hid (Below w6.heap.size w6 w7) := by
      refine Lib.hid (Below.trans ?_ (hb2.mono ?_))
      · repeat' (first | refine Below.setCell ?_ (by first | (simp; done) | (simp; omega) | omega) _ | refine Below.alloc ?_ (by first | (simp; done) | (simp; omega) | omega) _ | refine Below.drew ?_ | exact Below.refl _ _)
      · first | exact Nat.le_refl _ | (simp; done) | (simp; omega)
    have HN7 := HS.out.size
    have HB7 := Lib.hid (HB6.out.trans (HS.out.mono HB6.out.size))
    have HM7 := HB7.out.size
    have HO2_7 := Lib.hid ((HO2_6.out.below HS.out).more HS.out.size)
    clear HO2_6
    have HO4_7 := Lib.hid ((HO4_6.out.below HS.out).more HS.out.size)
    clear HO4_6
    have HXA0_7 := Lib.hid (own_keep HXA0_6.out fun j hj => HS.out.block j (HXA0_6.out.lt j hj).2)
    clear HXA0_6
    have HXX0_7 := Lib.hid (own_keep HXX0_6.out fun j hj => HS.out.block j (HXX0_6.out.lt j hj).2)
    clear HXX0_6
    obtain ⟨hc7, hf7⟩ := bcell hb2
    have hz7_0 : w.heap.size < w7.heap.size := by have h1 := hb2.size; first | (simp at h1; omega) | omega
    have hz7_1 : w4.heap.size < w7.heap.size := by have h1 := hb2.size; first | (simp at h1; omega) | omega
    clear hb2 HS
    go_wp2_with fail
    go_ret
    refine ⟨rfl, HB7.out.trans ?_⟩
    repeat' (first | refine Below.setCell ?_ (by first | (simp; done) | (simp; omega) | omega) _ | refine Below.alloc ?_ (by first | (simp; done) | (simp; omega) | omega) _ | refine Below.drew ?_ | exact Below.refl _ _)
end Go.Proofs.YtabcmnlmmpbmnaaGreatDoor

/-
  What ParseValue answers: the model's reader and the program's agree wherever the value read has the text as its representation.
-/

namespace Go.Proofs.YtabcmnlmmpbmnaaGreatDoor
open Go.RowKit
open Go.Lib (itoa join)
set_option linter.unusedVariables false

theorem Shape_byte {l : Nm} (h : Shape l) (c : UInt8) (hc : c ∈ l) : (isL c || isD c) = true := by
  obtain ⟨k, hk, rfl⟩ := List.getElem_of_mem hc
  have h1 := h.2 k hk
  unfold okAt at h1
  rw [List.getD_eq_getElem?_getD, List.getElem?_eq_getElem hk, Option.getD_some] at h1
  rcases Bool.or_eq_true _ _ |>.mp h1 with h2 | h2
  · rw [h2]; rfl
  · rw [(Bool.and_eq_true _ _ |>.mp h2).2]; simp
theorem VN_byte {l : Nm} (h : VN l) : l.length ≤ 8 ∧ (32 : UInt8) ∉ l ∧ (34 : UInt8) ∉ l := by
  refine ⟨h.1.2, fun hm => ?_, fun hm => ?_⟩
  · exact absurd (Shape_byte h.1.1 32 hm) (by decide)
  · exact absurd (Shape_byte h.1.1 34 hm) (by decide)
theorem Top_of {d : Dt} (hd : IsVal d) (hs : d.SV) (hn : NoFrom d) : Top d := by
  have hw := (W3_iff hd).2 hs
  by_cases he : isEl d
  · exact .inl (El_of 3 hd he hw)
  · obtain ⟨k, n, s, t, l, c, r, hl, hr⟩ := hd
    rw [W_mk] at hw
    have he' : ¬ (k = 1 ∨ k = 2 ∨ k = 3) := he
    rcases hw with h | h | h | ⟨rfl, h1, rfl, rfl, rfl, rfl⟩ | ⟨rfl, h1, rfl, rfl, rfl, rfl⟩ | ⟨rfl, h1, rfl, rfl, rfl, rfl, rfl⟩
    · exact absurd (.inl h.1) he'
    · exact absurd (.inr (.inl h.1)) he'
    · exact absurd (.inr (.inr h.1)) he'
    · exact .inr (.inl ⟨n, s, h1.1, h1.2, rfl⟩)
    · obtain ⟨⟨hc1, hc2⟩, ⟨hc3, hc4⟩⟩ := h1.1
      refine .inr (.inr (.inl ⟨c, r, fun e => by subst e; simp at hc1, hc2, fun x hx => ?_, h1.2.1, fun x hx => ?_, rfl⟩))
      · have := VN_byte (hc4 x hx)
        refine ⟨?_, this.2.1, this.2.2⟩
        have h8 := this.1
        unfold nb at h8
        rw [Array.length_toList] at h8
        exact h8
      · obtain ⟨ns, os, rfl, h3, h4, h5⟩ := h1.2.2 x hx
        obtain ⟨ns', e⟩ := hn _ hx
        injection e with e
        injection e with e1 e2
        injection e2 with e2 _
        injection e2 with e2
        subst e2
        exact ⟨ns, h3, h5, rfl⟩
    · exact .inr (.inr (.inr ⟨n, h1.1, h1.2, rfl⟩))

theorem tb_inj {a b : List UInt8} (h : tb a = tb b) : a = b := by
  have := congrArg (fun x : ByteArray => x.data.toList) h
  simpa [tb] using this
/-- A value without origins whose representation is the text, and the text isn't empty. -/
theorem fmt_of {d : Dt} (hd : IsVal d) (hn : NoFrom d) {s : List UInt8} (h : fmtB d = tb s) (hs : s ≠ []) : Top d ∧ d.SV ∧ d.txt = s := by
  by_cases hv : d.SV
  · rw [fmtB_yes hv] at h
    exact ⟨Top_of hd hv hn, hv, tb_inj h⟩
  · rw [fmtB_no hv] at h
    exact absurd (tb_inj (a := []) h).symm hs
/-- Some valid value has the text as its representation. -/
def Says (d : Dt) (s : List UInt8) : Prop := IsVal d ∧ NoFrom d ∧ d.SV ∧ d.txt = s ∧ s ≠ []
theorem says_p {s : List UInt8} {f : Nat} (hf : 3 ≤ f) {d : Dt} (h : Says d s) : pParse f s = (d, some []) := by
  obtain ⟨h1, h2, h3, rfl, h5⟩ := h
  exact pParse_top (Top_of h1 h3 h2) f hf
theorem says_i {s : List UInt8} {d : Dt} (h : Says d s) : iParse s = d := by
  obtain ⟨h1, h2, h3, rfl, h5⟩ := h
  exact iParse_top (Top_of h1 h3 h2)
theorem says_uniq {s : List UInt8} {d d' : Dt} (h : Says d s) (h' : Says d' s) : d = d' := (says_i h).symm.trans (says_i h')
theorem says_of {d : Dt} (hd : IsVal d) (hn : NoFrom d) {s : List UInt8} (h : fmtB d = tb s) (hs : s ≠ []) : Says d s := ⟨hd, hn, (fmt_of hd hn h hs).2.1, (fmt_of hd hn h hs).2.2, hs⟩
theorem says_fmt {d : Dt} {s : List UInt8} (h : Says d s) : fmtB d = tb s := by rw [fmtB_yes h.2.2.1, h.2.2.2.1]
/-- The answer of ParseValue, and whether there is one. -/
noncomputable def pvVal (s : List UInt8) : Dt := open Classical in if h : ∃ d, Says d s then h.choose else vZero
noncomputable def pvOk (s : List UInt8) : Bool := open Classical in decide (∃ d, Says d s)
theorem pv_yes {d : Dt} {s : List UInt8} (h : Says d s) : pvVal s = d ∧ pvOk s = true := by
  have hx : ∃ d, Says d s := ⟨d, h⟩
  unfold pvVal pvOk
  rw [dif_pos hx]
  exact ⟨says_uniq hx.choose_spec h, by simpa using hx⟩
theorem pv_no {s : List UInt8} (h : ¬ ∃ d, Says d s) : pvVal s = vZero ∧ pvOk s = false := by
  unfold pvVal pvOk
  rw [dif_neg h]
  exact ⟨rfl, by simpa using h⟩
theorem iParse_val (s : List UInt8) : IsVal (iParse s) ∧ NoFrom (iParse s) := iVal_val 3 _ _
/-- What the program tests decides. -/
theorem pv_i {s : List UInt8} (hs : s ≠ []) : (fmtB (iParse s) = tb s ∧ pvVal s = iParse s ∧ pvOk s = true) ∨ (fmtB (iParse s) ≠ tb s ∧ pvVal s = vZero ∧ pvOk s = false) := by
  by_cases h : fmtB (iParse s) = tb s
  · exact .inl ⟨h, pv_yes (says_of (iParse_val s).1 (iParse_val s).2 h hs)⟩
  · refine .inr ⟨h, pv_no ?_⟩
    rintro ⟨d, hd⟩
    rw [says_i hd] at h
    exact h (says_fmt hd)
theorem pv_p {s : List UInt8} (hs : s ≠ []) (f : Nat) (hf : 3 ≤ f) : ((pParse f s).2 = some [] ∧ fmtB (pParse f s).1 = tb s ∧ pvVal s = (pParse f s).1 ∧ pvOk s = true) ∨ (¬ ((pParse f s).2 = some [] ∧ fmtB (pParse f s).1 = tb s) ∧ pvVal s = vZero ∧ pvOk s = false) := by
  by_cases h : (pParse f s).2 = some [] ∧ fmtB (pParse f s).1 = tb s
  · exact .inl ⟨h.1, h.2, pv_yes (says_of (pParse_val f s).1 (pParse_val f s).2 h.2 hs)⟩
  · refine .inr ⟨h, pv_no ?_⟩
    rintro ⟨d, hd⟩
    rw [says_p hf hd] at h
    exact h ⟨rfl, says_fmt hd⟩
theorem pv_nil : pvVal [] = vZero ∧ pvOk [] = false := pv_no (by rintro ⟨d, h⟩; exact h.2.2.2.2 rfl)
theorem pv_val (s : List UInt8) : IsVal (pvVal s) ∧ NoFrom (pvVal s) := by
  by_cases h : ∃ d, Says d s
  · obtain ⟨d, hd⟩ := h
    rw [(pv_yes hd).1]
    exact ⟨hd.1, hd.2.1⟩
  · rw [(pv_no h).1]
    exact ⟨IsVal.zero, by simp [NoFrom, vZero]⟩
theorem pv_wt (s : List UInt8) : (pvVal s).wt ≤ s.length := by
  by_cases h : ∃ d, Says d s
  · obtain ⟨d, hd⟩ := h
    rw [(pv_yes hd).1, ← says_i hd]
    exact iParse_wt s
  · rw [(pv_no h).1, wt_zero]
    exact Nat.zero_le _
end Go.Proofs.YtabcmnlmmpbmnaaGreatDoor
