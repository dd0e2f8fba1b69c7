/-
  Texts that the proof rests on, put together: NestingOfLaw, EffE, EffS.
-/
import Derived.Test.YtaanfdccnnfceaaMgE9
import Derived.Test.YtaanfdccnnfceaaMgE2
import Derived.Test.YtaanfdccnnfceaaMgE4
import Derived.Test.YtaanfdccnnfceaaMgE5
/-
  The law FnExactNestingOf. (Written by genvlaw.py.)
-/

namespace Go.Proofs.Ytaanfdccnnfceaa
open Go.RowKit
set_option linter.unusedVariables false

theorem specNestingOf_ans {d : Dt} (hd : IsExp d) (hwt : d.wt ≤ 1048576) (cs : List Value) (w : World) (h : Rd w w.heap.size d cs) (a : Int) (ha : a = (d.edep : Nat)) :
    Calls Try.prog 27 #[.agg cs.toArray] w fun e w' => e = .returned (.int .i64 a) ∧ Below w.heap.size w w' := by subst ha; exact SDep_any hd hwt cs w h
theorem implNestingOf_ans {d : Dt} (hd : IsExp d) (hwt : d.wt ≤ 1048576) (cs : List Value) (w : World) (h : Rd w w.heap.size d cs) (a : Int) (ha : a = (d.edep : Nat)) :
    Calls Try.prog 21 #[.agg cs.toArray] w fun e w' => e = .returned (.int .i64 a) ∧ Below w.heap.size w w' := by subst ha; exact implNestingOf_any hd hwt cs w h
set_option maxHeartbeats 1600000 in
set_option maxRecDepth 100000 in
theorem fnExactNestingOf_walk (w : World) {d0 : Dt} (hd0 : IsExp d0) (hok0 : d0.Ok) (cs0 : List Value) (hr0 : Rd w w.heap.size d0 cs0) :
    Calls Try.prog 6 #[.agg cs0.toArray] w fun e w' => e = .returned (.bool true) ∧ Below w.heap.size w w' := by
  obtain ⟨y0_a0, y1_a0, y2_a0, y3_a0, n3_a0, c3_a0, rfl⟩ := hd0.form hr0
  have HD0 := Lib.hid (And.intro hd0 (And.intro hok0 hr0))
  clear hd0 hok0 hr0
  go_enter Try.func6, Try.ntmps6
  have HB0 := Lib.hid (Below.refl w.heap.size w)
  go_wp2_with fail
  refine (szExpr_any HD0.out.1 _ 1048576 _ ((((HD0.out.2.2.below HB0.out).more HB0.out.size).below (B := w.heap.size) (by repeat' (first | refine Below.setCell ?_ (by first | (simp; done) | (simp; omega) | omega) _ | refine Below.alloc ?_ (by first | (simp; done) | (simp; omega) | omega) _ | refine Below.drew ?_ | exact Below.refl _ _))).more (by first | exact Nat.le_refl _ | (simp; done) | (simp; omega))) HD0.out.2.1 (by omega) (by omega)).mono ?_
  rintro e w1 ⟨r0, rfl, hr0, hb⟩
  have HR0 := Lib.hid hr0
  clear hr0
  have HS : Hid (Below w.heap.size w w1) := by
    refine Lib.hid (Below.trans ?_ (hb.mono ?_))
    · repeat' (first | refine Below.setCell ?_ (by first | (simp; done) | (simp; omega) | omega) _ | refine Below.alloc ?_ (by first | (simp; done) | (simp; omega) | omega) _ | refine Below.drew ?_ | exact Below.refl _ _)
    · first | exact Nat.le_refl _ | (simp; done) | (simp; omega)
  have HN1 := HS.out.size
  have HB1 := Lib.hid (HB0.out.trans (HS.out.mono HB0.out.size))
  have HM1 := HB1.out.size
  have hx := (own_keep ((box_new (e := 35) (s := 4) (w) #[.int .i64 y0_a0, .int .i64 y1_a0, .string y2_a0, .slice y3_a0 n3_a0 c3_a0] rfl).1) fun j hj => hb.block j (by injection hj with hj; have hj : (w).heap.size = j := hj; subst hj; first | (simp; done) | (simp; omega)))
  have HXA0_1 := Lib.hid hx
  clear hx
  obtain ⟨hc1, hf1⟩ := bcell hb
  have hz1_0 : w.heap.size < w1.heap.size := by have h1 := hb.size; first | (simp at h1; omega) | omega
  clear hb HS
  by_cases hng : r0 < 0
  · go_wp2_with fail
    go_ret
    exact ⟨rfl, HB1.out⟩
  · obtain ⟨l0, rfl⟩ : ∃ l : Nat, r0 = l := ⟨r0.toNat, by omega⟩
    have hle0 : l0 ≤ 1048576 := by have := HR0.out.2; omega
    have hwt0 : d0.wt ≤ 1048576 := by have := HR0.out.1 (by omega); omega
    clear hng
    obtain ⟨ans, hans⟩ : ∃ ans : Int, ans = (d0.edep : Nat) := ⟨_, rfl⟩
    have HANS := Lib.hid hans
    clear hans
    go_wp2_with fail
    refine (toExpr_any HD0.out.1 _ _ ((((HD0.out.2.2.below HB1.out).more HB1.out.size).below (B := w1.heap.size) (by repeat' (first | refine Below.setCell ?_ (by first | (simp; done) | (simp; omega) | omega) _ | refine Below.alloc ?_ (by first | (simp; done) | (simp; omega) | omega) _ | refine Below.drew ?_ | exact Below.refl _ _))).more (by first | exact Nat.le_refl _ | (simp; done) | (simp; omega))) hwt0).mono ?_
    rintro e w2 ⟨cs, fp, rfl, how, _, hb⟩
    have hrd := how.read
    clear how
    obtain ⟨y0_b2, y1_b2, y2_b2, y3_b2, n3_b2, c3_b2, rfl⟩ := HD0.out.1.form hrd
    have HO2_2 := Lib.hid hrd
    clear hrd
    have HS : Hid (Below w1.heap.size w1 w2) := by
      refine Lib.hid (Below.trans ?_ (hb.mono ?_))
      · repeat' (first | refine Below.setCell ?_ (by first | (simp; done) | (simp; omega) | omega) _ | refine Below.alloc ?_ (by first | (simp; done) | (simp; omega) | omega) _ | refine Below.drew ?_ | exact Below.refl _ _)
      · first | exact Nat.le_refl _ | (simp; done) | (simp; omega)
    have HN2 := HS.out.size
    have HB2 := Lib.hid (HB1.out.trans (HS.out.mono HB1.out.size))
    have HM2 := HB2.out.size
    have HXA0_2 := Lib.hid (own_keep HXA0_1.out fun j hj => HS.out.block j (HXA0_1.out.lt j hj).2)
    clear HXA0_1
    obtain ⟨hc2, hf2⟩ := bcell hb
    have hz2_0 : w.heap.size < w2.heap.size := by have h1 := hb.size; first | (simp at h1; omega) | omega
    clear hb HS
    go_wp2_with fail
    refine (specNestingOf_ans HD0.out.1 hwt0 _ _ (((HO2_2.out).below (B := w2.heap.size) (by repeat' (first | refine Below.setCell ?_ (by first | (simp; done) | (simp; omega) | omega) _ | refine Below.alloc ?_ (by first | (simp; done) | (simp; omega) | omega) _ | refine Below.drew ?_ | exact Below.refl _ _))).more (by first | exact Nat.le_refl _ | (simp; done) | (simp; omega))) _ HANS.out).mono ?_
    rintro e w3 ⟨rfl, hb⟩
    have HS : Hid (Below w2.heap.size w2 w3) := by
      refine Lib.hid (Below.trans ?_ (hb.mono ?_))
      · repeat' (first | refine Below.setCell ?_ (by first | (simp; done) | (simp; omega) | omega) _ | refine Below.alloc ?_ (by first | (simp; done) | (simp; omega) | omega) _ | refine Below.drew ?_ | exact Below.refl _ _)
      · first | exact Nat.le_refl _ | (simp; done) | (simp; omega)
    have HN3 := HS.out.size
    have HB3 := Lib.hid (HB2.out.trans (HS.out.mono HB2.out.size))
    have HM3 := HB3.out.size
    have HO2_3 := Lib.hid ((HO2_2.out.below HS.out).more HS.out.size)
    clear HO2_2
    have HXA0_3 := Lib.hid (own_keep HXA0_2.out fun j hj => HS.out.block j (HXA0_2.out.lt j hj).2)
    clear HXA0_2
    obtain ⟨hc3, hf3⟩ := bcell hb
    have hz3_0 : w.heap.size < w3.heap.size := by have h1 := hb.size; first | (simp at h1; omega) | omega
    clear hb HS
    go_wp2_with fail
    refine (toExpr_any HD0.out.1 _ _ ((((HD0.out.2.2.below HB3.out).more HB3.out.size).below (B := w3.heap.size) (by repeat' (first | refine Below.setCell ?_ (by first | (simp; done) | (simp; omega) | omega) _ | refine Below.alloc ?_ (by first | (simp; done) | (simp; omega) | omega) _ | refine Below.drew ?_ | exact Below.refl _ _))).more (by first | exact Nat.le_refl _ | (simp; done) | (simp; omega))) hwt0).mono ?_
    rintro e w4 ⟨cs, fp, rfl, how, _, hb⟩
    have hrd := how.read
    clear how
    obtain ⟨y0_b4, y1_b4, y2_b4, y3_b4, n3_b4, c3_b4, rfl⟩ := HD0.out.1.form hrd
    have HO4_4 := Lib.hid hrd
    clear hrd
    have HS : Hid (Below w3.heap.size w3 w4) := by
      refine Lib.hid (Below.trans ?_ (hb.mono ?_))
      · repeat' (first | refine Below.setCell ?_ (by first | (simp; done) | (simp; omega) | omega) _ | refine Below.alloc ?_ (by first | (simp; done) | (simp; omega) | omega) _ | refine Below.drew ?_ | exact Below.refl _ _)
      · first | exact Nat.le_refl _ | (simp; done) | (simp; omega)
    have HN4 := HS.out.size
    have HB4 := Lib.hid (HB3.out.trans (HS.out.mono HB3.out.size))
    have HM4 := HB4.out.size
    have HO2_4 := Lib.hid ((HO2_3.out.below HS.out).more HS.out.size)
    clear HO2_3
    have HXA0_4 := Lib.hid (own_keep HXA0_3.out fun j hj => HS.out.block j (HXA0_3.out.lt j hj).2)
    clear HXA0_3
    obtain ⟨hc4, hf4⟩ := bcell hb
    have hz4_0 : w.heap.size < w4.heap.size := by have h1 := hb.size; first | (simp at h1; omega) | omega
    clear hb HS
    go_wp2_with fail
    refine (implNestingOf_ans HD0.out.1 hwt0 _ _ (((HO4_4.out).below (B := w4.heap.size) (by repeat' (first | refine Below.setCell ?_ (by first | (simp; done) | (simp; omega) | omega) _ | refine Below.alloc ?_ (by first | (simp; done) | (simp; omega) | omega) _ | refine Below.drew ?_ | exact Below.refl _ _))).more (by first | exact Nat.le_refl _ | (simp; done) | (simp; omega))) _ HANS.out).mono ?_
    rintro e w5 ⟨rfl, hb⟩
    have HS : Hid (Below w4.heap.size w4 w5) := by
      refine Lib.hid (Below.trans ?_ (hb.mono ?_))
      · repeat' (first | refine Below.setCell ?_ (by first | (simp; done) | (simp; omega) | omega) _ | refine Below.alloc ?_ (by first | (simp; done) | (simp; omega) | omega) _ | refine Below.drew ?_ | exact Below.refl _ _)
      · first | exact Nat.le_refl _ | (simp; done) | (simp; omega)
    have HN5 := HS.out.size
    have HB5 := Lib.hid (HB4.out.trans (HS.out.mono HB4.out.size))
    have HM5 := HB5.out.size
    have HO2_5 := Lib.hid ((HO2_4.out.below HS.out).more HS.out.size)
    clear HO2_4
    have HO4_5 := Lib.hid ((HO4_4.out.below HS.out).more HS.out.size)
    clear HO4_4
    have HXA0_5 := Lib.hid (own_keep HXA0_4.out fun j hj => HS.out.block j (HXA0_4.out.lt j hj).2)
    clear HXA0_4
    have hx := (own_keep ((box_new (e := 26) (s := 4) (w4) #[.int .i64 y0_b4, .int .i64 y1_b4, .string y2_b4, .slice y3_b4 n3_b4 c3_b4] rfl).1) fun j hj => hb.block j (by injection hj with hj; have hj : (w4).heap.size = j := hj; subst hj; first | (simp; done) | (simp; omega)))
    have HXX0_5 := Lib.hid hx
    clear hx
    obtain ⟨hc5, hf5⟩ := bcell hb
    have hz5_0 : w.heap.size < w5.heap.size := by have h1 := hb.size; first | (simp at h1; omega) | omega
    have hz5_1 : w4.heap.size < w5.heap.size := by have h1 := hb.size; first | (simp at h1; omega) | omega
    clear hb HS
    go_wp2_with fail
    have X0c0 : w5.cell? ⟨w4.heap.size, 0, none⟩ = some (.int .i64 y0_b4) := HXX0_5.out.cellAt 0 (by omega)
    have X0c1 : w5.cell? ⟨w4.heap.size, 1, none⟩ = some (.int .i64 y1_b4) := HXX0_5.out.cellAt 1 (by omega)
    have X0c2 : w5.cell? ⟨w4.heap.size, 2, none⟩ = some (.string y2_b4) := HXX0_5.out.cellAt 2 (by omega)
    have X0c3 : w5.cell? ⟨w4.heap.size, 3, none⟩ = some (.slice y3_b4 n3_b4 c3_b4) := HXX0_5.out.cellAt 3 (by omega)
    have X0lt : w4.heap.size < w5.heap.size := (HXX0_5.out.lt _ rfl).2
    have A0c0 : w5.cell? ⟨w.heap.size, 0, none⟩ = some (.int .i64 y0_a0) := HXA0_5.out.cellAt 0 (by omega)
    have A0c1 : w5.cell? ⟨w.heap.size, 1, none⟩ = some (.int .i64 y1_a0) := HXA0_5.out.cellAt 1 (by omega)
    have A0c2 : w5.cell? ⟨w.heap.size, 2, none⟩ = some (.string y2_a0) := HXA0_5.out.cellAt 2 (by omega)
    have A0c3 : w5.cell? ⟨w.heap.size, 3, none⟩ = some (.slice y3_a0 n3_a0 c3_a0) := HXA0_5.out.cellAt 3 (by omega)
    have A0lt : w.heap.size < w5.heap.size := (HXA0_5.out.lt _ rfl).2
    go_region_held3 (fun w' => w'.cell? ⟨w4.heap.size, 0, none⟩ = some (.int .i64 y0_b4) ∧ w'.cell? ⟨w4.heap.size, 1, none⟩ = some (.int .i64 y1_b4) ∧ w'.cell? ⟨w4.heap.size, 2, none⟩ = some (.string y2_b4) ∧ w'.cell? ⟨w4.heap.size, 3, none⟩ = some (.slice y3_b4 n3_b4 c3_b4) ∧ w'.cell? ⟨w.heap.size, 0, none⟩ = some (.int .i64 y0_a0) ∧ w'.cell? ⟨w.heap.size, 1, none⟩ = some (.int .i64 y1_a0) ∧ w'.cell? ⟨w.heap.size, 2, none⟩ = some (.string y2_a0) ∧ w'.cell? ⟨w.heap.size, 3, none⟩ = some (.slice y3_a0 n3_a0 c3_a0)) (first | exact ⟨X0c0, X0c1, X0c2, X0c3, A0c0, A0c1, A0c2, A0c3⟩ | exact ⟨(hb1.cell (p := ⟨w4.heap.size, 0, none⟩) (by first | exact X0lt | exact Nat.lt_of_lt_of_le X0lt hbs1)).trans X0c0, (hb1.cell (p := ⟨w4.heap.size, 1, none⟩) (by first | exact X0lt | exact Nat.lt_of_lt_of_le X0lt hbs1)).trans X0c1, (hb1.cell (p := ⟨w4.heap.size, 2, none⟩) (by first | exact X0lt | exact Nat.lt_of_lt_of_le X0lt hbs1)).trans X0c2, (hb1.cell (p := ⟨w4.heap.size, 3, none⟩) (by first | exact X0lt | exact Nat.lt_of_lt_of_le X0lt hbs1)).trans X0c3, (hb1.cell (p := ⟨w.heap.size, 0, none⟩) (by first | exact A0lt | exact Nat.lt_of_lt_of_le A0lt hbs1)).trans A0c0, (hb1.cell (p := ⟨w.heap.size, 1, none⟩) (by first | exact A0lt | exact Nat.lt_of_lt_of_le A0lt hbs1)).trans A0c1, (hb1.cell (p := ⟨w.heap.size, 2, none⟩) (by first | exact A0lt | exact Nat.lt_of_lt_of_le A0lt hbs1)).trans A0c2, (hb1.cell (p := ⟨w.heap.size, 3, none⟩) (by first | exact A0lt | exact Nat.lt_of_lt_of_le A0lt hbs1)).trans A0c3⟩ | exact ⟨(hb2.cell (p := ⟨w4.heap.size, 0, none⟩) (by first | exact X0lt | exact Nat.lt_of_lt_of_le X0lt hbs1)).trans ((hb1.cell (p := ⟨w4.heap.size, 0, none⟩) X0lt).trans X0c0), (hb2.cell (p := ⟨w4.heap.size, 1, none⟩) (by first | exact X0lt | exact Nat.lt_of_lt_of_le X0lt hbs1)).trans ((hb1.cell (p := ⟨w4.heap.size, 1, none⟩) X0lt).trans X0c1), (hb2.cell (p := ⟨w4.heap.size, 2, none⟩) (by first | exact X0lt | exact Nat.lt_of_lt_of_le X0lt hbs1)).trans ((hb1.cell (p := ⟨w4.heap.size, 2, none⟩) X0lt).trans X0c2), (hb2.cell (p := ⟨w4.heap.size, 3, none⟩) (by first | exact X0lt | exact Nat.lt_of_lt_of_le X0lt hbs1)).trans ((hb1.cell (p := ⟨w4.heap.size, 3, none⟩) X0lt).trans X0c3), (hb2.cell (p := ⟨w.heap.size, 0, none⟩) (by first | exact A0lt | exact Nat.lt_of_lt_of_le A0lt hbs1)).trans ((hb1.cell (p := ⟨w.heap.size, 0, none⟩) A0lt).trans A0c0), (hb2.cell (p := ⟨w.heap.size, 1, none⟩) (by first | exact A0lt | exact Nat.lt_of_lt_of_le A0lt hbs1)).trans ((hb1.cell (p := ⟨w.heap.size, 1, none⟩) A0lt).trans A0c1), (hb2.cell (p := ⟨w.heap.size, 2, none⟩) (by first | exact A0lt | exact Nat.lt_of_lt_of_le A0lt hbs1)).trans ((hb1.cell (p := ⟨w.heap.size, 2, none⟩) A0lt).trans A0c2), (hb2.cell (p := ⟨w.heap.size, 3, none⟩) (by first | exact A0lt | exact Nat.lt_of_lt_of_le A0lt hbs1)).trans ((hb1.cell (p := ⟨w.heap.size, 3, none⟩) A0lt).trans A0c3)⟩)
      (first | (go_at_call 25; refine (toExpr_any HD0.out.1 _ _ ((((HD0.out.2.2.below HB5.out).more HB5.out.size).below (B := w5.heap.size) (by repeat' (first | refine Below.setCell ?_ (by first | (simp; done) | (simp; omega) | omega) _ | refine Below.alloc ?_ (by first | (simp; done) | (simp; omega) | omega) _ | refine Below.drew ?_ | exact Below.refl _ _))).more (by first | exact Nat.le_refl _ | (simp; done) | (simp; omega))) hwt0).mono ?_; rintro e w6 ⟨cs, fp, rfl, how, _, hb1⟩; have hrd1 := how.read; obtain ⟨y0_b6, y1_b6, y2_b6, y3_b6, n3_b6, c3_b6, rfl⟩ := HD0.out.1.form hrd1; have hbs1 := hb1.size) | (go_at_call 26; refine (eqExpr_any HD0.out.1 HD0.out.1 _ _ _ (((((HO4_5.out).below (B := w5.heap.size) (by repeat' (first | refine Below.setCell ?_ (by first | (simp; done) | (simp; omega) | omega) _ | refine Below.alloc ?_ (by first | (simp; done) | (simp; omega) | omega) _ | refine Below.drew ?_ | exact Below.refl _ _))).more (by first | exact Nat.le_refl _ | (simp; done) | (simp; omega))).below hb1).more hbs1) hrd1).mono ?_; rintro e w7 ⟨b, rfl, hbi, hb2⟩; obtain rfl : b = true := hbi.2 rfl))
    have HS : Hid (Below w5.heap.size w5 w6) := by
      refine Lib.hid (Below.trans ?_ (hb1.mono ?_))
      · repeat' (first | refine Below.setCell ?_ (by first | (simp; done) | (simp; omega) | omega) _ | refine Below.alloc ?_ (by first | (simp; done) | (simp; omega) | omega) _ | refine Below.drew ?_ | exact Below.refl _ _)
      · first | exact Nat.le_refl _ | (simp; done) | (simp; omega)
    have HN6 := HS.out.size
    have HB6 := Lib.hid (HB5.out.trans (HS.out.mono HB5.out.size))
    have HM6 := HB6.out.size
    have HO2_6 := Lib.hid ((HO2_5.out.below HS.out).more HS.out.size)
    clear HO2_5
    have HO4_6 := Lib.hid ((HO4_5.out.below HS.out).more HS.out.size)
    clear HO4_5
    have HXA0_6 := Lib.hid (own_keep HXA0_5.out fun j hj => HS.out.block j (HXA0_5.out.lt j hj).2)
    clear HXA0_5
    have HXX0_6 := Lib.hid (own_keep HXX0_5.out fun j hj => HS.out.block j (HXX0_5.out.lt j hj).2)
    clear HXX0_5
    obtain ⟨hc6, hf6⟩ := bcell hb1
    have hz6_0 : w.heap.size < w6.heap.size := by have h1 := hb1.size; first | (simp at h1; omega) | omega
    have hz6_1 : w4.heap.size < w6.heap.size := by have h1 := hb1.size; first | (simp at h1; omega) | omega
    clear hb1 HS
    have HS : Hid (Below w6.heap.size w6 w7) := by
      refine Lib.hid (Below.trans ?_ (hb2.mono ?_))
      · repeat' (first | refine Below.setCell ?_ (by first | (simp; done) | (simp; omega) | omega) _ | refine Below.alloc ?_ (by first | (simp; done) | (simp; omega) | omega) _ | refine Below.drew ?_ | exact Below.refl _ _)
      · first | exact Nat.le_refl _ | (simp; done) | (simp; omega)
    have HN7 := HS.out.size
    have HB7 := Lib.hid (HB6.out.trans (HS.out.mono HB6.out.size))
    have HM7 := HB7.out.size
    have HO2_7 := Lib.hid ((HO2_6.out.below HS.out).more HS.out.size)
    clear HO2_6
    have HO4_7 := Lib.hid ((HO4_6.out.below HS.out).more HS.out.size)
    clear HO4_6
    have HXA0_7 := Lib.hid (own_keep HXA0_6.out fun j hj => HS.out.block j (HXA0_6.out.lt j hj).2)
    clear HXA0_6
    have HXX0_7 := Lib.hid (own_keep HXX0_6.out fun j hj => HS.out.block j (HXX0_6.out.lt j hj).2)
    clear HXX0_6
    obtain ⟨hc7, hf7⟩ := bcell hb2
    have hz7_0 : w.heap.size < w7.heap.size := by have h1 := hb2.size; first | (simp at h1; omega) | omega
    have hz7_1 : w4.heap.size < w7.heap.size := by have h1 := hb2.size; first | (simp at h1; omega) | omega
    clear hb2 HS
    go_wp2_with fail
    go_ret
    refine ⟨rfl, HB7.out.trans ?_⟩
    repeat' (first | refine Below.setCell ?_ (by first | (simp; done) | (simp; omega) | omega) _ | refine Below.alloc ?_ (by first | (simp; done) | (simp; omega) | omega) _ | refine Below.drew ?_ | exact Below.refl _ _)
end Go.Proofs.Ytaanfdccnnfceaa

/-
  HasEffect: the program's. (Written by gen10n.py.)
-/

namespace Go.Proofs.Ytaanfdccnnfceaa
open Go.RowKit
set_option linter.unusedVariables false
attribute [local go_sem] Oper.semAt_some

def efP : Dt → Prop
  | .agg [.int k, _, .str t, _] => k = 5 ∧ isEff t
  | _ => False
def nullE (pre : List Dt) : Prop := ∀ y ∈ pre, ¬ efP y
theorem nullE_snoc {pre : List Dt} {x : Dt} (h : nullE pre) (hx : ¬ efP x) : nullE (pre ++ [x]) := fun y hy => by
  rcases List.mem_append.1 hy with hy | hy
  · exact h y hy
  · rw [List.mem_singleton.1 hy]; exact hx
theorem pre_mem {α : Type} {pre xs : List α} {x : α} (h : pre ++ [x] <+: xs) : x ∈ xs := h.subset (by simp)
set_option maxHeartbeats 1600000 in
set_option maxRecDepth 100000 in
theorem implHasEffect_any {d : Dt} (hd : IsExp d) (hwt : d.wt ≤ 1048576) (cs : List Value) (w : World) (h : Rd w w.heap.size d cs) :
    Calls Try.prog 30 #[.agg cs.toArray] w (EqP (∃ y ∈ d.enods, efP y) w) := by
  obtain ⟨y0, y1, y2, y3, n3, c3, rfl⟩ := hd.form h
  refine callsIn_wide.1 (callsIn_of_wp_marks (n := 5) Try.func30 rfl trivial ?_ rfl)
  simp only [Try.ntmps30, List.size_toArray, List.length_cons, List.length_nil, Nat.reduceAdd, Nat.reduceSub, Array.replicate_succ, Array.replicate_zero, List.push_toArray, List.append_toArray, List.nil_append, List.cons_append]
  refine (wpIn_wide (n := 5)).2 ?_
  go_wp2_with fail
  refine (enodesOf_at _ _ _ _ _ _ _ _).mono ?_
  rintro e w1 ⟨rfl, rfl⟩
  go_wp2_with fail
  obtain ⟨W, hW, hbW, hsW, hown, _, hroot, hin⟩ := boxes4 w #[.int .i64 y0, .int .i64 y1, .string y2, .slice y3 n3 c3] 26 (.bool false) 4 (.func (.func 45) #[] #[]) 61 4 rfl
  rw [hW]
  have hseq := enodes_seq hd hwt _ w.heap.size (w.heap.size + 1 + 1) (w.heap.size + 1 + 1 + 1) 4 W (h.below hbW) hroot hin (by omega) (by omega) (by omega)
  clear hW hroot hin
  refine (wpIn_wide (n := 5)).1 ?_
  refine wpIn_rangeFunc_d rfl (by omega) rfl trivial (enters_of Try.func80 (by kernel_rfl) rfl) hseq rfl (fun k => k = w.heap.size + 1) (fun k hk => by omega) (fun k hk => by omega) (by omega)
    (fun pre A => A.ownsRow (w.heap.size + 1) 4 1 (.slice (some ⟨w.heap.size + 1, 0, none⟩) 1 1) 1 [.bool false] ∧ Below w.heap.size w A ∧ nullE pre)
    (fun c pre A => c = .ret ∧ A.ownsRow (w.heap.size + 1) 4 1 (.slice (some ⟨w.heap.size + 1, 0, none⟩) 1 1) 1 [.bool true] ∧ Below w.heap.size w A ∧ ∃ y ∈ d.enods, efP y)
    (fun pre A B h hb => ⟨own_keep h.1 fun b hb' => hb.block b (by injection hb' with hb'; have hb' : w.heap.size + 1 = b := hb'; omega), h.2.1.trans (hb.mono (by omega)), h.2.2⟩)
    (fun c pre A B h hb => ⟨h.1, own_keep h.2.1 fun b hb' => hb.block b (by injection hb' with hb'; have hb' : w.heap.size + 1 = b := hb'; omega), h.2.2.1.trans (hb.mono (by omega)), h.2.2.2⟩)
    ⟨hown, hbW, fun y hy => by simp at hy⟩ ?round ?done ?stop
  case round =>
    intro l pre x cs A K hI hpre hrd hwl hlA hA hK
    have hxm := pre_mem hpre
    have hx := hd.all x hxm
    cases hx with
    | mk k n t la hla =>
    obtain ⟨A3, q3, rfl, r3⟩ := Rd.ofExpr hrd
    gi_wp2_with fail
    refine hK _ _ ((Below.refl _ _).alloc (Nat.le_refl _) _) fun A2 hI2 hrd2 hk2 => ?_
    have hz : ∀ j, j < 4 → A2.cell? ⟨A.heap.size, j, none⟩ = (#[Value.int .i64 k, .int .i64 n, .string t, .slice A3 la.length q3] : Array Value).toList[j]? := fun j hj => (hk2.cell (p := ⟨A.heap.size, j, none⟩) (by simp) (by show ¬ A.heap.size = l; omega)).trans (box_cell A _ rfl hj)
    have z0 := hz 0 (by omega)
    have z2 := hz 2 (by omega)
    simp only [List.getElem?_cons_zero, List.getElem?_cons_succ] at z0 z2
    obtain ⟨hg1, hg2, hg3⟩ := var_get hI2.1
    have HI := Lib.hid hI2
    have HX := Lib.hid hxm
    clear hI hpre hrd hrd2 hk2 hI2 hz hK hla r3 hxm
    have hnn : 1 ≤ 5 - 1 - 1 := by omega
    by_cases hk5 : k = 5
    · subst hk5
      have hb5 : ((5 : Int) == 5) = true := rfl
      gi_wp2_with fail
      refine ⟨trivial, (CallsIn.inRound l (callsIn_wide.2 (isEffect_any t _))).mono ?_⟩
      rintro e w4 ⟨b, rfl, hb, rfl⟩
      have HE := Lib.hid hb
      clear hb
      cases b
      · gi_wp2_with fail
        exact ⟨KeepsBut.refl _ _, HI.out.1, HI.out.2.1, nullE_snoc HI.out.2.2 fun h => by have := HE.out.2 h.2; cases this⟩
      · gi_wp2_with fail
        refine ⟨(KeepsBut.refl _ _).setCell _ _ (.inr rfl), rfl, ?_, HI.out.2.1.trans ((Below.refl _ _).setCell (by simp) _), _, HX.out, rfl, HE.out.1 (by trivial)⟩
        have := var_set HI.out.1 (.bool true)
        simpa using this
    · have hb5 : ((k : Int) == 5) = false := by simp [hk5]
      have HN := Lib.hid (show ¬ efP (.agg [.int k, .int n, .str t, .lst la]) from fun h => hk5 h.1)
      clear hk5
      gi_wp2_with fail
      refine ⟨trivial, ?_⟩
      gi_wp2_with fail
      exact ⟨KeepsBut.refl _ _, HI.out.1, HI.out.2.1, nullE_snoc HI.out.2.2 HN.out⟩
  case done =>
    rintro D A ⟨hI, hb, hn⟩ hD hdef
    obtain ⟨hg1, hg2, hg3⟩ := var_get hI
    have HI := Lib.hid (And.intro hI (And.intro hb (And.intro hdef hn)))
    clear hI hb hdef hn
    gi_wp2_with fail
    go_wp2_with fail
    refine ⟨by simp, .inl ⟨_, _, rfl, run_takeDeferred ((Below.heap_setCell _ _ _ D (by simp; omega)).trans HI.out.2.2.1), ?_⟩⟩
    have hv := own_keep (var_set HI.out.1 (.bool false)) fun b hb => World.putObj_heap_other (o := .deferred none) (r := D) (k := b) (by injection hb with hb; have hb : w.heap.size + 1 = b := hb; omega)
    have hc := (var_get hv).1
    refine ⟨.bool false, by simp [results, Try.results30, go_sem, hc], false, rfl, ⟨fun h => (by cases h), fun ⟨y, hy, he⟩ => absurd he (HI.out.2.2.2 y hy)⟩, (HI.out.2.1.trans ((Below.refl _ _).setCell (by simp) _)).trans (below_putObj _ _ _ (by omega))⟩
  case stop =>
    rintro D c pre A _ ⟨rfl, hI, hb, hn⟩ hD hdef
    obtain ⟨hg1, hg2, hg3⟩ := var_get hI
    have HI := Lib.hid (And.intro hI (And.intro hb (And.intro hdef hn)))
    clear hI hb hdef hn
    gi_wp2_with fail
    refine ⟨by simp, .inl ⟨_, _, rfl, run_takeDeferred HI.out.2.2.1, ?_⟩⟩
    have hv := own_keep HI.out.1 fun b hb => World.putObj_heap_other (w := A) (o := .deferred none) (r := D) (k := b) (by injection hb with hb; have hb : w.heap.size + 1 = b := hb; omega)
    have hc := (var_get hv).1
    refine ⟨.bool true, by simp [results, Try.results30, go_sem, hc], true, rfl, ⟨fun _ => HI.out.2.2.2, fun _ => rfl⟩, HI.out.2.1.trans (below_putObj _ _ _ (by omega))⟩
end Go.Proofs.Ytaanfdccnnfceaa

/-
  HasEffect: the model's. (Written by gen10n.py.)
-/

namespace Go.Proofs.Ytaanfdccnnfceaa
open Go.RowKit
set_option linter.unusedVariables false

theorem ex_enodsL {P : Dt → Prop} (us vs : List Dt) : (∃ y ∈ enodsL (us ++ vs), P y) ↔ (∃ y ∈ enodsL us, P y) ∨ (∃ y ∈ enodsL vs, P y) := by
  rw [enodsL_append]
  constructor
  · rintro ⟨y, hy, hp⟩
    rcases List.mem_append.1 hy with hy | hy
    · exact .inr ⟨y, hy, hp⟩
    · exact .inl ⟨y, hy, hp⟩
  · rintro (⟨y, hy, hp⟩ | ⟨y, hy, hp⟩)
    · exact ⟨y, List.mem_append.2 (.inr hy), hp⟩
    · exact ⟨y, List.mem_append.2 (.inl hy), hp⟩
theorem no_take {P : Dt → Prop} {xs : List Dt} {k : Nat} (hk : k < xs.length) (h : ¬ ∃ y ∈ enodsL (xs.take k), P y) (h1 : ¬ ∃ y ∈ xs[k].enods, P y) : ¬ ∃ y ∈ enodsL (xs.take (k + 1)), P y := by
  rw [List.take_succ_eq_append_getElem hk, ex_enodsL, enodsL_one]
  exact fun e => e.elim h h1
theorem yes_take {P : Dt → Prop} {xs : List Dt} {k : Nat} (hk : k < xs.length) (h1 : ∃ y ∈ xs[k].enods, P y) : ∃ y ∈ enodsL xs, P y := by
  have e : xs = xs.take k ++ (xs[k] :: xs.drop (k + 1)) := by rw [List.getElem_cons_drop, List.take_append_drop]
  rw [e, ex_enodsL]
  refine .inr ?_
  have e2 := ex_enodsL (P := P) [xs[k]] (xs.drop (k + 1))
  rw [enodsL_one] at e2
  exact e2.2 (.inl h1)
def SEff (d : Dt) : Prop := d.wt ≤ 1048576 → ∀ (cs : List Value) (w : World), Rd w w.heap.size d cs → Calls Try.prog 29 #[.agg cs.toArray] w (EqP (∃ y ∈ d.enods, efP y) w)

set_option maxHeartbeats 1600000 in
set_option maxRecDepth 100000 in
theorem SEff_of (k n : Int) (t : ByteArray) (l : List Dt) (hl : ∀ x ∈ l, IsExp x) (ih : ∀ x ∈ l, SEff x) : SEff (.agg [.int k, .int n, .str t, .lst l]) := by
  intro hwt cs w h
  have hd := IsExp.mk k n t l hl
  have hnl := enods_len hd
  have hno := hd.nods
  simp only [ekids] at hno
  obtain ⟨A3, q3, rfl, r3⟩ := Rd.ofExpr h
  have hwl : ∀ x ∈ l, x.wt ≤ 1048576 := fun x hx => by
    have := wts_memD hx
    simp only [Dt.wt, wts] at hwt
    omega
  have hlN : (enodsL l).length ≤ 1048576 := by rw [hno, List.length_cons] at hnl; omega
  have hln := r3.lst_len
  unfold maxLen at hln
  have hef : (∃ y ∈ (Dt.agg [.int k, .int n, .str t, .lst l]).enods, efP y) ↔ efP (.agg [.int k, .int n, .str t, .lst l]) ∨ ∃ y ∈ enodsL l, efP y := by
    rw [hno]
    simp only [List.mem_cons, exists_eq_or_imp]
  have HR := Lib.hid (And.intro r3 (And.intro hl (And.intro ih hwl)))
  clear h r3 hl ih hwl hd hnl hno hwt
  by_cases hk5 : k = 5
  · subst hk5
    have hk : ((5 : Int) == 5) = true := rfl
    by_cases h0 : t = ⟨#[99, 108, 111, 99, 107]⟩
    · subst h0
      have HE := Lib.hid hef
      clear hef
      go_enter Try.func29, Try.ntmps29
      go_wp2_with fail
      go_ret
      exact ⟨true, rfl, ⟨fun _ => HE.out.2 (.inl ⟨rfl, by simp [isEff]⟩), fun _ => rfl⟩, (Below.refl _ _).alloc (Nat.le_refl _) _⟩
    by_cases h1 : t = ⟨#[99, 104, 97, 110, 99, 101]⟩
    · subst h1
      have HE := Lib.hid hef
      clear hef
      go_enter Try.func29, Try.ntmps29
      go_wp2_with fail
      go_ret
      exact ⟨true, rfl, ⟨fun _ => HE.out.2 (.inl ⟨rfl, by simp [isEff]⟩), fun _ => rfl⟩, (Below.refl _ _).alloc (Nat.le_refl _) _⟩
    by_cases h2 : t = ⟨#[102, 105, 108, 101]⟩
    · subst h2
      have HE := Lib.hid hef
      clear hef
      go_enter Try.func29, Try.ntmps29
      go_wp2_with fail
      go_ret
      exact ⟨true, rfl, ⟨fun _ => HE.out.2 (.inl ⟨rfl, by simp [isEff]⟩), fun _ => rfl⟩, (Below.refl _ _).alloc (Nat.le_refl _) _⟩
    have hb0 : (t.toList == [99, 108, 111, 99, 107]) = false := text_no h0
    have hb1 : (t.toList == [99, 104, 97, 110, 99, 101]) = false := text_no h1
    have hb2 : (t.toList == [102, 105, 108, 101]) = false := text_no h2
    have hne : ¬ efP (.agg [.int 5, .int n, .str t, .lst l]) := fun h => h.2.elim h0 fun h => h.elim h1 h2
    have HA := Lib.hid (And.intro hef (And.intro (fun (h1 : ¬ ∃ y ∈ enodsL l, efP y) (h : ∃ y ∈ (Dt.agg [.int 5, .int n, .str t, .lst l]).enods, efP y) => (hef.1 h).elim hne h1) fun (h1 : ∃ y ∈ enodsL l, efP y) => hef.2 (.inr h1)))
    clear hef hne
    go_enter Try.func29, Try.ntmps29
    go_wp2_with fail
    obtain ⟨hbx, hb1, hs1⟩ := box_new (e := 26) (s := 4) w #[Value.int .i64 5, .int .i64 n, .string t, .slice A3 l.length q3] rfl
    generalize hW : w.alloc (.cells #[Value.int .i64 5, .int .i64 n, .string t, .slice A3 l.length q3] 26) = w1 at *
    have mk : ∀ (wr : World) (j : Nat), j < 4 → Below w1.heap.size w1 wr → wr.cell? ⟨w.heap.size, j, none⟩ = (#[Value.int .i64 5, .int .i64 n, .string t, .slice A3 l.length q3] : Array Value).toList[j]? := fun wr j hj hb => (hb.cell (p := ⟨w.heap.size, j, none⟩) (by show w.heap.size < w1.heap.size; omega)).trans (hbx.cellAt j (by omega))
    have MK := Lib.hid mk
    have HB1 := Lib.hid hb1
    clear hW hbx hb1 mk
    go_loopw [3] (fun i wr => ∃ j : Nat, j ≤ l.length ∧ i = .int .i64 (j : Int) ∧ (¬ ∃ y ∈ enodsL (l.take j), efP y) ∧ Below w1.heap.size w1 wr) (fun i _ => l.length - (intOf i).toNat)
    case atStart => exact ⟨0, Nat.zero_le _, rfl, by simp [enodsL], Below.refl _ _⟩
    case round =>
      obtain ⟨j, hj, rfl, hnn, hb⟩ := hrel
      have hk3 := MK.out wr 3 (by omega) hb
      simp only [List.getElem?_cons_zero, List.getElem?_cons_succ] at hk3
      by_cases hjl : j < l.length
      · have hbw := HB1.out.trans (hb.mono (by omega))
        obtain ⟨b, o, cs, hA, hbB, hrd, hlen, hcell⟩ := (HR.out.1.below hbw).at (k := 4) (fun x hx' => (HR.out.2.1 x hx').width) (by omega) j hjl
        obtain ⟨z0, z1, z2, z3, m3, d3, rfl⟩ := (HR.out.2.1 _ (List.getElem_mem hjl)).form hrd
        subst hA
        have h00 := hcell 0 (by omega)
        have h01 := hcell 1 (by omega)
        have h02 := hcell 2 (by omega)
        have h03 := hcell 3 (by omega)
        simp at h00 h01 h02 h03
        have hbs := hb.size
        have HX := Lib.hid (And.intro hb (And.intro hbw (And.intro hrd hnn)))
        clear hcell hlen hb hbw hrd hnn
        go_wp2_with fail
        refine (HR.out.2.2.1 _ (List.getElem_mem hjl) (HR.out.2.2.2 _ (List.getElem_mem hjl)) _ wr (HX.out.2.2.1.more (by omega))).mono ?_
        rintro e w3 ⟨bb, rfl, hbb, hb3⟩
        have HB3 := Lib.hid (And.intro (HX.out.1.trans (hb3.mono hbs)) hbb)
        clear hb3 h00 h01 h02 h03 hk3 hbb
        cases bb
        · go_wp2_with fail
          exact ⟨⟨j + 1, by omega, by simp, no_take hjl HX.out.2.2.2 (fun h => by have := HB3.out.2.2 h; cases this), HB3.out.1⟩, by simp [intOf]; omega⟩
        · go_wp2_with fail
          go_ret
          exact ⟨true, rfl, ⟨fun _ => HA.out.2.2 (yes_take hjl (HB3.out.2.1 (by trivial))), fun _ => rfl⟩, HB1.out.trans (HB3.out.1.mono (by omega))⟩
      · obtain rfl : j = l.length := by omega
        rw [List.take_length] at *
        have HX := Lib.hid (And.intro (HB1.out.trans (hb.mono (by omega))) hnn)
        clear hb hnn
        go_wp2_with fail
        go_ret
        exact ⟨false, rfl, ⟨fun h => (by cases h), fun h => absurd h (HA.out.2.1 HX.out.2)⟩, HX.out.1⟩
  · have hk : ((k : Int) == 5) = false := by simp [hk5]
    have hne : ¬ efP (.agg [.int k, .int n, .str t, .lst l]) := fun h => hk5 h.1
    have HA := Lib.hid (And.intro hef (And.intro (fun (h1 : ¬ ∃ y ∈ enodsL l, efP y) (h : ∃ y ∈ (Dt.agg [.int k, .int n, .str t, .lst l]).enods, efP y) => (hef.1 h).elim hne h1) fun (h1 : ∃ y ∈ enodsL l, efP y) => hef.2 (.inr h1)))
    clear hef hne
    go_enter Try.func29, Try.ntmps29
    go_wp2_with fail
    obtain ⟨hbx, hb1, hs1⟩ := box_new (e := 26) (s := 4) w #[Value.int .i64 k, .int .i64 n, .string t, .slice A3 l.length q3] rfl
    generalize hW : w.alloc (.cells #[Value.int .i64 k, .int .i64 n, .string t, .slice A3 l.length q3] 26) = w1 at *
    have mk : ∀ (wr : World) (j : Nat), j < 4 → Below w1.heap.size w1 wr → wr.cell? ⟨w.heap.size, j, none⟩ = (#[Value.int .i64 k, .int .i64 n, .string t, .slice A3 l.length q3] : Array Value).toList[j]? := fun wr j hj hb => (hb.cell (p := ⟨w.heap.size, j, none⟩) (by show w.heap.size < w1.heap.size; omega)).trans (hbx.cellAt j (by omega))
    have MK := Lib.hid mk
    have HB1 := Lib.hid hb1
    clear hW hbx hb1 mk
    go_loopw [3] (fun i wr => ∃ j : Nat, j ≤ l.length ∧ i = .int .i64 (j : Int) ∧ (¬ ∃ y ∈ enodsL (l.take j), efP y) ∧ Below w1.heap.size w1 wr) (fun i _ => l.length - (intOf i).toNat)
    case atStart => exact ⟨0, Nat.zero_le _, rfl, by simp [enodsL], Below.refl _ _⟩
    case round =>
      obtain ⟨j, hj, rfl, hnn, hb⟩ := hrel
      have hk3 := MK.out wr 3 (by omega) hb
      simp only [List.getElem?_cons_zero, List.getElem?_cons_succ] at hk3
      by_cases hjl : j < l.length
      · have hbw := HB1.out.trans (hb.mono (by omega))
        obtain ⟨b, o, cs, hA, hbB, hrd, hlen, hcell⟩ := (HR.out.1.below hbw).at (k := 4) (fun x hx' => (HR.out.2.1 x hx').width) (by omega) j hjl
        obtain ⟨z0, z1, z2, z3, m3, d3, rfl⟩ := (HR.out.2.1 _ (List.getElem_mem hjl)).form hrd
        subst hA
        have h00 := hcell 0 (by omega)
        have h01 := hcell 1 (by omega)
        have h02 := hcell 2 (by omega)
        have h03 := hcell 3 (by omega)
        simp at h00 h01 h02 h03
        have hbs := hb.size
        have HX := Lib.hid (And.intro hb (And.intro hbw (And.intro hrd hnn)))
        clear hcell hlen hb hbw hrd hnn
        go_wp2_with fail
        refine (HR.out.2.2.1 _ (List.getElem_mem hjl) (HR.out.2.2.2 _ (List.getElem_mem hjl)) _ wr (HX.out.2.2.1.more (by omega))).mono ?_
        rintro e w3 ⟨bb, rfl, hbb, hb3⟩
        have HB3 := Lib.hid (And.intro (HX.out.1.trans (hb3.mono hbs)) hbb)
        clear hb3 h00 h01 h02 h03 hk3 hbb
        cases bb
        · go_wp2_with fail
          exact ⟨⟨j + 1, by omega, by simp, no_take hjl HX.out.2.2.2 (fun h => by have := HB3.out.2.2 h; cases this), HB3.out.1⟩, by simp [intOf]; omega⟩
        · go_wp2_with fail
          go_ret
          exact ⟨true, rfl, ⟨fun _ => HA.out.2.2 (yes_take hjl (HB3.out.2.1 (by trivial))), fun _ => rfl⟩, HB1.out.trans (HB3.out.1.mono (by omega))⟩
      · obtain rfl : j = l.length := by omega
        rw [List.take_length] at *
        have HX := Lib.hid (And.intro (HB1.out.trans (hb.mono (by omega))) hnn)
        clear hb hnn
        go_wp2_with fail
        go_ret
        exact ⟨false, rfl, ⟨fun h => (by cases h), fun h => absurd h (HA.out.2.1 HX.out.2)⟩, HX.out.1⟩
theorem SEff_any {d : Dt} (h : IsExp d) : SEff d := by
  induction h with
  | mk k n t l hl ih => exact SEff_of k n t l hl ih
end Go.Proofs.Ytaanfdccnnfceaa
