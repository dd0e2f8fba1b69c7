/-
  Texts that the proof rests on, put together: EqLaw.
-/
import Derived.Test.YtaanfdccnnfceaaMgW30
import Derived.Test.YtaanfdccnnfceaaMgW31
import Derived.Test.YtaanfdccnnfceaaMgW7
/-
  The laws FnExactEqualValue and FnExactEqualShown. (Written by genvlaw.py.)
-/

namespace Go.Proofs.Ytaanfdccnnfceaa
open Go.RowKit
set_option linter.unusedVariables false

theorem EqP.ans {P : Prop} {w : World} {a : Bool} (ha : a = @decide P (Classical.propDecidable P)) (e : Ending) (w' : World) (h : EqP P w e w') : e = .returned (.bool a) ∧ Below w.heap.size w w' := by
  obtain ⟨b, rfl, hb, hbel⟩ := h
  have h2 : (a = true ↔ P) := by rw [ha]; exact @decide_eq_true_iff P (Classical.propDecidable P)
  have h3 := hb.trans h2.symm
  refine ⟨?_, hbel⟩
  cases a <;> cases b <;> simp_all
set_option maxHeartbeats 1600000 in
set_option maxRecDepth 100000 in
theorem fnExactEqualValue_walk (w : World) {d0 : Dt} (hd0 : IsVal d0) (hok0 : d0.Ok) (cs0 : List Value) (hr0 : Rd w w.heap.size d0 cs0) {d1 : Dt} (hd1 : IsVal d1) (hok1 : d1.Ok) (cs1 : List Value) (hr1 : Rd w w.heap.size d1 cs1) :
    Calls Try.prog 11 #[.agg cs0.toArray, .agg cs1.toArray] w fun e w' => e = .returned (.bool true) ∧ Below w.heap.size w w' := by
  obtain ⟨y0_a0, y1_a0, y2_a0, y3_a0, y4_a0, n4_a0, c4_a0, y5_a0, n5_a0, c5_a0, y6_a0, n6_a0, c6_a0, rfl⟩ := hd0.form hr0
  have HD0 := Lib.hid (And.intro hd0 (And.intro hok0 hr0))
  clear hd0 hok0 hr0
  obtain ⟨y0_a1, y1_a1, y2_a1, y3_a1, y4_a1, n4_a1, c4_a1, y5_a1, n5_a1, c5_a1, y6_a1, n6_a1, c6_a1, rfl⟩ := hd1.form hr1
  have HD1 := Lib.hid (And.intro hd1 (And.intro hok1 hr1))
  clear hd1 hok1 hr1
  go_enter Try.func11, Try.ntmps11
  have HB0 := Lib.hid (Below.refl w.heap.size w)
  go_wp2_with fail
  refine (szVal_any HD0.out.1 _ 1048576 _ ((((HD0.out.2.2.below HB0.out).more HB0.out.size).below (B := w.heap.size) (by repeat' (first | refine Below.setCell ?_ (by first | (simp; done) | (simp; omega) | omega) _ | refine Below.alloc ?_ (by first | (simp; done) | (simp; omega) | omega) _ | refine Below.drew ?_ | exact Below.refl _ _))).more (by first | exact Nat.le_refl _ | (simp; done) | (simp; omega))) HD0.out.2.1 (by omega) (by omega)).mono ?_
  rintro e w1 ⟨r0, rfl, hr0, hb⟩
  have HR0 := Lib.hid hr0
  clear hr0
  have HS : Hid (Below w.heap.size w w1) := by
    refine Lib.hid (Below.trans ?_ (hb.mono ?_))
    · repeat' (first | refine Below.setCell ?_ (by first | (simp; done) | (simp; omega) | omega) _ | refine Below.alloc ?_ (by first | (simp; done) | (simp; omega) | omega) _ | refine Below.drew ?_ | exact Below.refl _ _)
    · first | exact Nat.le_refl _ | (simp; done) | (simp; omega)
  have HN1 := HS.out.size
  have HB1 := Lib.hid (HB0.out.trans (HS.out.mono HB0.out.size))
  have HM1 := HB1.out.size
  have hx := (own_keep ((World.ownsRow.alloc (box_new (e := 44) (s := 7) (w) #[.int .i64 y0_a0, .int .i64 y1_a0, .int .i64 y2_a0, .string y3_a0, .slice y4_a0 n4_a0 c4_a0, .slice y5_a0 n5_a0 c5_a0, .slice y6_a0 n6_a0 c6_a0] rfl).1 _)) fun j hj => hb.block j (by injection hj with hj; have hj : (w).heap.size = j := hj; subst hj; first | (simp; done) | (simp; omega)))
  have HXA0_1 := Lib.hid hx
  clear hx
  have hx := (own_keep ((box_new (e := 44) (s := 7) ((World.alloc w (.cells #[.int .i64 y0_a0, .int .i64 y1_a0, .int .i64 y2_a0, .string y3_a0, .slice y4_a0 n4_a0 c4_a0, .slice y5_a0 n5_a0 c5_a0, .slice y6_a0 n6_a0 c6_a0] 44))) #[.int .i64 y0_a1, .int .i64 y1_a1, .int .i64 y2_a1, .string y3_a1, .slice y4_a1 n4_a1 c4_a1, .slice y5_a1 n5_a1 c5_a1, .slice y6_a1 n6_a1 c6_a1] rfl).1) fun j hj => hb.block j (by injection hj with hj; have hj : ((World.alloc w (.cells #[.int .i64 y0_a0, .int .i64 y1_a0, .int .i64 y2_a0, .string y3_a0, .slice y4_a0 n4_a0 c4_a0, .slice y5_a0 n5_a0 c5_a0, .slice y6_a0 n6_a0 c6_a0] 44))).heap.size = j := hj; subst hj; first | (simp; done) | (simp; omega)))
  simp only [World.size_alloc] at hx
  have HXA1_1 := Lib.hid hx
  clear hx
  obtain ⟨hc1, hf1⟩ := bcell hb
  have hz1_0 : w.heap.size < w1.heap.size := by have h1 := hb.size; first | (simp at h1; omega) | omega
  have hz1_1 : w.heap.size + 1 < w1.heap.size := by have h1 := hb.size; first | (simp at h1; omega) | omega
  clear hb HS
  by_cases hng : r0 < 0
  · go_wp2_with fail
    go_ret
    exact ⟨rfl, HB1.out⟩
  · obtain ⟨l0, rfl⟩ : ∃ l : Nat, r0 = l := ⟨r0.toNat, by omega⟩
    have hle0 : l0 ≤ 1048576 := by have := HR0.out.2; omega
    have hwt0 : d0.wt ≤ 1048576 := by have := HR0.out.1 (by omega); omega
    clear hng
    go_wp2_with fail
    refine (szVal_any HD1.out.1 _ l0 _ ((((HD1.out.2.2.below HB1.out).more HB1.out.size).below (B := w1.heap.size) (by repeat' (first | refine Below.setCell ?_ (by first | (simp; done) | (simp; omega) | omega) _ | refine Below.alloc ?_ (by first | (simp; done) | (simp; omega) | omega) _ | refine Below.drew ?_ | exact Below.refl _ _))).more (by first | exact Nat.le_refl _ | (simp; done) | (simp; omega))) HD1.out.2.1 (by omega) (by omega)).mono ?_
    rintro e w2 ⟨r1, rfl, hr1, hb⟩
    have HR1 := Lib.hid hr1
    clear hr1
    have HS : Hid (Below w1.heap.size w1 w2) := by
      refine Lib.hid (Below.trans ?_ (hb.mono ?_))
      · repeat' (first | refine Below.setCell ?_ (by first | (simp; done) | (simp; omega) | omega) _ | refine Below.alloc ?_ (by first | (simp; done) | (simp; omega) | omega) _ | refine Below.drew ?_ | exact Below.refl _ _)
      · first | exact Nat.le_refl _ | (simp; done) | (simp; omega)
    have HN2 := HS.out.size
    have HB2 := Lib.hid (HB1.out.trans (HS.out.mono HB1.out.size))
    have HM2 := HB2.out.size
    have HXA0_2 := Lib.hid (own_keep HXA0_1.out fun j hj => HS.out.block j (HXA0_1.out.lt j hj).2)
    clear HXA0_1
    have HXA1_2 := Lib.hid (own_keep HXA1_1.out fun j hj => HS.out.block j (HXA1_1.out.lt j hj).2)
    clear HXA1_1
    obtain ⟨hc2, hf2⟩ := bcell hb
    have hz2_0 : w.heap.size < w2.heap.size := by have h1 := hb.size; first | (simp at h1; omega) | omega
    have hz2_1 : w.heap.size + 1 < w2.heap.size := by have h1 := hb.size; first | (simp at h1; omega) | omega
    clear hb HS
    by_cases hng : r1 < 0
    · go_wp2_with fail
      go_ret
      exact ⟨rfl, HB2.out⟩
    · obtain ⟨l1, rfl⟩ : ∃ l : Nat, r1 = l := ⟨r1.toNat, by omega⟩
      have hle1 : l1 ≤ 1048576 := by have := HR1.out.2; omega
      have hwt1 : d1.wt ≤ 1048576 := by have := HR1.out.1 (by omega); omega
      clear hng
      obtain ⟨ans, hans⟩ : ∃ ans : Bool, ans = @decide (d0.nrm id = d1.nrm id) (Classical.propDecidable _) := ⟨_, rfl⟩
      have HANS := Lib.hid hans
      clear hans
      have hne : (ans != ans) = false := by cases ans <;> rfl
      go_wp2_with fail
      have A0c0 : w2.cell? ⟨w.heap.size, 0, none⟩ = some (.int .i64 y0_a0) := HXA0_2.out.cellAt 0 (by omega)
      have A0c1 : w2.cell? ⟨w.heap.size, 1, none⟩ = some (.int .i64 y1_a0) := HXA0_2.out.cellAt 1 (by omega)
      have A0c2 : w2.cell? ⟨w.heap.size, 2, none⟩ = some (.int .i64 y2_a0) := HXA0_2.out.cellAt 2 (by omega)
      have A0c3 : w2.cell? ⟨w.heap.size, 3, none⟩ = some (.string y3_a0) := HXA0_2.out.cellAt 3 (by omega)
      have A0c4 : w2.cell? ⟨w.heap.size, 4, none⟩ = some (.slice y4_a0 n4_a0 c4_a0) := HXA0_2.out.cellAt 4 (by omega)
      have A0c5 : w2.cell? ⟨w.heap.size, 5, none⟩ = some (.slice y5_a0 n5_a0 c5_a0) := HXA0_2.out.cellAt 5 (by omega)
      have A0c6 : w2.cell? ⟨w.heap.size, 6, none⟩ = some (.slice y6_a0 n6_a0 c6_a0) := HXA0_2.out.cellAt 6 (by omega)
      have A0lt : w.heap.size < w2.heap.size := (HXA0_2.out.lt _ rfl).2
      have A1c0 : w2.cell? ⟨w.heap.size + 1, 0, none⟩ = some (.int .i64 y0_a1) := HXA1_2.out.cellAt 0 (by omega)
      have A1c1 : w2.cell? ⟨w.heap.size + 1, 1, none⟩ = some (.int .i64 y1_a1) := HXA1_2.out.cellAt 1 (by omega)
      have A1c2 : w2.cell? ⟨w.heap.size + 1, 2, none⟩ = some (.int .i64 y2_a1) := HXA1_2.out.cellAt 2 (by omega)
      have A1c3 : w2.cell? ⟨w.heap.size + 1, 3, none⟩ = some (.string y3_a1) := HXA1_2.out.cellAt 3 (by omega)
      have A1c4 : w2.cell? ⟨w.heap.size + 1, 4, none⟩ = some (.slice y4_a1 n4_a1 c4_a1) := HXA1_2.out.cellAt 4 (by omega)
      have A1c5 : w2.cell? ⟨w.heap.size + 1, 5, none⟩ = some (.slice y5_a1 n5_a1 c5_a1) := HXA1_2.out.cellAt 5 (by omega)
      have A1c6 : w2.cell? ⟨w.heap.size + 1, 6, none⟩ = some (.slice y6_a1 n6_a1 c6_a1) := HXA1_2.out.cellAt 6 (by omega)
      have A1lt : w.heap.size + 1 < w2.heap.size := (HXA1_2.out.lt _ rfl).2
      go_region_held3 (fun w' => w'.cell? ⟨w.heap.size, 0, none⟩ = some (.int .i64 y0_a0) ∧ w'.cell? ⟨w.heap.size, 1, none⟩ = some (.int .i64 y1_a0) ∧ w'.cell? ⟨w.heap.size, 2, none⟩ = some (.int .i64 y2_a0) ∧ w'.cell? ⟨w.heap.size, 3, none⟩ = some (.string y3_a0) ∧ w'.cell? ⟨w.heap.size, 4, none⟩ = some (.slice y4_a0 n4_a0 c4_a0) ∧ w'.cell? ⟨w.heap.size, 5, none⟩ = some (.slice y5_a0 n5_a0 c5_a0) ∧ w'.cell? ⟨w.heap.size, 6, none⟩ = some (.slice y6_a0 n6_a0 c6_a0) ∧ w'.cell? ⟨w.heap.size + 1, 0, none⟩ = some (.int .i64 y0_a1) ∧ w'.cell? ⟨w.heap.size + 1, 1, none⟩ = some (.int .i64 y1_a1) ∧ w'.cell? ⟨w.heap.size + 1, 2, none⟩ = some (.int .i64 y2_a1) ∧ w'.cell? ⟨w.heap.size + 1, 3, none⟩ = some (.string y3_a1) ∧ w'.cell? ⟨w.heap.size + 1, 4, none⟩ = some (.slice y4_a1 n4_a1 c4_a1) ∧ w'.cell? ⟨w.heap.size + 1, 5, none⟩ = some (.slice y5_a1 n5_a1 c5_a1) ∧ w'.cell? ⟨w.heap.size + 1, 6, none⟩ = some (.slice y6_a1 n6_a1 c6_a1)) (first | exact ⟨A0c0, A0c1, A0c2, A0c3, A0c4, A0c5, A0c6, A1c0, A1c1, A1c2, A1c3, A1c4, A1c5, A1c6⟩ | exact ⟨(hs1.cell (p := ⟨w.heap.size, 0, none⟩) A0lt).trans A0c0, (hs1.cell (p := ⟨w.heap.size, 1, none⟩) A0lt).trans A0c1, (hs1.cell (p := ⟨w.heap.size, 2, none⟩) A0lt).trans A0c2, (hs1.cell (p := ⟨w.heap.size, 3, none⟩) A0lt).trans A0c3, (hs1.cell (p := ⟨w.heap.size, 4, none⟩) A0lt).trans A0c4, (hs1.cell (p := ⟨w.heap.size, 5, none⟩) A0lt).trans A0c5, (hs1.cell (p := ⟨w.heap.size, 6, none⟩) A0lt).trans A0c6, (hs1.cell (p := ⟨w.heap.size + 1, 0, none⟩) A1lt).trans A1c0, (hs1.cell (p := ⟨w.heap.size + 1, 1, none⟩) A1lt).trans A1c1, (hs1.cell (p := ⟨w.heap.size + 1, 2, none⟩) A1lt).trans A1c2, (hs1.cell (p := ⟨w.heap.size + 1, 3, none⟩) A1lt).trans A1c3, (hs1.cell (p := ⟨w.heap.size + 1, 4, none⟩) A1lt).trans A1c4, (hs1.cell (p := ⟨w.heap.size + 1, 5, none⟩) A1lt).trans A1c5, (hs1.cell (p := ⟨w.heap.size + 1, 6, none⟩) A1lt).trans A1c6⟩ | exact ⟨(hs2.cell (p := ⟨w.heap.size, 0, none⟩) A0lt).trans A0c0, (hs2.cell (p := ⟨w.heap.size, 1, none⟩) A0lt).trans A0c1, (hs2.cell (p := ⟨w.heap.size, 2, none⟩) A0lt).trans A0c2, (hs2.cell (p := ⟨w.heap.size, 3, none⟩) A0lt).trans A0c3, (hs2.cell (p := ⟨w.heap.size, 4, none⟩) A0lt).trans A0c4, (hs2.cell (p := ⟨w.heap.size, 5, none⟩) A0lt).trans A0c5, (hs2.cell (p := ⟨w.heap.size, 6, none⟩) A0lt).trans A0c6, (hs2.cell (p := ⟨w.heap.size + 1, 0, none⟩) A1lt).trans A1c0, (hs2.cell (p := ⟨w.heap.size + 1, 1, none⟩) A1lt).trans A1c1, (hs2.cell (p := ⟨w.heap.size + 1, 2, none⟩) A1lt).trans A1c2, (hs2.cell (p := ⟨w.heap.size + 1, 3, none⟩) A1lt).trans A1c3, (hs2.cell (p := ⟨w.heap.size + 1, 4, none⟩) A1lt).trans A1c4, (hs2.cell (p := ⟨w.heap.size + 1, 5, none⟩) A1lt).trans A1c5, (hs2.cell (p := ⟨w.heap.size + 1, 6, none⟩) A1lt).trans A1c6⟩ | exact ⟨(hs3.cell (p := ⟨w.heap.size, 0, none⟩) A0lt).trans A0c0, (hs3.cell (p := ⟨w.heap.size, 1, none⟩) A0lt).trans A0c1, (hs3.cell (p := ⟨w.heap.size, 2, none⟩) A0lt).trans A0c2, (hs3.cell (p := ⟨w.heap.size, 3, none⟩) A0lt).trans A0c3, (hs3.cell (p := ⟨w.heap.size, 4, none⟩) A0lt).trans A0c4, (hs3.cell (p := ⟨w.heap.size, 5, none⟩) A0lt).trans A0c5, (hs3.cell (p := ⟨w.heap.size, 6, none⟩) A0lt).trans A0c6, (hs3.cell (p := ⟨w.heap.size + 1, 0, none⟩) A1lt).trans A1c0, (hs3.cell (p := ⟨w.heap.size + 1, 1, none⟩) A1lt).trans A1c1, (hs3.cell (p := ⟨w.heap.size + 1, 2, none⟩) A1lt).trans A1c2, (hs3.cell (p := ⟨w.heap.size + 1, 3, none⟩) A1lt).trans A1c3, (hs3.cell (p := ⟨w.heap.size + 1, 4, none⟩) A1lt).trans A1c4, (hs3.cell (p := ⟨w.heap.size + 1, 5, none⟩) A1lt).trans A1c5, (hs3.cell (p := ⟨w.heap.size + 1, 6, none⟩) A1lt).trans A1c6⟩)
        (first | (go_at_call_of 33 (Value.agg #[.int .i64 y0_a0, .int .i64 y1_a0, .int .i64 y2_a0, .string y3_a0, .slice y4_a0 n4_a0 c4_a0, .slice y5_a0 n5_a0 c5_a0, .slice y6_a0 n6_a0 c6_a0]); refine (toValue_any HD0.out.1 [.int .i64 y0_a0, .int .i64 y1_a0, .int .i64 y2_a0, .string y3_a0, .slice y4_a0 n4_a0 c4_a0, .slice y5_a0 n5_a0 c5_a0, .slice y6_a0 n6_a0 c6_a0] _ ((((HD0.out.2.2.below HB2.out).more HB2.out.size).below (B := w2.heap.size) (by repeat' (first | refine Below.setCell ?_ (by first | (simp; done) | (simp; omega) | omega) _ | refine Below.alloc ?_ (by first | (simp; done) | (simp; omega) | omega) _ | refine Below.drew ?_ | exact Below.refl _ _))).more (by first | exact Nat.le_refl _ | (simp; done) | (simp; omega))) hwt0).mono ?_; rintro e w3 ⟨cs, fp, rfl, how, _, hb1⟩; have hrd1 := how.read; obtain ⟨y0_b3, y1_b3, y2_b3, y3_b3, y4_b3, n4_b3, c4_b3, y5_b3, n5_b3, c5_b3, y6_b3, n6_b3, c6_b3, rfl⟩ := HD0.out.1.form hrd1; have hs1 : Below w2.heap.size w2 w3 := Below.trans (Below.refl _ _).drew hb1; clear how) | (go_at_call_of 33 (Value.agg #[.int .i64 y0_a1, .int .i64 y1_a1, .int .i64 y2_a1, .string y3_a1, .slice y4_a1 n4_a1 c4_a1, .slice y5_a1 n5_a1 c5_a1, .slice y6_a1 n6_a1 c6_a1]); refine (toValue_any HD1.out.1 [.int .i64 y0_a1, .int .i64 y1_a1, .int .i64 y2_a1, .string y3_a1, .slice y4_a1 n4_a1 c4_a1, .slice y5_a1 n5_a1 c5_a1, .slice y6_a1 n6_a1 c6_a1] _ ((((HD1.out.2.2.below HB2.out).more HB2.out.size).below hs1).more hs1.size) hwt1).mono ?_; rintro e w4 ⟨cs, fp, rfl, how, _, hb2⟩; have hrd2 := how.read; obtain ⟨y0_b4, y1_b4, y2_b4, y3_b4, y4_b4, n4_b4, c4_b4, y5_b4, n5_b4, c5_b4, y6_b4, n6_b4, c6_b4, rfl⟩ := HD1.out.1.form hrd2; have hs2 : Below w2.heap.size w2 w4 := hs1.trans (hb2.mono hs1.size); clear how) | (go_at_call 36; refine ((specEqualValue_any HD0.out.1 HD1.out.1 _ _ _ (((hrd1).below hb2).more hb2.size) (hrd2)).mono (EqP.ans HANS.out)).mono ?_; rintro e w5 ⟨rfl, hb3⟩; have hs3 := hs2.trans (hb3.mono hs2.size)))
      clear hs1 hs2 hs3
      have HS : Hid (Below w2.heap.size w2 w3) := by
        refine Lib.hid (Below.trans ?_ (hb1.mono ?_))
        · repeat' (first | refine Below.setCell ?_ (by first | (simp; done) | (simp; omega) | omega) _ | refine Below.alloc ?_ (by first | (simp; done) | (simp; omega) | omega) _ | refine Below.drew ?_ | exact Below.refl _ _)
        · first | exact Nat.le_refl _ | (simp; done) | (simp; omega)
      have HN3 := HS.out.size
      have HB3 := Lib.hid (HB2.out.trans (HS.out.mono HB2.out.size))
      have HM3 := HB3.out.size
      have HXA0_3 := Lib.hid (own_keep HXA0_2.out fun j hj => HS.out.block j (HXA0_2.out.lt j hj).2)
      clear HXA0_2
      have HXA1_3 := Lib.hid (own_keep HXA1_2.out fun j hj => HS.out.block j (HXA1_2.out.lt j hj).2)
      clear HXA1_2
      obtain ⟨hc3, hf3⟩ := bcell hb1
      have hz3_0 : w.heap.size < w3.heap.size := by have h1 := hb1.size; first | (simp at h1; omega) | omega
      have hz3_1 : w.heap.size + 1 < w3.heap.size := by have h1 := hb1.size; first | (simp at h1; omega) | omega
      clear hb1 HS
      have HS : Hid (Below w3.heap.size w3 w4) := by
        refine Lib.hid (Below.trans ?_ (hb2.mono ?_))
        · repeat' (first | refine Below.setCell ?_ (by first | (simp; done) | (simp; omega) | omega) _ | refine Below.alloc ?_ (by first | (simp; done) | (simp; omega) | omega) _ | refine Below.drew ?_ | exact Below.refl _ _)
        · first | exact Nat.le_refl _ | (simp; done) | (simp; omega)
      have HN4 := HS.out.size
      have HB4 := Lib.hid (HB3.out.trans (HS.out.mono HB3.out.size))
      have HM4 := HB4.out.size
      have HXA0_4 := Lib.hid (own_keep HXA0_3.out fun j hj => HS.out.block j (HXA0_3.out.lt j hj).2)
      clear HXA0_3
      have HXA1_4 := Lib.hid (own_keep HXA1_3.out fun j hj => HS.out.block j (HXA1_3.out.lt j hj).2)
      clear HXA1_3
      obtain ⟨hc4, hf4⟩ := bcell hb2
      have hz4_0 : w.heap.size < w4.heap.size := by have h1 := hb2.size; first | (simp at h1; omega) | omega
      have hz4_1 : w.heap.size + 1 < w4.heap.size := by have h1 := hb2.size; first | (simp at h1; omega) | omega
      clear hb2 HS
      have HS : Hid (Below w4.heap.size w4 w5) := by
        refine Lib.hid (Below.trans ?_ (hb3.mono ?_))
        · repeat' (first | refine Below.setCell ?_ (by first | (simp; done) | (simp; omega) | omega) _ | refine Below.alloc ?_ (by first | (simp; done) | (simp; omega) | omega) _ | refine Below.drew ?_ | exact Below.refl _ _)
        · first | exact Nat.le_refl _ | (simp; done) | (simp; omega)
      have HN5 := HS.out.size
      have HB5 := Lib.hid (HB4.out.trans (HS.out.mono HB4.out.size))
      have HM5 := HB5.out.size
      have HXA0_5 := Lib.hid (own_keep HXA0_4.out fun j hj => HS.out.block j (HXA0_4.out.lt j hj).2)
      clear HXA0_4
      have HXA1_5 := Lib.hid (own_keep HXA1_4.out fun j hj => HS.out.block j (HXA1_4.out.lt j hj).2)
      clear HXA1_4
      obtain ⟨hc5, hf5⟩ := bcell hb3
      have hz5_0 : w.heap.size < w5.heap.size := by have h1 := hb3.size; first | (simp at h1; omega) | omega
      have hz5_1 : w.heap.size + 1 < w5.heap.size := by have h1 := hb3.size; first | (simp at h1; omega) | omega
      clear hb3 HS
      clear hrd1 hrd2
      go_wp2_with fail
      refine (toValue_any HD0.out.1 _ _ ((((HD0.out.2.2.below HB5.out).more HB5.out.size).below (B := w5.heap.size) (by repeat' (first | refine Below.setCell ?_ (by first | (simp; done) | (simp; omega) | omega) _ | refine Below.alloc ?_ (by first | (simp; done) | (simp; omega) | omega) _ | refine Below.drew ?_ | exact Below.refl _ _))).more (by first | exact Nat.le_refl _ | (simp; done) | (simp; omega))) hwt0).mono ?_
      rintro e w6 ⟨cs, fp, rfl, how, _, hb⟩
      have hrd := how.read
      clear how
      obtain ⟨y0_b6, y1_b6, y2_b6, y3_b6, y4_b6, n4_b6, c4_b6, y5_b6, n5_b6, c5_b6, y6_b6, n6_b6, c6_b6, rfl⟩ := HD0.out.1.form hrd
      have HO6_6 := Lib.hid hrd
      clear hrd
      have HS : Hid (Below w5.heap.size w5 w6) := by
        refine Lib.hid (Below.trans ?_ (hb.mono ?_))
        · repeat' (first | refine Below.setCell ?_ (by first | (simp; done) | (simp; omega) | omega) _ | refine Below.alloc ?_ (by first | (simp; done) | (simp; omega) | omega) _ | refine Below.drew ?_ | exact Below.refl _ _)
        · first | exact Nat.le_refl _ | (simp; done) | (simp; omega)
      have HN6 := HS.out.size
      have HB6 := Lib.hid (HB5.out.trans (HS.out.mono HB5.out.size))
      have HM6 := HB6.out.size
      have HXA0_6 := Lib.hid (own_keep HXA0_5.out fun j hj => HS.out.block j (HXA0_5.out.lt j hj).2)
      clear HXA0_5
      have HXA1_6 := Lib.hid (own_keep HXA1_5.out fun j hj => HS.out.block j (HXA1_5.out.lt j hj).2)
      clear HXA1_5
      obtain ⟨hc6, hf6⟩ := bcell hb
      have hz6_0 : w.heap.size < w6.heap.size := by have h1 := hb.size; first | (simp at h1; omega) | omega
      have hz6_1 : w.heap.size + 1 < w6.heap.size := by have h1 := hb.size; first | (simp at h1; omega) | omega
      clear hb HS
      go_wp2_with fail
      refine (toValue_any HD1.out.1 _ _ ((((HD1.out.2.2.below HB6.out).more HB6.out.size).below (B := w6.heap.size) (by repeat' (first | refine Below.setCell ?_ (by first | (simp; done) | (simp; omega) | omega) _ | refine Below.alloc ?_ (by first | (simp; done) | (simp; omega) | omega) _ | refine Below.drew ?_ | exact Below.refl _ _))).more (by first | exact Nat.le_refl _ | (simp; done) | (simp; omega))) hwt1).mono ?_
      rintro e w7 ⟨cs, fp, rfl, how, _, hb⟩
      have hrd := how.read
      clear how
      obtain ⟨y0_b7, y1_b7, y2_b7, y3_b7, y4_b7, n4_b7, c4_b7, y5_b7, n5_b7, c5_b7, y6_b7, n6_b7, c6_b7, rfl⟩ := HD1.out.1.form hrd
      have HO7_7 := Lib.hid hrd
      clear hrd
      have HS : Hid (Below w6.heap.size w6 w7) := by
        refine Lib.hid (Below.trans ?_ (hb.mono ?_))
        · repeat' (first | refine Below.setCell ?_ (by first | (simp; done) | (simp; omega) | omega) _ | refine Below.alloc ?_ (by first | (simp; done) | (simp; omega) | omega) _ | refine Below.drew ?_ | exact Below.refl _ _)
        · first | exact Nat.le_refl _ | (simp; done) | (simp; omega)
      have HN7 := HS.out.size
      have HB7 := Lib.hid (HB6.out.trans (HS.out.mono HB6.out.size))
      have HM7 := HB7.out.size
      have HO6_7 := Lib.hid ((HO6_6.out.below HS.out).more HS.out.size)
      clear HO6_6
      have HXA0_7 := Lib.hid (own_keep HXA0_6.out fun j hj => HS.out.block j (HXA0_6.out.lt j hj).2)
      clear HXA0_6
      have HXA1_7 := Lib.hid (own_keep HXA1_6.out fun j hj => HS.out.block j (HXA1_6.out.lt j hj).2)
      clear HXA1_6
      have hx := (own_keep ((box_new (e := 50) (s := 7) (w6) #[.int .i64 y0_b6, .int .i64 y1_b6, .int .i64 y2_b6, .string y3_b6, .slice y4_b6 n4_b6 c4_b6, .slice y5_b6 n5_b6 c5_b6, .slice y6_b6 n6_b6 c6_b6] rfl).1) fun j hj => hb.block j (by injection hj with hj; have hj : (w6).heap.size = j := hj; subst hj; first | (simp; done) | (simp; omega)))
      have HXX0_7 := Lib.hid hx
      clear hx
      obtain ⟨hc7, hf7⟩ := bcell hb
      have hz7_0 : w.heap.size < w7.heap.size := by have h1 := hb.size; first | (simp at h1; omega) | omega
      have hz7_1 : w.heap.size + 1 < w7.heap.size := by have h1 := hb.size; first | (simp at h1; omega) | omega
      have hz7_2 : w6.heap.size < w7.heap.size := by have h1 := hb.size; first | (simp at h1; omega) | omega
      clear hb HS
      go_wp2_with fail
      refine ((implEqualValue_any HD0.out.1 HD1.out.1 hwt0 hwt1 _ _ _ (((HO6_7.out).below (B := w7.heap.size) (by repeat' (first | refine Below.setCell ?_ (by first | (simp; done) | (simp; omega) | omega) _ | refine Below.alloc ?_ (by first | (simp; done) | (simp; omega) | omega) _ | refine Below.drew ?_ | exact Below.refl _ _))).more (by first | exact Nat.le_refl _ | (simp; done) | (simp; omega))) (((HO7_7.out).below (B := w7.heap.size) (by repeat' (first | refine Below.setCell ?_ (by first | (simp; done) | (simp; omega) | omega) _ | refine Below.alloc ?_ (by first | (simp; done) | (simp; omega) | omega) _ | refine Below.drew ?_ | exact Below.refl _ _))).more (by first | exact Nat.le_refl _ | (simp; done) | (simp; omega)))).mono (EqP.ans HANS.out)).mono ?_
      rintro e w8 ⟨rfl, hb⟩
      have HS : Hid (Below w7.heap.size w7 w8) := by
        refine Lib.hid (Below.trans ?_ (hb.mono ?_))
        · repeat' (first | refine Below.setCell ?_ (by first | (simp; done) | (simp; omega) | omega) _ | refine Below.alloc ?_ (by first | (simp; done) | (simp; omega) | omega) _ | refine Below.drew ?_ | exact Below.refl _ _)
        · first | exact Nat.le_refl _ | (simp; done) | (simp; omega)
      have HN8 := HS.out.size
      have HB8 := Lib.hid (HB7.out.trans (HS.out.mono HB7.out.size))
      have HM8 := HB8.out.size
      have HO6_8 := Lib.hid ((HO6_7.out.below HS.out).more HS.out.size)
      clear HO6_7
      have HO7_8 := Lib.hid ((HO7_7.out.below HS.out).more HS.out.size)
      clear HO7_7
      have HXA0_8 := Lib.hid (own_keep HXA0_7.out fun j hj => HS.out.block j (HXA0_7.out.lt j hj).2)
      clear HXA0_7
      have HXA1_8 := Lib.hid (own_keep HXA1_7.out fun j hj => HS.out.block j (HXA1_7.out.lt j hj).2)
      clear HXA1_7
      have HXX0_8 := Lib.hid (own_keep HXX0_7.out fun j hj => HS.out.block j (HXX0_7.out.lt j hj).2)
      clear HXX0_7
      have hx := (own_keep ((box_new (e := 50) (s := 7) (w7) #[.int .i64 y0_b7, .int .i64 y1_b7, .int .i64 y2_b7, .string y3_b7, .slice y4_b7 n4_b7 c4_b7, .slice y5_b7 n5_b7 c5_b7, .slice y6_b7 n6_b7 c6_b7] rfl).1) fun j hj => hb.block j (by injection hj with hj; have hj : (w7).heap.size = j := hj; subst hj; first | (simp; done) | (simp; omega)))
      have HXX1_8 := Lib.hid hx
      clear hx
      obtain ⟨hc8, hf8⟩ := bcell hb
      have hz8_0 : w.heap.size < w8.heap.size := by have h1 := hb.size; first | (simp at h1; omega) | omega
      have hz8_1 : w.heap.size + 1 < w8.heap.size := by have h1 := hb.size; first | (simp at h1; omega) | omega
      have hz8_2 : w6.heap.size < w8.heap.size := by have h1 := hb.size; first | (simp at h1; omega) | omega
      have hz8_3 : w7.heap.size < w8.heap.size := by have h1 := hb.size; first | (simp at h1; omega) | omega
      clear hb HS
      go_wp2_with fail
      have X0c0 : w8.cell? ⟨w6.heap.size, 0, none⟩ = some (.int .i64 y0_b6) := HXX0_8.out.cellAt 0 (by omega)
      have X0c1 : w8.cell? ⟨w6.heap.size, 1, none⟩ = some (.int .i64 y1_b6) := HXX0_8.out.cellAt 1 (by omega)
      have X0c2 : w8.cell? ⟨w6.heap.size, 2, none⟩ = some (.int .i64 y2_b6) := HXX0_8.out.cellAt 2 (by omega)
      have X0c3 : w8.cell? ⟨w6.heap.size, 3, none⟩ = some (.string y3_b6) := HXX0_8.out.cellAt 3 (by omega)
      have X0c4 : w8.cell? ⟨w6.heap.size, 4, none⟩ = some (.slice y4_b6 n4_b6 c4_b6) := HXX0_8.out.cellAt 4 (by omega)
      have X0c5 : w8.cell? ⟨w6.heap.size, 5, none⟩ = some (.slice y5_b6 n5_b6 c5_b6) := HXX0_8.out.cellAt 5 (by omega)
      have X0c6 : w8.cell? ⟨w6.heap.size, 6, none⟩ = some (.slice y6_b6 n6_b6 c6_b6) := HXX0_8.out.cellAt 6 (by omega)
      have X0lt : w6.heap.size < w8.heap.size := (HXX0_8.out.lt _ rfl).2
      have A0c0 : w8.cell? ⟨w.heap.size, 0, none⟩ = some (.int .i64 y0_a0) := HXA0_8.out.cellAt 0 (by omega)
      have A0c1 : w8.cell? ⟨w.heap.size, 1, none⟩ = some (.int .i64 y1_a0) := HXA0_8.out.cellAt 1 (by omega)
      have A0c2 : w8.cell? ⟨w.heap.size, 2, none⟩ = some (.int .i64 y2_a0) := HXA0_8.out.cellAt 2 (by omega)
      have A0c3 : w8.cell? ⟨w.heap.size, 3, none⟩ = some (.string y3_a0) := HXA0_8.out.cellAt 3 (by omega)
      have A0c4 : w8.cell? ⟨w.heap.size, 4, none⟩ = some (.slice y4_a0 n4_a0 c4_a0) := HXA0_8.out.cellAt 4 (by omega)
      have A0c5 : w8.cell? ⟨w.heap.size, 5, none⟩ = some (.slice y5_a0 n5_a0 c5_a0) := HXA0_8.out.cellAt 5 (by omega)
      have A0c6 : w8.cell? ⟨w.heap.size, 6, none⟩ = some (.slice y6_a0 n6_a0 c6_a0) := HXA0_8.out.cellAt 6 (by omega)
      have A0lt : w.heap.size < w8.heap.size := (HXA0_8.out.lt _ rfl).2
      go_region_held3 (fun w' => w'.cell? ⟨w6.heap.size, 0, none⟩ = some (.int .i64 y0_b6) ∧ w'.cell? ⟨w6.heap.size, 1, none⟩ = some (.int .i64 y1_b6) ∧ w'.cell? ⟨w6.heap.size, 2, none⟩ = some (.int .i64 y2_b6) ∧ w'.cell? ⟨w6.heap.size, 3, none⟩ = some (.string y3_b6) ∧ w'.cell? ⟨w6.heap.size, 4, none⟩ = some (.slice y4_b6 n4_b6 c4_b6) ∧ w'.cell? ⟨w6.heap.size, 5, none⟩ = some (.slice y5_b6 n5_b6 c5_b6) ∧ w'.cell? ⟨w6.heap.size, 6, none⟩ = some (.slice y6_b6 n6_b6 c6_b6) ∧ w'.cell? ⟨w.heap.size, 0, none⟩ = some (.int .i64 y0_a0) ∧ w'.cell? ⟨w.heap.size, 1, none⟩ = some (.int .i64 y1_a0) ∧ w'.cell? ⟨w.heap.size, 2, none⟩ = some (.int .i64 y2_a0) ∧ w'.cell? ⟨w.heap.size, 3, none⟩ = some (.string y3_a0) ∧ w'.cell? ⟨w.heap.size, 4, none⟩ = some (.slice y4_a0 n4_a0 c4_a0) ∧ w'.cell? ⟨w.heap.size, 5, none⟩ = some (.slice y5_a0 n5_a0 c5_a0) ∧ w'.cell? ⟨w.heap.size, 6, none⟩ = some (.slice y6_a0 n6_a0 c6_a0)) (first | exact ⟨X0c0, X0c1, X0c2, X0c3, X0c4, X0c5, X0c6, A0c0, A0c1, A0c2, A0c3, A0c4, A0c5, A0c6⟩ | exact ⟨(hb1.cell (p := ⟨w6.heap.size, 0, none⟩) (by first | exact X0lt | exact Nat.lt_of_lt_of_le X0lt hbs1)).trans X0c0, (hb1.cell (p := ⟨w6.heap.size, 1, none⟩) (by first | exact X0lt | exact Nat.lt_of_lt_of_le X0lt hbs1)).trans X0c1, (hb1.cell (p := ⟨w6.heap.size, 2, none⟩) (by first | exact X0lt | exact Nat.lt_of_lt_of_le X0lt hbs1)).trans X0c2, (hb1.cell (p := ⟨w6.heap.size, 3, none⟩) (by first | exact X0lt | exact Nat.lt_of_lt_of_le X0lt hbs1)).trans X0c3, (hb1.cell (p := ⟨w6.heap.size, 4, none⟩) (by first | exact X0lt | exact Nat.lt_of_lt_of_le X0lt hbs1)).trans X0c4, (hb1.cell (p := ⟨w6.heap.size, 5, none⟩) (by first | exact X0lt | exact Nat.lt_of_lt_of_le X0lt hbs1)).trans X0c5, (hb1.cell (p := ⟨w6.heap.size, 6, none⟩) (by first | exact X0lt | exact Nat.lt_of_lt_of_le X0lt hbs1)).trans X0c6, (hb1.cell (p := ⟨w.heap.size, 0, none⟩) (by first | exact A0lt | exact Nat.lt_of_lt_of_le A0lt hbs1)).trans A0c0, (hb1.cell (p := ⟨w.heap.size, 1, none⟩) (by first | exact A0lt | exact Nat.lt_of_lt_of_le A0lt hbs1)).trans A0c1, (hb1.cell (p := ⟨w.heap.size, 2, none⟩) (by first | exact A0lt | exact Nat.lt_of_lt_of_le A0lt hbs1)).trans A0c2, (hb1.cell (p := ⟨w.heap.size, 3, none⟩) (by first | exact A0lt | exact Nat.lt_of_lt_of_le A0lt hbs1)).trans A0c3, (hb1.cell (p := ⟨w.heap.size, 4, none⟩) (by first | exact A0lt | exact Nat.lt_of_lt_of_le A0lt hbs1)).trans A0c4, (hb1.cell (p := ⟨w.heap.size, 5, none⟩) (by first | exact A0lt | exact Nat.lt_of_lt_of_le A0lt hbs1)).trans A0c5, (hb1.cell (p := ⟨w.heap.size, 6, none⟩) (by first | exact A0lt | exact Nat.lt_of_lt_of_le A0lt hbs1)).trans A0c6⟩ | exact ⟨(hb2.cell (p := ⟨w6.heap.size, 0, none⟩) (by first | exact X0lt | exact Nat.lt_of_lt_of_le X0lt hbs1)).trans ((hb1.cell (p := ⟨w6.heap.size, 0, none⟩) X0lt).trans X0c0), (hb2.cell (p := ⟨w6.heap.size, 1, none⟩) (by first | exact X0lt | exact Nat.lt_of_lt_of_le X0lt hbs1)).trans ((hb1.cell (p := ⟨w6.heap.size, 1, none⟩) X0lt).trans X0c1), (hb2.cell (p := ⟨w6.heap.size, 2, none⟩) (by first | exact X0lt | exact Nat.lt_of_lt_of_le X0lt hbs1)).trans ((hb1.cell (p := ⟨w6.heap.size, 2, none⟩) X0lt).trans X0c2), (hb2.cell (p := ⟨w6.heap.size, 3, none⟩) (by first | exact X0lt | exact Nat.lt_of_lt_of_le X0lt hbs1)).trans ((hb1.cell (p := ⟨w6.heap.size, 3, none⟩) X0lt).trans X0c3), (hb2.cell (p := ⟨w6.heap.size, 4, none⟩) (by first | exact X0lt | exact Nat.lt_of_lt_of_le X0lt hbs1)).trans ((hb1.cell (p := ⟨w6.heap.size, 4, none⟩) X0lt).trans X0c4), (hb2.cell (p := ⟨w6.heap.size, 5, none⟩) (by first | exact X0lt | exact Nat.lt_of_lt_of_le X0lt hbs1)).trans ((hb1.cell (p := ⟨w6.heap.size, 5, none⟩) X0lt).trans X0c5), (hb2.cell (p := ⟨w6.heap.size, 6, none⟩) (by first | exact X0lt | exact Nat.lt_of_lt_of_le X0lt hbs1)).trans ((hb1.cell (p := ⟨w6.heap.size, 6, none⟩) X0lt).trans X0c6), (hb2.cell (p := ⟨w.heap.size, 0, none⟩) (by first | exact A0lt | exact Nat.lt_of_lt_of_le A0lt hbs1)).trans ((hb1.cell (p := ⟨w.heap.size, 0, none⟩) A0lt).trans A0c0), (hb2.cell (p := ⟨w.heap.size, 1, none⟩) (by first | exact A0lt | exact Nat.lt_of_lt_of_le A0lt hbs1)).trans ((hb1.cell (p := ⟨w.heap.size, 1, none⟩) A0lt).trans A0c1), (hb2.cell (p := ⟨w.heap.size, 2, none⟩) (by first | exact A0lt | exact Nat.lt_of_lt_of_le A0lt hbs1)).trans ((hb1.cell (p := ⟨w.heap.size, 2, none⟩) A0lt).trans A0c2), (hb2.cell (p := ⟨w.heap.size, 3, none⟩) (by first | exact A0lt | exact Nat.lt_of_lt_of_le A0lt hbs1)).trans ((hb1.cell (p := ⟨w.heap.size, 3, none⟩) A0lt).trans A0c3), (hb2.cell (p := ⟨w.heap.size, 4, none⟩) (by first | exact A0lt | exact Nat.lt_of_lt_of_le A0lt hbs1)).trans ((hb1.cell (p := ⟨w.heap.size, 4, none⟩) A0lt).trans A0c4), (hb2.cell (p := ⟨w.heap.size, 5, none⟩) (by first | exact A0lt | exact Nat.lt_of_lt_of_le A0lt hbs1)).trans ((hb1.cell (p := ⟨w.heap.size, 5, none⟩) A0lt).trans A0c5), (hb2.cell (p := ⟨w.heap.size, 6, none⟩) (by first | exact A0lt | exact Nat.lt_of_lt_of_le A0lt hbs1)).trans ((hb1.cell (p := ⟨w.heap.size, 6, none⟩) A0lt).trans A0c6)⟩)
        (first | (go_at_call 33; refine (toValue_any HD0.out.1 _ _ ((((HD0.out.2.2.below HB8.out).more HB8.out.size).below (B := w8.heap.size) (by repeat' (first | refine Below.setCell ?_ (by first | (simp; done) | (simp; omega) | omega) _ | refine Below.alloc ?_ (by first | (simp; done) | (simp; omega) | omega) _ | refine Below.drew ?_ | exact Below.refl _ _))).more (by first | exact Nat.le_refl _ | (simp; done) | (simp; omega))) hwt0).mono ?_; rintro e w9 ⟨cs, fp, rfl, how, _, hb1⟩; have hrd1 := how.read; obtain ⟨y0_b9, y1_b9, y2_b9, y3_b9, y4_b9, n4_b9, c4_b9, y5_b9, n5_b9, c5_b9, y6_b9, n6_b9, c6_b9, rfl⟩ := HD0.out.1.form hrd1; have hbs1 := hb1.size) | (go_at_call 35; refine (eqValue_any HD0.out.1 HD0.out.1 _ _ _ (((((HO6_8.out).below (B := w8.heap.size) (by repeat' (first | refine Below.setCell ?_ (by first | (simp; done) | (simp; omega) | omega) _ | refine Below.alloc ?_ (by first | (simp; done) | (simp; omega) | omega) _ | refine Below.drew ?_ | exact Below.refl _ _))).more (by first | exact Nat.le_refl _ | (simp; done) | (simp; omega))).below hb1).more hbs1) hrd1).mono ?_; rintro e w10 ⟨b, rfl, hbi, hb2⟩; obtain rfl : b = true := hbi.2 rfl))
      have HS : Hid (Below w8.heap.size w8 w9) := by
        refine Lib.hid (Below.trans ?_ (hb1.mono ?_))
        · repeat' (first | refine Below.setCell ?_ (by first | (simp; done) | (simp; omega) | omega) _ | refine Below.alloc ?_ (by first | (simp; done) | (simp; omega) | omega) _ | refine Below.drew ?_ | exact Below.refl _ _)
        · first | exact Nat.le_refl _ | (simp; done) | (simp; omega)
      have HN9 := HS.out.size
      have HB9 := Lib.hid (HB8.out.trans (HS.out.mono HB8.out.size))
      have HM9 := HB9.out.size
      have HO6_9 := Lib.hid ((HO6_8.out.below HS.out).more HS.out.size)
      clear HO6_8
      have HO7_9 := Lib.hid ((HO7_8.out.below HS.out).more HS.out.size)
      clear HO7_8
      have HXA0_9 := Lib.hid (own_keep HXA0_8.out fun j hj => HS.out.block j (HXA0_8.out.lt j hj).2)
      clear HXA0_8
      have HXA1_9 := Lib.hid (own_keep HXA1_8.out fun j hj => HS.out.block j (HXA1_8.out.lt j hj).2)
      clear HXA1_8
      have HXX0_9 := Lib.hid (own_keep HXX0_8.out fun j hj => HS.out.block j (HXX0_8.out.lt j hj).2)
      clear HXX0_8
      have HXX1_9 := Lib.hid (own_keep HXX1_8.out fun j hj => HS.out.block j (HXX1_8.out.lt j hj).2)
      clear HXX1_8
      obtain ⟨hc9, hf9⟩ := bcell hb1
      have hz9_0 : w.heap.size < w9.heap.size := by have h1 := hb1.size; first | (simp at h1; omega) | omega
      have hz9_1 : w.heap.size + 1 < w9.heap.size := by have h1 := hb1.size; first | (simp at h1; omega) | omega
      have hz9_2 : w6.heap.size < w9.heap.size := by have h1 := hb1.size; first | (simp at h1; omega) | omega
      have hz9_3 : w7.heap.size < w9.heap.size := by have h1 := hb1.size; first | (simp at h1; omega) | omega
      clear hb1 HS
      have HS : Hid (Below w9.heap.size w9 w10) := by
        refine Lib.hid (Below.trans ?_ (hb2.mono ?_))
        · repeat' (first | refine Below.setCell ?_ (by first | (simp; done) | (simp; omega) | omega) _ | refine Below.alloc ?_ (by first | (simp; done) | (simp; omega) | omega) _ | refine Below.drew ?_ | exact Below.refl _ _)
        · first | exact Nat.le_refl _ | (simp; done) | (simp; omega)
      have HN10 := HS.out.size
      have HB10 := Lib.hid (HB9.out.trans (HS.out.mono HB9.out.size))
      have HM10 := HB10.out.size
      have HO6_10 := Lib.hid ((HO6_9.out.below HS.out).more HS.out.size)
      clear HO6_9
      have HO7_10 := Lib.hid ((HO7_9.out.below HS.out).more HS.out.size)
      clear HO7_9
      have HXA0_10 := Lib.hid (own_keep HXA0_9.out fun j hj => HS.out.block j (HXA0_9.out.lt j hj).2)
      clear HXA0_9
      have HXA1_10 := Lib.hid (own_keep HXA1_9.out fun j hj => HS.out.block j (HXA1_9.out.lt j hj).2)
      clear HXA1_9
      have HXX0_10 := Lib.hid (own_keep HXX0_9.out fun j hj => HS.out.block j (HXX0_9.out.lt j hj).2)
      clear HXX0_9
      have HXX1_10 := Lib.hid (own_keep HXX1_9.out fun j hj => HS.out.block j (HXX1_9.out.lt j hj).2)
      clear HXX1_9
      obtain ⟨hc10, hf10⟩ := bcell hb2
      have hz10_0 : w.heap.size < w10.heap.size := by have h1 := hb2.size; first | (simp at h1; omega) | omega
      have hz10_1 : w.heap.size + 1 < w10.heap.size := by have h1 := hb2.size; first | (simp at h1; omega) | omega
      have hz10_2 : w6.heap.size < w10.heap.size := by have h1 := hb2.size; first | (simp at h1; omega) | omega
      have hz10_3 : w7.heap.size < w10.heap.size := by have h1 := hb2.size; first | (simp at h1; omega) | omega
      clear hb2 HS
      go_wp2_with fail
      have X1c0 : w10.cell? ⟨w7.heap.size, 0, none⟩ = some (.int .i64 y0_b7) := HXX1_10.out.cellAt 0 (by omega)
      have X1c1 : w10.cell? ⟨w7.heap.size, 1, none⟩ = some (.int .i64 y1_b7) := HXX1_10.out.cellAt 1 (by omega)
      have X1c2 : w10.cell? ⟨w7.heap.size, 2, none⟩ = some (.int .i64 y2_b7) := HXX1_10.out.cellAt 2 (by omega)
      have X1c3 : w10.cell? ⟨w7.heap.size, 3, none⟩ = some (.string y3_b7) := HXX1_10.out.cellAt 3 (by omega)
      have X1c4 : w10.cell? ⟨w7.heap.size, 4, none⟩ = some (.slice y4_b7 n4_b7 c4_b7) := HXX1_10.out.cellAt 4 (by omega)
      have X1c5 : w10.cell? ⟨w7.heap.size, 5, none⟩ = some (.slice y5_b7 n5_b7 c5_b7) := HXX1_10.out.cellAt 5 (by omega)
      have X1c6 : w10.cell? ⟨w7.heap.size, 6, none⟩ = some (.slice y6_b7 n6_b7 c6_b7) := HXX1_10.out.cellAt 6 (by omega)
      have X1lt : w7.heap.size < w10.heap.size := (HXX1_10.out.lt _ rfl).2
      have A1c0 : w10.cell? ⟨w.heap.size + 1, 0, none⟩ = some (.int .i64 y0_a1) := HXA1_10.out.cellAt 0 (by omega)
      have A1c1 : w10.cell? ⟨w.heap.size + 1, 1, none⟩ = some (.int .i64 y1_a1) := HXA1_10.out.cellAt 1 (by omega)
      have A1c2 : w10.cell? ⟨w.heap.size + 1, 2, none⟩ = some (.int .i64 y2_a1) := HXA1_10.out.cellAt 2 (by omega)
      have A1c3 : w10.cell? ⟨w.heap.size + 1, 3, none⟩ = some (.string y3_a1) := HXA1_10.out.cellAt 3 (by omega)
      have A1c4 : w10.cell? ⟨w.heap.size + 1, 4, none⟩ = some (.slice y4_a1 n4_a1 c4_a1) := HXA1_10.out.cellAt 4 (by omega)
      have A1c5 : w10.cell? ⟨w.heap.size + 1, 5, none⟩ = some (.slice y5_a1 n5_a1 c5_a1) := HXA1_10.out.cellAt 5 (by omega)
      have A1c6 : w10.cell? ⟨w.heap.size + 1, 6, none⟩ = some (.slice y6_a1 n6_a1 c6_a1) := HXA1_10.out.cellAt 6 (by omega)
      have A1lt : w.heap.size + 1 < w10.heap.size := (HXA1_10.out.lt _ rfl).2
      go_region_held3 (fun w' => w'.cell? ⟨w7.heap.size, 0, none⟩ = some (.int .i64 y0_b7) ∧ w'.cell? ⟨w7.heap.size, 1, none⟩ = some (.int .i64 y1_b7) ∧ w'.cell? ⟨w7.heap.size, 2, none⟩ = some (.int .i64 y2_b7) ∧ w'.cell? ⟨w7.heap.size, 3, none⟩ = some (.string y3_b7) ∧ w'.cell? ⟨w7.heap.size, 4, none⟩ = some (.slice y4_b7 n4_b7 c4_b7) ∧ w'.cell? ⟨w7.heap.size, 5, none⟩ = some (.slice y5_b7 n5_b7 c5_b7) ∧ w'.cell? ⟨w7.heap.size, 6, none⟩ = some (.slice y6_b7 n6_b7 c6_b7) ∧ w'.cell? ⟨w.heap.size + 1, 0, none⟩ = some (.int .i64 y0_a1) ∧ w'.cell? ⟨w.heap.size + 1, 1, none⟩ = some (.int .i64 y1_a1) ∧ w'.cell? ⟨w.heap.size + 1, 2, none⟩ = some (.int .i64 y2_a1) ∧ w'.cell? ⟨w.heap.size + 1, 3, none⟩ = some (.string y3_a1) ∧ w'.cell? ⟨w.heap.size + 1, 4, none⟩ = some (.slice y4_a1 n4_a1 c4_a1) ∧ w'.cell? ⟨w.heap.size + 1, 5, none⟩ = some (.slice y5_a1 n5_a1 c5_a1) ∧ w'.cell? ⟨w.heap.size + 1, 6, none⟩ = some (.slice y6_a1 n6_a1 c6_a1)) (first | exact ⟨X1c0, X1c1, X1c2, X1c3, X1c4, X1c5, X1c6, A1c0, A1c1, A1c2, A1c3, A1c4, A1c5, A1c6⟩ | exact ⟨(hb1.cell (p := ⟨w7.heap.size, 0, none⟩) (by first | exact X1lt | exact Nat.lt_of_lt_of_le X1lt hbs1)).trans X1c0, (hb1.cell (p := ⟨w7.heap.size, 1, none⟩) (by first | exact X1lt | exact Nat.lt_of_lt_of_le X1lt hbs1)).trans X1c1, (hb1.cell (p := ⟨w7.heap.size, 2, none⟩) (by first | exact X1lt | exact Nat.lt_of_lt_of_le X1lt hbs1)).trans X1c2, (hb1.cell (p := ⟨w7.heap.size, 3, none⟩) (by first | exact X1lt | exact Nat.lt_of_lt_of_le X1lt hbs1)).trans X1c3, (hb1.cell (p := ⟨w7.heap.size, 4, none⟩) (by first | exact X1lt | exact Nat.lt_of_lt_of_le X1lt hbs1)).trans X1c4, (hb1.cell (p := ⟨w7.heap.size, 5, none⟩) (by first | exact X1lt | exact Nat.lt_of_lt_of_le X1lt hbs1)).trans X1c5, (hb1.cell (p := ⟨w7.heap.size, 6, none⟩) (by first | exact X1lt | exact Nat.lt_of_lt_of_le X1lt hbs1)).trans X1c6, (hb1.cell (p := ⟨w.heap.size + 1, 0, none⟩) (by first | exact A1lt | exact Nat.lt_of_lt_of_le A1lt hbs1)).trans A1c0, (hb1.cell (p := ⟨w.heap.size + 1, 1, none⟩) (by first | exact A1lt | exact Nat.lt_of_lt_of_le A1lt hbs1)).trans A1c1, (hb1.cell (p := ⟨w.heap.size + 1, 2, none⟩) (by first | exact A1lt | exact Nat.lt_of_lt_of_le A1lt hbs1)).trans A1c2, (hb1.cell (p := ⟨w.heap.size + 1, 3, none⟩) (by first | exact A1lt | exact Nat.lt_of_lt_of_le A1lt hbs1)).trans A1c3, (hb1.cell (p := ⟨w.heap.size + 1, 4, none⟩) (by first | exact A1lt | exact Nat.lt_of_lt_of_le A1lt hbs1)).trans A1c4, (hb1.cell (p := ⟨w.heap.size + 1, 5, none⟩) (by first | exact A1lt | exact Nat.lt_of_lt_of_le A1lt hbs1)).trans A1c5, (hb1.cell (p := ⟨w.heap.size + 1, 6, none⟩) (by first | exact A1lt | exact Nat.lt_of_lt_of_le A1lt hbs1)).trans A1c6⟩ | exact ⟨(hb2.cell (p := ⟨w7.heap.size, 0, none⟩) (by first | exact X1lt | exact Nat.lt_of_lt_of_le X1lt hbs1)).trans ((hb1.cell (p := ⟨w7.heap.size, 0, none⟩) X1lt).trans X1c0), (hb2.cell (p := ⟨w7.heap.size, 1, none⟩) (by first | exact X1lt | exact Nat.lt_of_lt_of_le X1lt hbs1)).trans ((hb1.cell (p := ⟨w7.heap.size, 1, none⟩) X1lt).trans X1c1), (hb2.cell (p := ⟨w7.heap.size, 2, none⟩) (by first | exact X1lt | exact Nat.lt_of_lt_of_le X1lt hbs1)).trans ((hb1.cell (p := ⟨w7.heap.size, 2, none⟩) X1lt).trans X1c2), (hb2.cell (p := ⟨w7.heap.size, 3, none⟩) (by first | exact X1lt | exact Nat.lt_of_lt_of_le X1lt hbs1)).trans ((hb1.cell (p := ⟨w7.heap.size, 3, none⟩) X1lt).trans X1c3), (hb2.cell (p := ⟨w7.heap.size, 4, none⟩) (by first | exact X1lt | exact Nat.lt_of_lt_of_le X1lt hbs1)).trans ((hb1.cell (p := ⟨w7.heap.size, 4, none⟩) X1lt).trans X1c4), (hb2.cell (p := ⟨w7.heap.size, 5, none⟩) (by first | exact X1lt | exact Nat.lt_of_lt_of_le X1lt hbs1)).trans ((hb1.cell (p := ⟨w7.heap.size, 5, none⟩) X1lt).trans X1c5), (hb2.cell (p := ⟨w7.heap.size, 6, none⟩) (by first | exact X1lt | exact Nat.lt_of_lt_of_le X1lt hbs1)).trans ((hb1.cell (p := ⟨w7.heap.size, 6, none⟩) X1lt).trans X1c6), (hb2.cell (p := ⟨w.heap.size + 1, 0, none⟩) (by first | exact A1lt | exact Nat.lt_of_lt_of_le A1lt hbs1)).trans ((hb1.cell (p := ⟨w.heap.size + 1, 0, none⟩) A1lt).trans A1c0), (hb2.cell (p := ⟨w.heap.size + 1, 1, none⟩) (by first | exact A1lt | exact Nat.lt_of_lt_of_le A1lt hbs1)).trans ((hb1.cell (p := ⟨w.heap.size + 1, 1, none⟩) A1lt).trans A1c1), (hb2.cell (p := ⟨w.heap.size + 1, 2, none⟩) (by first | exact A1lt | exact Nat.lt_of_lt_of_le A1lt hbs1)).trans ((hb1.cell (p := ⟨w.heap.size + 1, 2, none⟩) A1lt).trans A1c2), (hb2.cell (p := ⟨w.heap.size + 1, 3, none⟩) (by first | exact A1lt | exact Nat.lt_of_lt_of_le A1lt hbs1)).trans ((hb1.cell (p := ⟨w.heap.size + 1, 3, none⟩) A1lt).trans A1c3), (hb2.cell (p := ⟨w.heap.size + 1, 4, none⟩) (by first | exact A1lt | exact Nat.lt_of_lt_of_le A1lt hbs1)).trans ((hb1.cell (p := ⟨w.heap.size + 1, 4, none⟩) A1lt).trans A1c4), (hb2.cell (p := ⟨w.heap.size + 1, 5, none⟩) (by first | exact A1lt | exact Nat.lt_of_lt_of_le A1lt hbs1)).trans ((hb1.cell (p := ⟨w.heap.size + 1, 5, none⟩) A1lt).trans A1c5), (hb2.cell (p := ⟨w.heap.size + 1, 6, none⟩) (by first | exact A1lt | exact Nat.lt_of_lt_of_le A1lt hbs1)).trans ((hb1.cell (p := ⟨w.heap.size + 1, 6, none⟩) A1lt).trans A1c6)⟩)
        (first | (go_at_call 33; refine (toValue_any HD1.out.1 _ _ ((((HD1.out.2.2.below HB10.out).more HB10.out.size).below (B := w10.heap.size) (by repeat' (first | refine Below.setCell ?_ (by first | (simp; done) | (simp; omega) | omega) _ | refine Below.alloc ?_ (by first | (simp; done) | (simp; omega) | omega) _ | refine Below.drew ?_ | exact Below.refl _ _))).more (by first | exact Nat.le_refl _ | (simp; done) | (simp; omega))) hwt1).mono ?_; rintro e w11 ⟨cs, fp, rfl, how, _, hb1⟩; have hrd1 := how.read; obtain ⟨y0_b11, y1_b11, y2_b11, y3_b11, y4_b11, n4_b11, c4_b11, y5_b11, n5_b11, c5_b11, y6_b11, n6_b11, c6_b11, rfl⟩ := HD1.out.1.form hrd1; have hbs1 := hb1.size) | (go_at_call 35; refine (eqValue_any HD1.out.1 HD1.out.1 _ _ _ (((((HO7_10.out).below (B := w10.heap.size) (by repeat' (first | refine Below.setCell ?_ (by first | (simp; done) | (simp; omega) | omega) _ | refine Below.alloc ?_ (by first | (simp; done) | (simp; omega) | omega) _ | refine Below.drew ?_ | exact Below.refl _ _))).more (by first | exact Nat.le_refl _ | (simp; done) | (simp; omega))).below hb1).more hbs1) hrd1).mono ?_; rintro e w12 ⟨b, rfl, hbi, hb2⟩; obtain rfl : b = true := hbi.2 rfl))
      have HS : Hid (Below w10.heap.size w10 w11) := by
        refine Lib.hid (Below.trans ?_ (hb1.mono ?_))
        · repeat' (first | refine Below.setCell ?_ (by first | (simp; done) | (simp; omega) | omega) _ | refine Below.alloc ?_ (by first | (simp; done) | (simp; omega) | omega) _ | refine Below.drew ?_ | exact Below.refl _ _)
        · first | exact Nat.le_refl _ | (simp; done) | (simp; omega)
      have HN11 := HS.out.size
      have HB11 := Lib.hid (HB10.out.trans (HS.out.mono HB10.out.size))
      have HM11 := HB11.out.size
      have HO6_11 := Lib.hid ((HO6_10.out.below HS.out).more HS.out.size)
      clear HO6_10
      have HO7_11 := Lib.hid ((HO7_10.out.below HS.out).more HS.out.size)
      clear HO7_10
      have HXA0_11 := Lib.hid (own_keep HXA0_10.out fun j hj => HS.out.block j (HXA0_10.out.lt j hj).2)
      clear HXA0_10
      have HXA1_11 := Lib.hid (own_keep HXA1_10.out fun j hj => HS.out.block j (HXA1_10.out.lt j hj).2)
      clear HXA1_10
      have HXX0_11 := Lib.hid (own_keep HXX0_10.out fun j hj => HS.out.block j (HXX0_10.out.lt j hj).2)
      clear HXX0_10
      have HXX1_11 := Lib.hid (own_keep HXX1_10.out fun j hj => HS.out.block j (HXX1_10.out.lt j hj).2)
      clear HXX1_10
      obtain ⟨hc11, hf11⟩ := bcell hb1
      have hz11_0 : w.heap.size < w11.heap.size := by have h1 := hb1.size; first | (simp at h1; omega) | omega
      have hz11_1 : w.heap.size + 1 < w11.heap.size := by have h1 := hb1.size; first | (simp at h1; omega) | omega
      have hz11_2 : w6.heap.size < w11.heap.size := by have h1 := hb1.size; first | (simp at h1; omega) | omega
      have hz11_3 : w7.heap.size < w11.heap.size := by have h1 := hb1.size; first | (simp at h1; omega) | omega
      clear hb1 HS
      have HS : Hid (Below w11.heap.size w11 w12) := by
        refine Lib.hid (Below.trans ?_ (hb2.mono ?_))
        · repeat' (first | refine Below.setCell ?_ (by first | (simp; done) | (simp; omega) | omega) _ | refine Below.alloc ?_ (by first | (simp; done) | (simp; omega) | omega) _ | refine Below.drew ?_ | exact Below.refl _ _)
        · first | exact Nat.le_refl _ | (simp; done) | (simp; omega)
      have HN12 := HS.out.size
      have HB12 := Lib.hid (HB11.out.trans (HS.out.mono HB11.out.size))
      have HM12 := HB12.out.size
      have HO6_12 := Lib.hid ((HO6_11.out.below HS.out).more HS.out.size)
      clear HO6_11
      have HO7_12 := Lib.hid ((HO7_11.out.below HS.out).more HS.out.size)
      clear HO7_11
      have HXA0_12 := Lib.hid (own_keep HXA0_11.out fun j hj => HS.out.block j (HXA0_11.out.lt j hj).2)
      clear HXA0_11
      have HXA1_12 := Lib.hid (own_keep HXA1_11.out fun j hj => HS.out.block j (HXA1_11.out.lt j hj).2)
      clear HXA1_11
      have HXX0_12 := Lib.hid (own_keep HXX0_11.out fun j hj => HS.out.block j (HXX0_11.out.lt j hj).2)
      clear HXX0_11
      have HXX1_12 := Lib.hid (own_keep HXX1_11.out fun j hj => HS.out.block j (HXX1_11.out.lt j hj).2)
      clear HXX1_11
      obtain ⟨hc12, hf12⟩ := bcell hb2
      have hz12_0 : w.heap.size < w12.heap.size := by have h1 := hb2.size; first | (simp at h1; omega) | omega
      have hz12_1 : w.heap.size + 1 < w12.heap.size := by have h1 := hb2.size; first | (simp at h1; omega) | omega
      have hz12_2 : w6.heap.size < w12.heap.size := by have h1 := hb2.size; first | (simp at h1; omega) | omega
      have hz12_3 : w7.heap.size < w12.heap.size := by have h1 := hb2.size; first | (simp at h1; omega) | omega
      clear hb2 HS
      go_wp2_with fail
      go_ret
      refine ⟨rfl, HB12.out.trans ?_⟩
      repeat' (first | refine Below.setCell ?_ (by first | (simp; done) | (simp; omega) | omega) _ | refine Below.alloc ?_ (by first | (simp; done) | (simp; omega) | omega) _ | refine Below.drew ?_ | exact Below.refl _ _)
set_option maxHeartbeats 1600000 in
set_option maxRecDepth 100000 in
theorem fnExactEqualShown_walk (w : World) {d0 : Dt} (hd0 : IsVal d0) (hok0 : d0.Ok) (cs0 : List Value) (hr0 : Rd w w.heap.size d0 cs0) {d1 : Dt} (hd1 : IsVal d1) (hok1 : d1.Ok) (cs1 : List Value) (hr1 : Rd w w.heap.size d1 cs1) :
    Calls Try.prog 13 #[.agg cs0.toArray, .agg cs1.toArray] w fun e w' => e = .returned (.bool true) ∧ Below w.heap.size w w' := by
  obtain ⟨y0_a0, y1_a0, y2_a0, y3_a0, y4_a0, n4_a0, c4_a0, y5_a0, n5_a0, c5_a0, y6_a0, n6_a0, c6_a0, rfl⟩ := hd0.form hr0
  have HD0 := Lib.hid (And.intro hd0 (And.intro hok0 hr0))
  clear hd0 hok0 hr0
  obtain ⟨y0_a1, y1_a1, y2_a1, y3_a1, y4_a1, n4_a1, c4_a1, y5_a1, n5_a1, c5_a1, y6_a1, n6_a1, c6_a1, rfl⟩ := hd1.form hr1
  have HD1 := Lib.hid (And.intro hd1 (And.intro hok1 hr1))
  clear hd1 hok1 hr1
  go_enter Try.func13, Try.ntmps13
  have HB0 := Lib.hid (Below.refl w.heap.size w)
  go_wp2_with fail
  refine (szVal_any HD0.out.1 _ 1048576 _ ((((HD0.out.2.2.below HB0.out).more HB0.out.size).below (B := w.heap.size) (by repeat' (first | refine Below.setCell ?_ (by first | (simp; done) | (simp; omega) | omega) _ | refine Below.alloc ?_ (by first | (simp; done) | (simp; omega) | omega) _ | refine Below.drew ?_ | exact Below.refl _ _))).more (by first | exact Nat.le_refl _ | (simp; done) | (simp; omega))) HD0.out.2.1 (by omega) (by omega)).mono ?_
  rintro e w1 ⟨r0, rfl, hr0, hb⟩
  have HR0 := Lib.hid hr0
  clear hr0
  have HS : Hid (Below w.heap.size w w1) := by
    refine Lib.hid (Below.trans ?_ (hb.mono ?_))
    · repeat' (first | refine Below.setCell ?_ (by first | (simp; done) | (simp; omega) | omega) _ | refine Below.alloc ?_ (by first | (simp; done) | (simp; omega) | omega) _ | refine Below.drew ?_ | exact Below.refl _ _)
    · first | exact Nat.le_refl _ | (simp; done) | (simp; omega)
  have HN1 := HS.out.size
  have HB1 := Lib.hid (HB0.out.trans (HS.out.mono HB0.out.size))
  have HM1 := HB1.out.size
  have hx := (own_keep ((World.ownsRow.alloc (box_new (e := 44) (s := 7) (w) #[.int .i64 y0_a0, .int .i64 y1_a0, .int .i64 y2_a0, .string y3_a0, .slice y4_a0 n4_a0 c4_a0, .slice y5_a0 n5_a0 c5_a0, .slice y6_a0 n6_a0 c6_a0] rfl).1 _)) fun j hj => hb.block j (by injection hj with hj; have hj : (w).heap.size = j := hj; subst hj; first | (simp; done) | (simp; omega)))
  have HXA0_1 := Lib.hid hx
  clear hx
  have hx := (own_keep ((box_new (e := 44) (s := 7) ((World.alloc w (.cells #[.int .i64 y0_a0, .int .i64 y1_a0, .int .i64 y2_a0, .string y3_a0, .slice y4_a0 n4_a0 c4_a0, .slice y5_a0 n5_a0 c5_a0, .slice y6_a0 n6_a0 c6_a0] 44))) #[.int .i64 y0_a1, .int .i64 y1_a1, .int .i64 y2_a1, .string y3_a1, .slice y4_a1 n4_a1 c4_a1, .slice y5_a1 n5_a1 c5_a1, .slice y6_a1 n6_a1 c6_a1] rfl).1) fun j hj => hb.block j (by injection hj with hj; have hj : ((World.alloc w (.cells #[.int .i64 y0_a0, .int .i64 y1_a0, .int .i64 y2_a0, .string y3_a0, .slice y4_a0 n4_a0 c4_a0, .slice y5_a0 n5_a0 c5_a0, .slice y6_a0 n6_a0 c6_a0] 44))).heap.size = j := hj; subst hj; first | (simp; done) | (simp; omega)))
  simp only [World.size_alloc] at hx
  have HXA1_1 := Lib.hid hx
  clear hx
  obtain ⟨hc1, hf1⟩ := bcell hb
  have hz1_0 : w.heap.size < w1.heap.size := by have h1 := hb.size; first | (simp at h1; omega) | omega
  have hz1_1 : w.heap.size + 1 < w1.heap.size := by have h1 := hb.size; first | (simp at h1; omega) | omega
  clear hb HS
  by_cases hng : r0 < 0
  · go_wp2_with fail
    go_ret
    exact ⟨rfl, HB1.out⟩
  · obtain ⟨l0, rfl⟩ : ∃ l : Nat, r0 = l := ⟨r0.toNat, by omega⟩
    have hle0 : l0 ≤ 1048576 := by have := HR0.out.2; omega
    have hwt0 : d0.wt ≤ 1048576 := by have := HR0.out.1 (by omega); omega
    clear hng
    go_wp2_with fail
    refine (szVal_any HD1.out.1 _ l0 _ ((((HD1.out.2.2.below HB1.out).more HB1.out.size).below (B := w1.heap.size) (by repeat' (first | refine Below.setCell ?_ (by first | (simp; done) | (simp; omega) | omega) _ | refine Below.alloc ?_ (by first | (simp; done) | (simp; omega) | omega) _ | refine Below.drew ?_ | exact Below.refl _ _))).more (by first | exact Nat.le_refl _ | (simp; done) | (simp; omega))) HD1.out.2.1 (by omega) (by omega)).mono ?_
    rintro e w2 ⟨r1, rfl, hr1, hb⟩
    have HR1 := Lib.hid hr1
    clear hr1
    have HS : Hid (Below w1.heap.size w1 w2) := by
      refine Lib.hid (Below.trans ?_ (hb.mono ?_))
      · repeat' (first | refine Below.setCell ?_ (by first | (simp; done) | (simp; omega) | omega) _ | refine Below.alloc ?_ (by first | (simp; done) | (simp; omega) | omega) _ | refine Below.drew ?_ | exact Below.refl _ _)
      · first | exact Nat.le_refl _ | (simp; done) | (simp; omega)
    have HN2 := HS.out.size
    have HB2 := Lib.hid (HB1.out.trans (HS.out.mono HB1.out.size))
    have HM2 := HB2.out.size
    have HXA0_2 := Lib.hid (own_keep HXA0_1.out fun j hj => HS.out.block j (HXA0_1.out.lt j hj).2)
    clear HXA0_1
    have HXA1_2 := Lib.hid (own_keep HXA1_1.out fun j hj => HS.out.block j (HXA1_1.out.lt j hj).2)
    clear HXA1_1
    obtain ⟨hc2, hf2⟩ := bcell hb
    have hz2_0 : w.heap.size < w2.heap.size := by have h1 := hb.size; first | (simp at h1; omega) | omega
    have hz2_1 : w.heap.size + 1 < w2.heap.size := by have h1 := hb.size; first | (simp at h1; omega) | omega
    clear hb HS
    by_cases hng : r1 < 0
    · go_wp2_with fail
      go_ret
      exact ⟨rfl, HB2.out⟩
    · obtain ⟨l1, rfl⟩ : ∃ l : Nat, r1 = l := ⟨r1.toNat, by omega⟩
      have hle1 : l1 ≤ 1048576 := by have := HR1.out.2; omega
      have hwt1 : d1.wt ≤ 1048576 := by have := HR1.out.1 (by omega); omega
      clear hng
      obtain ⟨ans, hans⟩ : ∃ ans : Bool, ans = @decide (d0.nrm shRow = d1.nrm shRow) (Classical.propDecidable _) := ⟨_, rfl⟩
      have HANS := Lib.hid hans
      clear hans
      have hne : (ans != ans) = false := by cases ans <;> rfl
      go_wp2_with fail
      have A0c0 : w2.cell? ⟨w.heap.size, 0, none⟩ = some (.int .i64 y0_a0) := HXA0_2.out.cellAt 0 (by omega)
      have A0c1 : w2.cell? ⟨w.heap.size, 1, none⟩ = some (.int .i64 y1_a0) := HXA0_2.out.cellAt 1 (by omega)
      have A0c2 : w2.cell? ⟨w.heap.size, 2, none⟩ = some (.int .i64 y2_a0) := HXA0_2.out.cellAt 2 (by omega)
      have A0c3 : w2.cell? ⟨w.heap.size, 3, none⟩ = some (.string y3_a0) := HXA0_2.out.cellAt 3 (by omega)
      have A0c4 : w2.cell? ⟨w.heap.size, 4, none⟩ = some (.slice y4_a0 n4_a0 c4_a0) := HXA0_2.out.cellAt 4 (by omega)
      have A0c5 : w2.cell? ⟨w.heap.size, 5, none⟩ = some (.slice y5_a0 n5_a0 c5_a0) := HXA0_2.out.cellAt 5 (by omega)
      have A0c6 : w2.cell? ⟨w.heap.size, 6, none⟩ = some (.slice y6_a0 n6_a0 c6_a0) := HXA0_2.out.cellAt 6 (by omega)
      have A0lt : w.heap.size < w2.heap.size := (HXA0_2.out.lt _ rfl).2
      have A1c0 : w2.cell? ⟨w.heap.size + 1, 0, none⟩ = some (.int .i64 y0_a1) := HXA1_2.out.cellAt 0 (by omega)
      have A1c1 : w2.cell? ⟨w.heap.size + 1, 1, none⟩ = some (.int .i64 y1_a1) := HXA1_2.out.cellAt 1 (by omega)
      have A1c2 : w2.cell? ⟨w.heap.size + 1, 2, none⟩ = some (.int .i64 y2_a1) := HXA1_2.out.cellAt 2 (by omega)
      have A1c3 : w2.cell? ⟨w.heap.size + 1, 3, none⟩ = some (.string y3_a1) := HXA1_2.out.cellAt 3 (by omega)
      have A1c4 : w2.cell? ⟨w.heap.size + 1, 4, none⟩ = some (.slice y4_a1 n4_a1 c4_a1) := HXA1_2.out.cellAt 4 (by omega)
      have A1c5 : w2.cell? ⟨w.heap.size + 1, 5, none⟩ = some (.slice y5_a1 n5_a1 c5_a1) := HXA1_2.out.cellAt 5 (by omega)
      have A1c6 : w2.cell? ⟨w.heap.size + 1, 6, none⟩ = some (.slice y6_a1 n6_a1 c6_a1) := HXA1_2.out.cellAt 6 (by omega)
      have A1lt : w.heap.size + 1 < w2.heap.size := (HXA1_2.out.lt _ rfl).2
      go_region_held3 (fun w' => w'.cell? ⟨w.heap.size, 0, none⟩ = some (.int .i64 y0_a0) ∧ w'.cell? ⟨w.heap.size, 1, none⟩ = some (.int .i64 y1_a0) ∧ w'.cell? ⟨w.heap.size, 2, none⟩ = some (.int .i64 y2_a0) ∧ w'.cell? ⟨w.heap.size, 3, none⟩ = some (.string y3_a0) ∧ w'.cell? ⟨w.heap.size, 4, none⟩ = some (.slice y4_a0 n4_a0 c4_a0) ∧ w'.cell? ⟨w.heap.size, 5, none⟩ = some (.slice y5_a0 n5_a0 c5_a0) ∧ w'.cell? ⟨w.heap.size, 6, none⟩ = some (.slice y6_a0 n6_a0 c6_a0) ∧ w'.cell? ⟨w.heap.size + 1, 0, none⟩ = some (.int .i64 y0_a1) ∧ w'.cell? ⟨w.heap.size + 1, 1, none⟩ = some (.int .i64 y1_a1) ∧ w'.cell? ⟨w.heap.size + 1, 2, none⟩ = some (.int .i64 y2_a1) ∧ w'.cell? ⟨w.heap.size + 1, 3, none⟩ = some (.string y3_a1) ∧ w'.cell? ⟨w.heap.size + 1, 4, none⟩ = some (.slice y4_a1 n4_a1 c4_a1) ∧ w'.cell? ⟨w.heap.size + 1, 5, none⟩ = some (.slice y5_a1 n5_a1 c5_a1) ∧ w'.cell? ⟨w.heap.size + 1, 6, none⟩ = some (.slice y6_a1 n6_a1 c6_a1)) (first | exact ⟨A0c0, A0c1, A0c2, A0c3, A0c4, A0c5, A0c6, A1c0, A1c1, A1c2, A1c3, A1c4, A1c5, A1c6⟩ | exact ⟨(hs1.cell (p := ⟨w.heap.size, 0, none⟩) A0lt).trans A0c0, (hs1.cell (p := ⟨w.heap.size, 1, none⟩) A0lt).trans A0c1, (hs1.cell (p := ⟨w.heap.size, 2, none⟩) A0lt).trans A0c2, (hs1.cell (p := ⟨w.heap.size, 3, none⟩) A0lt).trans A0c3, (hs1.cell (p := ⟨w.heap.size, 4, none⟩) A0lt).trans A0c4, (hs1.cell (p := ⟨w.heap.size, 5, none⟩) A0lt).trans A0c5, (hs1.cell (p := ⟨w.heap.size, 6, none⟩) A0lt).trans A0c6, (hs1.cell (p := ⟨w.heap.size + 1, 0, none⟩) A1lt).trans A1c0, (hs1.cell (p := ⟨w.heap.size + 1, 1, none⟩) A1lt).trans A1c1, (hs1.cell (p := ⟨w.heap.size + 1, 2, none⟩) A1lt).trans A1c2, (hs1.cell (p := ⟨w.heap.size + 1, 3, none⟩) A1lt).trans A1c3, (hs1.cell (p := ⟨w.heap.size + 1, 4, none⟩) A1lt).trans A1c4, (hs1.cell (p := ⟨w.heap.size + 1, 5, none⟩) A1lt).trans A1c5, (hs1.cell (p := ⟨w.heap.size + 1, 6, none⟩) A1lt).trans A1c6⟩ | exact ⟨(hs2.cell (p := ⟨w.heap.size, 0, none⟩) A0lt).trans A0c0, (hs2.cell (p := ⟨w.heap.size, 1, none⟩) A0lt).trans A0c1, (hs2.cell (p := ⟨w.heap.size, 2, none⟩) A0lt).trans A0c2, (hs2.cell (p := ⟨w.heap.size, 3, none⟩) A0lt).trans A0c3, (hs2.cell (p := ⟨w.heap.size, 4, none⟩) A0lt).trans A0c4, (hs2.cell (p := ⟨w.heap.size, 5, none⟩) A0lt).trans A0c5, (hs2.cell (p := ⟨w.heap.size, 6, none⟩) A0lt).trans A0c6, (hs2.cell (p := ⟨w.heap.size + 1, 0, none⟩) A1lt).trans A1c0, (hs2.cell (p := ⟨w.heap.size + 1, 1, none⟩) A1lt).trans A1c1, (hs2.cell (p := ⟨w.heap.size + 1, 2, none⟩) A1lt).trans A1c2, (hs2.cell (p := ⟨w.heap.size + 1, 3, none⟩) A1lt).trans A1c3, (hs2.cell (p := ⟨w.heap.size + 1, 4, none⟩) A1lt).trans A1c4, (hs2.cell (p := ⟨w.heap.size + 1, 5, none⟩) A1lt).trans A1c5, (hs2.cell (p := ⟨w.heap.size + 1, 6, none⟩) A1lt).trans A1c6⟩ | exact ⟨(hs3.cell (p := ⟨w.heap.size, 0, none⟩) A0lt).trans A0c0, (hs3.cell (p := ⟨w.heap.size, 1, none⟩) A0lt).trans A0c1, (hs3.cell (p := ⟨w.heap.size, 2, none⟩) A0lt).trans A0c2, (hs3.cell (p := ⟨w.heap.size, 3, none⟩) A0lt).trans A0c3, (hs3.cell (p := ⟨w.heap.size, 4, none⟩) A0lt).trans A0c4, (hs3.cell (p := ⟨w.heap.size, 5, none⟩) A0lt).trans A0c5, (hs3.cell (p := ⟨w.heap.size, 6, none⟩) A0lt).trans A0c6, (hs3.cell (p := ⟨w.heap.size + 1, 0, none⟩) A1lt).trans A1c0, (hs3.cell (p := ⟨w.heap.size + 1, 1, none⟩) A1lt).trans A1c1, (hs3.cell (p := ⟨w.heap.size + 1, 2, none⟩) A1lt).trans A1c2, (hs3.cell (p := ⟨w.heap.size + 1, 3, none⟩) A1lt).trans A1c3, (hs3.cell (p := ⟨w.heap.size + 1, 4, none⟩) A1lt).trans A1c4, (hs3.cell (p := ⟨w.heap.size + 1, 5, none⟩) A1lt).trans A1c5, (hs3.cell (p := ⟨w.heap.size + 1, 6, none⟩) A1lt).trans A1c6⟩)
        (first | (go_at_call_of 33 (Value.agg #[.int .i64 y0_a0, .int .i64 y1_a0, .int .i64 y2_a0, .string y3_a0, .slice y4_a0 n4_a0 c4_a0, .slice y5_a0 n5_a0 c5_a0, .slice y6_a0 n6_a0 c6_a0]); refine (toValue_any HD0.out.1 [.int .i64 y0_a0, .int .i64 y1_a0, .int .i64 y2_a0, .string y3_a0, .slice y4_a0 n4_a0 c4_a0, .slice y5_a0 n5_a0 c5_a0, .slice y6_a0 n6_a0 c6_a0] _ ((((HD0.out.2.2.below HB2.out).more HB2.out.size).below (B := w2.heap.size) (by repeat' (first | refine Below.setCell ?_ (by first | (simp; done) | (simp; omega) | omega) _ | refine Below.alloc ?_ (by first | (simp; done) | (simp; omega) | omega) _ | refine Below.drew ?_ | exact Below.refl _ _))).more (by first | exact Nat.le_refl _ | (simp; done) | (simp; omega))) hwt0).mono ?_; rintro e w3 ⟨cs, fp, rfl, how, _, hb1⟩; have hrd1 := how.read; obtain ⟨y0_b3, y1_b3, y2_b3, y3_b3, y4_b3, n4_b3, c4_b3, y5_b3, n5_b3, c5_b3, y6_b3, n6_b3, c6_b3, rfl⟩ := HD0.out.1.form hrd1; have hs1 : Below w2.heap.size w2 w3 := Below.trans (Below.refl _ _).drew hb1; clear how) | (go_at_call_of 33 (Value.agg #[.int .i64 y0_a1, .int .i64 y1_a1, .int .i64 y2_a1, .string y3_a1, .slice y4_a1 n4_a1 c4_a1, .slice y5_a1 n5_a1 c5_a1, .slice y6_a1 n6_a1 c6_a1]); refine (toValue_any HD1.out.1 [.int .i64 y0_a1, .int .i64 y1_a1, .int .i64 y2_a1, .string y3_a1, .slice y4_a1 n4_a1 c4_a1, .slice y5_a1 n5_a1 c5_a1, .slice y6_a1 n6_a1 c6_a1] _ ((((HD1.out.2.2.below HB2.out).more HB2.out.size).below hs1).more hs1.size) hwt1).mono ?_; rintro e w4 ⟨cs, fp, rfl, how, _, hb2⟩; have hrd2 := how.read; obtain ⟨y0_b4, y1_b4, y2_b4, y3_b4, y4_b4, n4_b4, c4_b4, y5_b4, n5_b4, c5_b4, y6_b4, n6_b4, c6_b4, rfl⟩ := HD1.out.1.form hrd2; have hs2 : Below w2.heap.size w2 w4 := hs1.trans (hb2.mono hs1.size); clear how) | (go_at_call 40; refine ((specEqualShown_any HD0.out.1 HD1.out.1 _ _ _ (((hrd1).below hb2).more hb2.size) (hrd2)).mono (EqP.ans HANS.out)).mono ?_; rintro e w5 ⟨rfl, hb3⟩; have hs3 := hs2.trans (hb3.mono hs2.size)))
      clear hs1 hs2 hs3
      have HS : Hid (Below w2.heap.size w2 w3) := by
        refine Lib.hid (Below.trans ?_ (hb1.mono ?_))
        · repeat' (first | refine Below.setCell ?_ (by first | (simp; done) | (simp; omega) | omega) _ | refine Below.alloc ?_ (by first | (simp; done) | (simp; omega) | omega) _ | refine Below.drew ?_ | exact Below.refl _ _)
        · first | exact Nat.le_refl _ | (simp; done) | (simp; omega)
      have HN3 := HS.out.size
      have HB3 := Lib.hid (HB2.out.trans (HS.out.mono HB2.out.size))
      have HM3 := HB3.out.size
      have HXA0_3 := Lib.hid (own_keep HXA0_2.out fun j hj => HS.out.block j (HXA0_2.out.lt j hj).2)
      clear HXA0_2
      have HXA1_3 := Lib.hid (own_keep HXA1_2.out fun j hj => HS.out.block j (HXA1_2.out.lt j hj).2)
      clear HXA1_2
      obtain ⟨hc3, hf3⟩ := bcell hb1
      have hz3_0 : w.heap.size < w3.heap.size := by have h1 := hb1.size; first | (simp at h1; omega) | omega
      have hz3_1 : w.heap.size + 1 < w3.heap.size := by have h1 := hb1.size; first | (simp at h1; omega) | omega
      clear hb1 HS
      have HS : Hid (Below w3.heap.size w3 w4) := by
        refine Lib.hid (Below.trans ?_ (hb2.mono ?_))
        · repeat' (first | refine Below.setCell ?_ (by first | (simp; done) | (simp; omega) | omega) _ | refine Below.alloc ?_ (by first | (simp; done) | (simp; omega) | omega) _ | refine Below.drew ?_ | exact Below.refl _ _)
        · first | exact Nat.le_refl _ | (simp; done) | (simp; omega)
      have HN4 := HS.out.size
      have HB4 := Lib.hid (HB3.out.trans (HS.out.mono HB3.out.size))
      have HM4 := HB4.out.size
      have HXA0_4 := Lib.hid (own_keep HXA0_3.out fun j hj => HS.out.block j (HXA0_3.out.lt j hj).2)
      clear HXA0_3
      have HXA1_4 := Lib.hid (own_keep HXA1_3.out fun j hj => HS.out.block j (HXA1_3.out.lt j hj).2)
      clear HXA1_3
      obtain ⟨hc4, hf4⟩ := bcell hb2
      have hz4_0 : w.heap.size < w4.heap.size := by have h1 := hb2.size; first | (simp at h1; omega) | omega
      have hz4_1 : w.heap.size + 1 < w4.heap.size := by have h1 := hb2.size; first | (simp at h1; omega) | omega
      clear hb2 HS
      have HS : Hid (Below w4.heap.size w4 w5) := by
        refine Lib.hid (Below.trans ?_ (hb3.mono ?_))
        · repeat' (first | refine Below.setCell ?_ (by first | (simp; done) | (simp; omega) | omega) _ | refine Below.alloc ?_ (by first | (simp; done) | (simp; omega) | omega) _ | refine Below.drew ?_ | exact Below.refl _ _)
        · first | exact Nat.le_refl _ | (simp; done) | (simp; omega)
      have HN5 := HS.out.size
      have HB5 := Lib.hid (HB4.out.trans (HS.out.mono HB4.out.size))
      have HM5 := HB5.out.size
      have HXA0_5 := Lib.hid (own_keep HXA0_4.out fun j hj => HS.out.block j (HXA0_4.out.lt j hj).2)
      clear HXA0_4
      have HXA1_5 := Lib.hid (own_keep HXA1_4.out fun j hj => HS.out.block j (HXA1_4.out.lt j hj).2)
      clear HXA1_4
      obtain ⟨hc5, hf5⟩ := bcell hb3
      have hz5_0 : w.heap.size < w5.heap.size := by have h1 := hb3.size; first | (simp at h1; omega) | omega
      have hz5_1 : w.heap.size + 1 < w5.heap.size := by have h1 := hb3.size; first | (simp at h1; omega) | omega
      clear hb3 HS
      clear hrd1 hrd2
      go_wp2_with fail
      refine (toValue_any HD0.out.1 _ _ ((((HD0.out.2.2.below HB5.out).more HB5.out.size).below (B := w5.heap.size) (by repeat' (first | refine Below.setCell ?_ (by first | (simp; done) | (simp; omega) | omega) _ | refine Below.alloc ?_ (by first | (simp; done) | (simp; omega) | omega) _ | refine Below.drew ?_ | exact Below.refl _ _))).more (by first | exact Nat.le_refl _ | (simp; done) | (simp; omega))) hwt0).mono ?_
      rintro e w6 ⟨cs, fp, rfl, how, _, hb⟩
      have hrd := how.read
      clear how
      obtain ⟨y0_b6, y1_b6, y2_b6, y3_b6, y4_b6, n4_b6, c4_b6, y5_b6, n5_b6, c5_b6, y6_b6, n6_b6, c6_b6, rfl⟩ := HD0.out.1.form hrd
      have HO6_6 := Lib.hid hrd
      clear hrd
      have HS : Hid (Below w5.heap.size w5 w6) := by
        refine Lib.hid (Below.trans ?_ (hb.mono ?_))
        · repeat' (first | refine Below.setCell ?_ (by first | (simp; done) | (simp; omega) | omega) _ | refine Below.alloc ?_ (by first | (simp; done) | (simp; omega) | omega) _ | refine Below.drew ?_ | exact Below.refl _ _)
        · first | exact Nat.le_refl _ | (simp; done) | (simp; omega)
      have HN6 := HS.out.size
      have HB6 := Lib.hid (HB5.out.trans (HS.out.mono HB5.out.size))
      have HM6 := HB6.out.size
      have HXA0_6 := Lib.hid (own_keep HXA0_5.out fun j hj => HS.out.block j (HXA0_5.out.lt j hj).2)
      clear HXA0_5
      have HXA1_6 := Lib.hid (own_keep HXA1_5.out fun j hj => HS.out.block j (HXA1_5.out.lt j hj).2)
      clear HXA1_5
      obtain ⟨hc6, hf6⟩ := bcell hb
      have hz6_0 : w.heap.size < w6.heap.size := by have h1 := hb.size; first | (simp at h1; omega) | omega
      have hz6_1 : w.heap.size + 1 < w6.heap.size := by have h1 := hb.size; first | (simp at h1; omega) | omega
      clear hb HS
      go_wp2_with fail
      refine (toValue_any HD1.out.1 _ _ ((((HD1.out.2.2.below HB6.out).more HB6.out.size).below (B := w6.heap.size) (by repeat' (first | refine Below.setCell ?_ (by first | (simp; done) | (simp; omega) | omega) _ | refine Below.alloc ?_ (by first | (simp; done) | (simp; omega) | omega) _ | refine Below.drew ?_ | exact Below.refl _ _))).more (by first | exact Nat.le_refl _ | (simp; done) | (simp; omega))) hwt1).mono ?_
      rintro e w7 ⟨cs, fp, rfl, how, _, hb⟩
      have hrd := how.read
      clear how
      obtain ⟨y0_b7, y1_b7, y2_b7, y3_b7, y4_b7, n4_b7, c4_b7, y5_b7, n5_b7, c5_b7, y6_b7, n6_b7, c6_b7, rfl⟩ := HD1.out.1.form hrd
      have HO7_7 := Lib.hid hrd
      clear hrd
      have HS : Hid (Below w6.heap.size w6 w7) := by
        refine Lib.hid (Below.trans ?_ (hb.mono ?_))
        · repeat' (first | refine Below.setCell ?_ (by first | (simp; done) | (simp; omega) | omega) _ | refine Below.alloc ?_ (by first | (simp; done) | (simp; omega) | omega) _ | refine Below.drew ?_ | exact Below.refl _ _)
        · first | exact Nat.le_refl _ | (simp; done) | (simp; omega)
      have HN7 := HS.out.size
      have HB7 := Lib.hid (HB6.out.trans (HS.out.mono HB6.out.size))
      have HM7 := HB7.out.size
      have HO6_7 := Lib.hid ((HO6_6.out.below HS.out).more HS.out.size)
      clear HO6_6
      have HXA0_7 := Lib.hid (own_keep HXA0_6.out fun j hj => HS.out.block j (HXA0_6.out.lt j hj).2)
      clear HXA0_6
      have HXA1_7 := Lib.hid (own_keep HXA1_6.out fun j hj => HS.out.block j (HXA1_6.out.lt j hj).2)
      clear HXA1_6
      have hx := (own_keep ((box_new (e := 50) (s := 7) (w6) #[.int .i64 y0_b6, .int .i64 y1_b6, .int .i64 y2_b6, .string y3_b6, .slice y4_b6 n4_b6 c4_b6, .slice y5_b6 n5_b6 c5_b6, .slice y6_b6 n6_b6 c6_b6] rfl).1) fun j hj => hb.block j (by injection hj with hj; have hj : (w6).heap.size = j := hj; subst hj; first | (simp; done) | (simp; omega)))
      have HXX0_7 := Lib.hid hx
      clear hx
      obtain ⟨hc7, hf7⟩ := bcell hb
      have hz7_0 : w.heap.size < w7.heap.size := by have h1 := hb.size; first | (simp at h1; omega) | omega
      have hz7_1 : w.heap.size + 1 < w7.heap.size := by have h1 := hb.size; first | (simp at h1; omega) | omega
      have hz7_2 : w6.heap.size < w7.heap.size := by have h1 := hb.size; first | (simp at h1; omega) | omega
      clear hb HS
      go_wp2_with fail
      refine ((implEqualShown_any HD0.out.1 HD1.out.1 hwt0 hwt1 _ _ _ (((HO6_7.out).below (B := w7.heap.size) (by repeat' (first | refine Below.setCell ?_ (by first | (simp; done) | (simp; omega) | omega) _ | refine Below.alloc ?_ (by first | (simp; done) | (simp; omega) | omega) _ | refine Below.drew ?_ | exact Below.refl _ _))).more (by first | exact Nat.le_refl _ | (simp; done) | (simp; omega))) (((HO7_7.out).below (B := w7.heap.size) (by repeat' (first | refine Below.setCell ?_ (by first | (simp; done) | (simp; omega) | omega) _ | refine Below.alloc ?_ (by first | (simp; done) | (simp; omega) | omega) _ | refine Below.drew ?_ | exact Below.refl _ _))).more (by first | exact Nat.le_refl _ | (simp; done) | (simp; omega)))).mono (EqP.ans HANS.out)).mono ?_
      rintro e w8 ⟨rfl, hb⟩
      have HS : Hid (Below w7.heap.size w7 w8) := by
        refine Lib.hid (Below.trans ?_ (hb.mono ?_))
        · repeat' (first | refine Below.setCell ?_ (by first | (simp; done) | (simp; omega) | omega) _ | refine Below.alloc ?_ (by first | (simp; done) | (simp; omega) | omega) _ | refine Below.drew ?_ | exact Below.refl _ _)
        · first | exact Nat.le_refl _ | (simp; done) | (simp; omega)
      have HN8 := HS.out.size
      have HB8 := Lib.hid (HB7.out.trans (HS.out.mono HB7.out.size))
      have HM8 := HB8.out.size
      have HO6_8 := Lib.hid ((HO6_7.out.below HS.out).more HS.out.size)
      clear HO6_7
      have HO7_8 := Lib.hid ((HO7_7.out.below HS.out).more HS.out.size)
      clear HO7_7
      have HXA0_8 := Lib.hid (own_keep HXA0_7.out fun j hj => HS.out.block j (HXA0_7.out.lt j hj).2)
      clear HXA0_7
      have HXA1_8 := Lib.hid (own_keep HXA1_7.out fun j hj => HS.out.block j (HXA1_7.out.lt j hj).2)
      clear HXA1_7
      have HXX0_8 := Lib.hid (own_keep HXX0_7.out fun j hj => HS.out.block j (HXX0_7.out.lt j hj).2)
      clear HXX0_7
      have hx := (own_keep ((box_new (e := 50) (s := 7) (w7) #[.int .i64 y0_b7, .int .i64 y1_b7, .int .i64 y2_b7, .string y3_b7, .slice y4_b7 n4_b7 c4_b7, .slice y5_b7 n5_b7 c5_b7, .slice y6_b7 n6_b7 c6_b7] rfl).1) fun j hj => hb.block j (by injection hj with hj; have hj : (w7).heap.size = j := hj; subst hj; first | (simp; done) | (simp; omega)))
      have HXX1_8 := Lib.hid hx
      clear hx
      obtain ⟨hc8, hf8⟩ := bcell hb
      have hz8_0 : w.heap.size < w8.heap.size := by have h1 := hb.size; first | (simp at h1; omega) | omega
      have hz8_1 : w.heap.size + 1 < w8.heap.size := by have h1 := hb.size; first | (simp at h1; omega) | omega
      have hz8_2 : w6.heap.size < w8.heap.size := by have h1 := hb.size; first | (simp at h1; omega) | omega
      have hz8_3 : w7.heap.size < w8.heap.size := by have h1 := hb.size; first | (simp at h1; omega) | omega
      clear hb HS
      go_wp2_with fail
      have X0c0 : w8.cell? ⟨w6.heap.size, 0, none⟩ = some (.int .i64 y0_b6) := HXX0_8.out.cellAt 0 (by omega)
      have X0c1 : w8.cell? ⟨w6.heap.size, 1, none⟩ = some (.int .i64 y1_b6) := HXX0_8.out.cellAt 1 (by omega)
      have X0c2 : w8.cell? ⟨w6.heap.size, 2, none⟩ = some (.int .i64 y2_b6) := HXX0_8.out.cellAt 2 (by omega)
      have X0c3 : w8.cell? ⟨w6.heap.size, 3, none⟩ = some (.string y3_b6) := HXX0_8.out.cellAt 3 (by omega)
      have X0c4 : w8.cell? ⟨w6.heap.size, 4, none⟩ = some (.slice y4_b6 n4_b6 c4_b6) := HXX0_8.out.cellAt 4 (by omega)
      have X0c5 : w8.cell? ⟨w6.heap.size, 5, none⟩ = some (.slice y5_b6 n5_b6 c5_b6) := HXX0_8.out.cellAt 5 (by omega)
      have X0c6 : w8.cell? ⟨w6.heap.size, 6, none⟩ = some (.slice y6_b6 n6_b6 c6_b6) := HXX0_8.out.cellAt 6 (by omega)
      have X0lt : w6.heap.size < w8.heap.size := (HXX0_8.out.lt _ rfl).2
      have A0c0 : w8.cell? ⟨w.heap.size, 0, none⟩ = some (.int .i64 y0_a0) := HXA0_8.out.cellAt 0 (by omega)
      have A0c1 : w8.cell? ⟨w.heap.size, 1, none⟩ = some (.int .i64 y1_a0) := HXA0_8.out.cellAt 1 (by omega)
      have A0c2 : w8.cell? ⟨w.heap.size, 2, none⟩ = some (.int .i64 y2_a0) := HXA0_8.out.cellAt 2 (by omega)
      have A0c3 : w8.cell? ⟨w.heap.size, 3, none⟩ = some (.string y3_a0) := HXA0_8.out.cellAt 3 (by omega)
      have A0c4 : w8.cell? ⟨w.heap.size, 4, none⟩ = some (.slice y4_a0 n4_a0 c4_a0) := HXA0_8.out.cellAt 4 (by omega)
      have A0c5 : w8.cell? ⟨w.heap.size, 5, none⟩ = some (.slice y5_a0 n5_a0 c5_a0) := HXA0_8.out.cellAt 5 (by omega)
      have A0c6 : w8.cell? ⟨w.heap.size, 6, none⟩ = some (.slice y6_a0 n6_a0 c6_a0) := HXA0_8.out.cellAt 6 (by omega)
      have A0lt : w.heap.size < w8.heap.size := (HXA0_8.out.lt _ rfl).2
      go_region_held3 (fun w' => w'.cell? ⟨w6.heap.size, 0, none⟩ = some (.int .i64 y0_b6) ∧ w'.cell? ⟨w6.heap.size, 1, none⟩ = some (.int .i64 y1_b6) ∧ w'.cell? ⟨w6.heap.size, 2, none⟩ = some (.int .i64 y2_b6) ∧ w'.cell? ⟨w6.heap.size, 3, none⟩ = some (.string y3_b6) ∧ w'.cell? ⟨w6.heap.size, 4, none⟩ = some (.slice y4_b6 n4_b6 c4_b6) ∧ w'.cell? ⟨w6.heap.size, 5, none⟩ = some (.slice y5_b6 n5_b6 c5_b6) ∧ w'.cell? ⟨w6.heap.size, 6, none⟩ = some (.slice y6_b6 n6_b6 c6_b6) ∧ w'.cell? ⟨w.heap.size, 0, none⟩ = some (.int .i64 y0_a0) ∧ w'.cell? ⟨w.heap.size, 1, none⟩ = some (.int .i64 y1_a0) ∧ w'.cell? ⟨w.heap.size, 2, none⟩ = some (.int .i64 y2_a0) ∧ w'.cell? ⟨w.heap.size, 3, none⟩ = some (.string y3_a0) ∧ w'.cell? ⟨w.heap.size, 4, none⟩ = some (.slice y4_a0 n4_a0 c4_a0) ∧ w'.cell? ⟨w.heap.size, 5, none⟩ = some (.slice y5_a0 n5_a0 c5_a0) ∧ w'.cell? ⟨w.heap.size, 6, none⟩ = some (.slice y6_a0 n6_a0 c6_a0)) (first | exact ⟨X0c0, X0c1, X0c2, X0c3, X0c4, X0c5, X0c6, A0c0, A0c1, A0c2, A0c3, A0c4, A0c5, A0c6⟩ | exact ⟨(hb1.cell (p := ⟨w6.heap.size, 0, none⟩) (by first | exact X0lt | exact Nat.lt_of_lt_of_le X0lt hbs1)).trans X0c0, (hb1.cell (p := ⟨w6.heap.size, 1, none⟩) (by first | exact X0lt | exact Nat.lt_of_lt_of_le X0lt hbs1)).trans X0c1, (hb1.cell (p := ⟨w6.heap.size, 2, none⟩) (by first | exact X0lt | exact Nat.lt_of_lt_of_le X0lt hbs1)).trans X0c2, (hb1.cell (p := ⟨w6.heap.size, 3, none⟩) (by first | exact X0lt | exact Nat.lt_of_lt_of_le X0lt hbs1)).trans X0c3, (hb1.cell (p := ⟨w6.heap.size, 4, none⟩) (by first | exact X0lt | exact Nat.lt_of_lt_of_le X0lt hbs1)).trans X0c4, (hb1.cell (p := ⟨w6.heap.size, 5, none⟩) (by first | exact X0lt | exact Nat.lt_of_lt_of_le X0lt hbs1)).trans X0c5, (hb1.cell (p := ⟨w6.heap.size, 6, none⟩) (by first | exact X0lt | exact Nat.lt_of_lt_of_le X0lt hbs1)).trans X0c6, (hb1.cell (p := ⟨w.heap.size, 0, none⟩) (by first | exact A0lt | exact Nat.lt_of_lt_of_le A0lt hbs1)).trans A0c0, (hb1.cell (p := ⟨w.heap.size, 1, none⟩) (by first | exact A0lt | exact Nat.lt_of_lt_of_le A0lt hbs1)).trans A0c1, (hb1.cell (p := ⟨w.heap.size, 2, none⟩) (by first | exact A0lt | exact Nat.lt_of_lt_of_le A0lt hbs1)).trans A0c2, (hb1.cell (p := ⟨w.heap.size, 3, none⟩) (by first | exact A0lt | exact Nat.lt_of_lt_of_le A0lt hbs1)).trans A0c3, (hb1.cell (p := ⟨w.heap.size, 4, none⟩) (by first | exact A0lt | exact Nat.lt_of_lt_of_le A0lt hbs1)).trans A0c4, (hb1.cell (p := ⟨w.heap.size, 5, none⟩) (by first | exact A0lt | exact Nat.lt_of_lt_of_le A0lt hbs1)).trans A0c5, (hb1.cell (p := ⟨w.heap.size, 6, none⟩) (by first | exact A0lt | exact Nat.lt_of_lt_of_le A0lt hbs1)).trans A0c6⟩ | exact ⟨(hb2.cell (p := ⟨w6.heap.size, 0, none⟩) (by first | exact X0lt | exact Nat.lt_of_lt_of_le X0lt hbs1)).trans ((hb1.cell (p := ⟨w6.heap.size, 0, none⟩) X0lt).trans X0c0), (hb2.cell (p := ⟨w6.heap.size, 1, none⟩) (by first | exact X0lt | exact Nat.lt_of_lt_of_le X0lt hbs1)).trans ((hb1.cell (p := ⟨w6.heap.size, 1, none⟩) X0lt).trans X0c1), (hb2.cell (p := ⟨w6.heap.size, 2, none⟩) (by first | exact X0lt | exact Nat.lt_of_lt_of_le X0lt hbs1)).trans ((hb1.cell (p := ⟨w6.heap.size, 2, none⟩) X0lt).trans X0c2), (hb2.cell (p := ⟨w6.heap.size, 3, none⟩) (by first | exact X0lt | exact Nat.lt_of_lt_of_le X0lt hbs1)).trans ((hb1.cell (p := ⟨w6.heap.size, 3, none⟩) X0lt).trans X0c3), (hb2.cell (p := ⟨w6.heap.size, 4, none⟩) (by first | exact X0lt | exact Nat.lt_of_lt_of_le X0lt hbs1)).trans ((hb1.cell (p := ⟨w6.heap.size, 4, none⟩) X0lt).trans X0c4), (hb2.cell (p := ⟨w6.heap.size, 5, none⟩) (by first | exact X0lt | exact Nat.lt_of_lt_of_le X0lt hbs1)).trans ((hb1.cell (p := ⟨w6.heap.size, 5, none⟩) X0lt).trans X0c5), (hb2.cell (p := ⟨w6.heap.size, 6, none⟩) (by first | exact X0lt | exact Nat.lt_of_lt_of_le X0lt hbs1)).trans ((hb1.cell (p := ⟨w6.heap.size, 6, none⟩) X0lt).trans X0c6), (hb2.cell (p := ⟨w.heap.size, 0, none⟩) (by first | exact A0lt | exact Nat.lt_of_lt_of_le A0lt hbs1)).trans ((hb1.cell (p := ⟨w.heap.size, 0, none⟩) A0lt).trans A0c0), (hb2.cell (p := ⟨w.heap.size, 1, none⟩) (by first | exact A0lt | exact Nat.lt_of_lt_of_le A0lt hbs1)).trans ((hb1.cell (p := ⟨w.heap.size, 1, none⟩) A0lt).trans A0c1), (hb2.cell (p := ⟨w.heap.size, 2, none⟩) (by first | exact A0lt | exact Nat.lt_of_lt_of_le A0lt hbs1)).trans ((hb1.cell (p := ⟨w.heap.size, 2, none⟩) A0lt).trans A0c2), (hb2.cell (p := ⟨w.heap.size, 3, none⟩) (by first | exact A0lt | exact Nat.lt_of_lt_of_le A0lt hbs1)).trans ((hb1.cell (p := ⟨w.heap.size, 3, none⟩) A0lt).trans A0c3), (hb2.cell (p := ⟨w.heap.size, 4, none⟩) (by first | exact A0lt | exact Nat.lt_of_lt_of_le A0lt hbs1)).trans ((hb1.cell (p := ⟨w.heap.size, 4, none⟩) A0lt).trans A0c4), (hb2.cell (p := ⟨w.heap.size, 5, none⟩) (by first | exact A0lt | exact Nat.lt_of_lt_of_le A0lt hbs1)).trans ((hb1.cell (p := ⟨w.heap.size, 5, none⟩) A0lt).trans A0c5), (hb2.cell (p := ⟨w.heap.size, 6, none⟩) (by first | exact A0lt | exact Nat.lt_of_lt_of_le A0lt hbs1)).trans ((hb1.cell (p := ⟨w.heap.size, 6, none⟩) A0lt).trans A0c6)⟩)
        (first | (go_at_call 33; refine (toValue_any HD0.out.1 _ _ ((((HD0.out.2.2.below HB8.out).more HB8.out.size).below (B := w8.heap.size) (by repeat' (first | refine Below.setCell ?_ (by first | (simp; done) | (simp; omega) | omega) _ | refine Below.alloc ?_ (by first | (simp; done) | (simp; omega) | omega) _ | refine Below.drew ?_ | exact Below.refl _ _))).more (by first | exact Nat.le_refl _ | (simp; done) | (simp; omega))) hwt0).mono ?_; rintro e w9 ⟨cs, fp, rfl, how, _, hb1⟩; have hrd1 := how.read; obtain ⟨y0_b9, y1_b9, y2_b9, y3_b9, y4_b9, n4_b9, c4_b9, y5_b9, n5_b9, c5_b9, y6_b9, n6_b9, c6_b9, rfl⟩ := HD0.out.1.form hrd1; have hbs1 := hb1.size) | (go_at_call 35; refine (eqValue_any HD0.out.1 HD0.out.1 _ _ _ (((((HO6_8.out).below (B := w8.heap.size) (by repeat' (first | refine Below.setCell ?_ (by first | (simp; done) | (simp; omega) | omega) _ | refine Below.alloc ?_ (by first | (simp; done) | (simp; omega) | omega) _ | refine Below.drew ?_ | exact Below.refl _ _))).more (by first | exact Nat.le_refl _ | (simp; done) | (simp; omega))).below hb1).more hbs1) hrd1).mono ?_; rintro e w10 ⟨b, rfl, hbi, hb2⟩; obtain rfl : b = true := hbi.2 rfl))
      have HS : Hid (Below w8.heap.size w8 w9) := by
        refine Lib.hid (Below.trans ?_ (hb1.mono ?_))
        · repeat' (first | refine Below.setCell ?_ (by first | (simp; done) | (simp; omega) | omega) _ | refine Below.alloc ?_ (by first | (simp; done) | (simp; omega) | omega) _ | refine Below.drew ?_ | exact Below.refl _ _)
        · first | exact Nat.le_refl _ | (simp; done) | (simp; omega)
      have HN9 := HS.out.size
      have HB9 := Lib.hid (HB8.out.trans (HS.out.mono HB8.out.size))
      have HM9 := HB9.out.size
      have HO6_9 := Lib.hid ((HO6_8.out.below HS.out).more HS.out.size)
      clear HO6_8
      have HO7_9 := Lib.hid ((HO7_8.out.below HS.out).more HS.out.size)
      clear HO7_8
      have HXA0_9 := Lib.hid (own_keep HXA0_8.out fun j hj => HS.out.block j (HXA0_8.out.lt j hj).2)
      clear HXA0_8
      have HXA1_9 := Lib.hid (own_keep HXA1_8.out fun j hj => HS.out.block j (HXA1_8.out.lt j hj).2)
      clear HXA1_8
      have HXX0_9 := Lib.hid (own_keep HXX0_8.out fun j hj => HS.out.block j (HXX0_8.out.lt j hj).2)
      clear HXX0_8
      have HXX1_9 := Lib.hid (own_keep HXX1_8.out fun j hj => HS.out.block j (HXX1_8.out.lt j hj).2)
      clear HXX1_8
      obtain ⟨hc9, hf9⟩ := bcell hb1
      have hz9_0 : w.heap.size < w9.heap.size := by have h1 := hb1.size; first | (simp at h1; omega) | omega
      have hz9_1 : w.heap.size + 1 < w9.heap.size := by have h1 := hb1.size; first | (simp at h1; omega) | omega
      have hz9_2 : w6.heap.size < w9.heap.size := by have h1 := hb1.size; first | (simp at h1; omega) | omega
      have hz9_3 : w7.heap.size < w9.heap.size := by have h1 := hb1.size; first | (simp at h1; omega) | omega
      clear hb1 HS
      have HS : Hid (Below w9.heap.size w9 w10) := by
        refine Lib.hid (Below.trans ?_ (hb2.mono ?_))
        · repeat' (first | refine Below.setCell ?_ (by first | (simp; done) | (simp; omega) | omega) _ | refine Below.alloc ?_ (by first | (simp; done) | (simp; omega) | omega) _ | refine Below.drew ?_ | exact Below.refl _ _)
        · first | exact Nat.le_refl _ | (simp; done) | (simp; omega)
      have HN10 := HS.out.size
      have HB10 := Lib.hid (HB9.out.trans (HS.out.mono HB9.out.size))
      have HM10 := HB10.out.size
      have HO6_10 := Lib.hid ((HO6_9.out.below HS.out).more HS.out.size)
      clear HO6_9
      have HO7_10 := Lib.hid ((HO7_9.out.below HS.out).more HS.out.size)
      clear HO7_9
      have HXA0_10 := Lib.hid (own_keep HXA0_9.out fun j hj => HS.out.block j (HXA0_9.out.lt j hj).2)
      clear HXA0_9
      have HXA1_10 := Lib.hid (own_keep HXA1_9.out fun j hj => HS.out.block j (HXA1_9.out.lt j hj).2)
      clear HXA1_9
      have HXX0_10 := Lib.hid (own_keep HXX0_9.out fun j hj => HS.out.block j (HXX0_9.out.lt j hj).2)
      clear HXX0_9
      have HXX1_10 := Lib.hid (own_keep HXX1_9.out fun j hj => HS.out.block j (HXX1_9.out.lt j hj).2)
      clear HXX1_9
      obtain ⟨hc10, hf10⟩ := bcell hb2
      have hz10_0 : w.heap.size < w10.heap.size := by have h1 := hb2.size; first | (simp at h1; omega) | omega
      have hz10_1 : w.heap.size + 1 < w10.heap.size := by have h1 := hb2.size; first | (simp at h1; omega) | omega
      have hz10_2 : w6.heap.size < w10.heap.size := by have h1 := hb2.size; first | (simp at h1; omega) | omega
      have hz10_3 : w7.heap.size < w10.heap.size := by have h1 := hb2.size; first | (simp at h1; omega) | omega
      clear hb2 HS
      go_wp2_with fail
      have X1c0 : w10.cell? ⟨w7.heap.size, 0, none⟩ = some (.int .i64 y0_b7) := HXX1_10.out.cellAt 0 (by omega)
      have X1c1 : w10.cell? ⟨w7.heap.size, 1, none⟩ = some (.int .i64 y1_b7) := HXX1_10.out.cellAt 1 (by omega)
      have X1c2 : w10.cell? ⟨w7.heap.size, 2, none⟩ = some (.int .i64 y2_b7) := HXX1_10.out.cellAt 2 (by omega)
      have X1c3 : w10.cell? ⟨w7.heap.size, 3, none⟩ = some (.string y3_b7) := HXX1_10.out.cellAt 3 (by omega)
      have X1c4 : w10.cell? ⟨w7.heap.size, 4, none⟩ = some (.slice y4_b7 n4_b7 c4_b7) := HXX1_10.out.cellAt 4 (by omega)
      have X1c5 : w10.cell? ⟨w7.heap.size, 5, none⟩ = some (.slice y5_b7 n5_b7 c5_b7) := HXX1_10.out.cellAt 5 (by omega)
      have X1c6 : w10.cell? ⟨w7.heap.size, 6, none⟩ = some (.slice y6_b7 n6_b7 c6_b7) := HXX1_10.out.cellAt 6 (by omega)
      have X1lt : w7.heap.size < w10.heap.size := (HXX1_10.out.lt _ rfl).2
      have A1c0 : w10.cell? ⟨w.heap.size + 1, 0, none⟩ = some (.int .i64 y0_a1) := HXA1_10.out.cellAt 0 (by omega)
      have A1c1 : w10.cell? ⟨w.heap.size + 1, 1, none⟩ = some (.int .i64 y1_a1) := HXA1_10.out.cellAt 1 (by omega)
      have A1c2 : w10.cell? ⟨w.heap.size + 1, 2, none⟩ = some (.int .i64 y2_a1) := HXA1_10.out.cellAt 2 (by omega)
      have A1c3 : w10.cell? ⟨w.heap.size + 1, 3, none⟩ = some (.string y3_a1) := HXA1_10.out.cellAt 3 (by omega)
      have A1c4 : w10.cell? ⟨w.heap.size + 1, 4, none⟩ = some (.slice y4_a1 n4_a1 c4_a1) := HXA1_10.out.cellAt 4 (by omega)
      have A1c5 : w10.cell? ⟨w.heap.size + 1, 5, none⟩ = some (.slice y5_a1 n5_a1 c5_a1) := HXA1_10.out.cellAt 5 (by omega)
      have A1c6 : w10.cell? ⟨w.heap.size + 1, 6, none⟩ = some (.slice y6_a1 n6_a1 c6_a1) := HXA1_10.out.cellAt 6 (by omega)
      have A1lt : w.heap.size + 1 < w10.heap.size := (HXA1_10.out.lt _ rfl).2
      go_region_held3 (fun w' => w'.cell? ⟨w7.heap.size, 0, none⟩ = some (.int .i64 y0_b7) ∧ w'.cell? ⟨w7.heap.size, 1, none⟩ = some (.int .i64 y1_b7) ∧ w'.cell? ⟨w7.heap.size, 2, none⟩ = some (.int .i64 y2_b7) ∧ w'.cell? ⟨w7.heap.size, 3, none⟩ = some (.string y3_b7) ∧ w'.cell? ⟨w7.heap.size, 4, none⟩ = some (.slice y4_b7 n4_b7 c4_b7) ∧ w'.cell? ⟨w7.heap.size, 5, none⟩ = some (.slice y5_b7 n5_b7 c5_b7) ∧ w'.cell? ⟨w7.heap.size, 6, none⟩ = some (.slice y6_b7 n6_b7 c6_b7) ∧ w'.cell? ⟨w.heap.size + 1, 0, none⟩ = some (.int .i64 y0_a1) ∧ w'.cell? ⟨w.heap.size + 1, 1, none⟩ = some (.int .i64 y1_a1) ∧ w'.cell? ⟨w.heap.size + 1, 2, none⟩ = some (.int .i64 y2_a1) ∧ w'.cell? ⟨w.heap.size + 1, 3, none⟩ = some (.string y3_a1) ∧ w'.cell? ⟨w.heap.size + 1, 4, none⟩ = some (.slice y4_a1 n4_a1 c4_a1) ∧ w'.cell? ⟨w.heap.size + 1, 5, none⟩ = some (.slice y5_a1 n5_a1 c5_a1) ∧ w'.cell? ⟨w.heap.size + 1, 6, none⟩ = some (.slice y6_a1 n6_a1 c6_a1)) (first | exact ⟨X1c0, X1c1, X1c2, X1c3, X1c4, X1c5, X1c6, A1c0, A1c1, A1c2, A1c3, A1c4, A1c5, A1c6⟩ | exact ⟨(hb1.cell (p := ⟨w7.heap.size, 0, none⟩) (by first | exact X1lt | exact Nat.lt_of_lt_of_le X1lt hbs1)).trans X1c0, (hb1.cell (p := ⟨w7.heap.size, 1, none⟩) (by first | exact X1lt | exact Nat.lt_of_lt_of_le X1lt hbs1)).trans X1c1, (hb1.cell (p := ⟨w7.heap.size, 2, none⟩) (by first | exact X1lt | exact Nat.lt_of_lt_of_le X1lt hbs1)).trans X1c2, (hb1.cell (p := ⟨w7.heap.size, 3, none⟩) (by first | exact X1lt | exact Nat.lt_of_lt_of_le X1lt hbs1)).trans X1c3, (hb1.cell (p := ⟨w7.heap.size, 4, none⟩) (by first | exact X1lt | exact Nat.lt_of_lt_of_le X1lt hbs1)).trans X1c4, (hb1.cell (p := ⟨w7.heap.size, 5, none⟩) (by first | exact X1lt | exact Nat.lt_of_lt_of_le X1lt hbs1)).trans X1c5, (hb1.cell (p := ⟨w7.heap.size, 6, none⟩) (by first | exact X1lt | exact Nat.lt_of_lt_of_le X1lt hbs1)).trans X1c6, (hb1.cell (p := ⟨w.heap.size + 1, 0, none⟩) (by first | exact A1lt | exact Nat.lt_of_lt_of_le A1lt hbs1)).trans A1c0, (hb1.cell (p := ⟨w.heap.size + 1, 1, none⟩) (by first | exact A1lt | exact Nat.lt_of_lt_of_le A1lt hbs1)).trans A1c1, (hb1.cell (p := ⟨w.heap.size + 1, 2, none⟩) (by first | exact A1lt | exact Nat.lt_of_lt_of_le A1lt hbs1)).trans A1c2, (hb1.cell (p := ⟨w.heap.size + 1, 3, none⟩) (by first | exact A1lt | exact Nat.lt_of_lt_of_le A1lt hbs1)).trans A1c3, (hb1.cell (p := ⟨w.heap.size + 1, 4, none⟩) (by first | exact A1lt | exact Nat.lt_of_lt_of_le A1lt hbs1)).trans A1c4, (hb1.cell (p := ⟨w.heap.size + 1, 5, none⟩) (by first | exact A1lt | exact Nat.lt_of_lt_of_le A1lt hbs1)).trans A1c5, (hb1.cell (p := ⟨w.heap.size + 1, 6, none⟩) (by first | exact A1lt | exact Nat.lt_of_lt_of_le A1lt hbs1)).trans A1c6⟩ | exact ⟨(hb2.cell (p := ⟨w7.heap.size, 0, none⟩) (by first | exact X1lt | exact Nat.lt_of_lt_of_le X1lt hbs1)).trans ((hb1.cell (p := ⟨w7.heap.size, 0, none⟩) X1lt).trans X1c0), (hb2.cell (p := ⟨w7.heap.size, 1, none⟩) (by first | exact X1lt | exact Nat.lt_of_lt_of_le X1lt hbs1)).trans ((hb1.cell (p := ⟨w7.heap.size, 1, none⟩) X1lt).trans X1c1), (hb2.cell (p := ⟨w7.heap.size, 2, none⟩) (by first | exact X1lt | exact Nat.lt_of_lt_of_le X1lt hbs1)).trans ((hb1.cell (p := ⟨w7.heap.size, 2, none⟩) X1lt).trans X1c2), (hb2.cell (p := ⟨w7.heap.size, 3, none⟩) (by first | exact X1lt | exact Nat.lt_of_lt_of_le X1lt hbs1)).trans ((hb1.cell (p := ⟨w7.heap.size, 3, none⟩) X1lt).trans X1c3), (hb2.cell (p := ⟨w7.heap.size, 4, none⟩) (by first | exact X1lt | exact Nat.lt_of_lt_of_le X1lt hbs1)).trans ((hb1.cell (p := ⟨w7.heap.size, 4, none⟩) X1lt).trans X1c4), (hb2.cell (p := ⟨w7.heap.size, 5, none⟩) (by first | exact X1lt | exact Nat.lt_of_lt_of_le X1lt hbs1)).trans ((hb1.cell (p := ⟨w7.heap.size, 5, none⟩) X1lt).trans X1c5), (hb2.cell (p := ⟨w7.heap.size, 6, none⟩) (by first | exact X1lt | exact Nat.lt_of_lt_of_le X1lt hbs1)).trans ((hb1.cell (p := ⟨w7.heap.size, 6, none⟩) X1lt).trans X1c6), (hb2.cell (p := ⟨w.heap.size + 1, 0, none⟩) (by first | exact A1lt | exact Nat.lt_of_lt_of_le A1lt hbs1)).trans ((hb1.cell (p := ⟨w.heap.size + 1, 0, none⟩) A1lt).trans A1c0), (hb2.cell (p := ⟨w.heap.size + 1, 1, none⟩) (by first | exact A1lt | exact Nat.lt_of_lt_of_le A1lt hbs1)).trans ((hb1.cell (p := ⟨w.heap.size + 1, 1, none⟩) A1lt).trans A1c1), (hb2.cell (p := ⟨w.heap.size + 1, 2, none⟩) (by first | exact A1lt | exact Nat.lt_of_lt_of_le A1lt hbs1)).trans ((hb1.cell (p := ⟨w.heap.size + 1, 2, none⟩) A1lt).trans A1c2), (hb2.cell (p := ⟨w.heap.size + 1, 3, none⟩) (by first | exact A1lt | exact Nat.lt_of_lt_of_le A1lt hbs1)).trans ((hb1.cell (p := ⟨w.heap.size + 1, 3, none⟩) A1lt).trans A1c3), (hb2.cell (p := ⟨w.heap.size + 1, 4, none⟩) (by first | exact A1lt | exact Nat.lt_of_lt_of_le A1lt hbs1)).trans ((hb1.cell (p := ⟨w.heap.size + 1, 4, none⟩) A1lt).trans A1c4), (hb2.cell (p := ⟨w.heap.size + 1, 5, none⟩) (by first | exact A1lt | exact Nat.lt_of_lt_of_le A1lt hbs1)).trans ((hb1.cell (p := ⟨w.heap.size + 1, 5, none⟩) A1lt).trans A1c5), (hb2.cell (p := ⟨w.heap.size + 1, 6, none⟩) (by first | exact A1lt | exact Nat.lt_of_lt_of_le A1lt hbs1)).trans ((hb1.cell (p := ⟨w.heap.size + 1, 6, none⟩) A1lt).trans A1c6)⟩)
        (first | (go_at_call 33; refine (toValue_any HD1.out.1 _ _ ((((HD1.out.2.2.below HB10.out).more HB10.out.size).below (B := w10.heap.size) (by repeat' (first | refine Below.setCell ?_ (by first | (simp; done) | (simp; omega) | omega) _ | refine Below.alloc ?_ (by first | (simp; done) | (simp; omega) | omega) _ | refine Below.drew ?_ | exact Below.refl _ _))).more (by first | exact Nat.le_refl _ | (simp; done) | (simp; omega))) hwt1).mono ?_; rintro e w11 ⟨cs, fp, rfl, how, _, hb1⟩; have hrd1 := how.read; obtain ⟨y0_b11, y1_b11, y2_b11, y3_b11, y4_b11, n4_b11, c4_b11, y5_b11, n5_b11, c5_b11, y6_b11, n6_b11, c6_b11, rfl⟩ := HD1.out.1.form hrd1; have hbs1 := hb1.size) | (go_at_call 35; refine (eqValue_any HD1.out.1 HD1.out.1 _ _ _ (((((HO7_10.out).below (B := w10.heap.size) (by repeat' (first | refine Below.setCell ?_ (by first | (simp; done) | (simp; omega) | omega) _ | refine Below.alloc ?_ (by first | (simp; done) | (simp; omega) | omega) _ | refine Below.drew ?_ | exact Below.refl _ _))).more (by first | exact Nat.le_refl _ | (simp; done) | (simp; omega))).below hb1).more hbs1) hrd1).mono ?_; rintro e w12 ⟨b, rfl, hbi, hb2⟩; obtain rfl : b = true := hbi.2 rfl))
      have HS : Hid (Below w10.heap.size w10 w11) := by
        refine Lib.hid (Below.trans ?_ (hb1.mono ?_))
        · repeat' (first | refine Below.setCell ?_ (by first | (simp; done) | (simp; omega) | omega) _ | refine Below.alloc ?_ (by first | (simp; done) | (simp; omega) | omega) _ | refine Below.drew ?_ | exact Below.refl _ _)
        · first | exact Nat.le_refl _ | (simp; done) | (simp; omega)
      have HN11 := HS.out.size
      have HB11 := Lib.hid (HB10.out.trans (HS.out.mono HB10.out.size))
      have HM11 := HB11.out.size
      have HO6_11 := Lib.hid ((HO6_10.out.below HS.out).more HS.out.size)
      clear HO6_10
      have HO7_11 := Lib.hid ((HO7_10.out.below HS.out).more HS.out.size)
      clear HO7_10
      have HXA0_11 := Lib.hid (own_keep HXA0_10.out fun j hj => HS.out.block j (HXA0_10.out.lt j hj).2)
      clear HXA0_10
      have HXA1_11 := Lib.hid (own_keep HXA1_10.out fun j hj => HS.out.block j (HXA1_10.out.lt j hj).2)
      clear HXA1_10
      have HXX0_11 := Lib.hid (own_keep HXX0_10.out fun j hj => HS.out.block j (HXX0_10.out.lt j hj).2)
      clear HXX0_10
      have HXX1_11 := Lib.hid (own_keep HXX1_10.out fun j hj => HS.out.block j (HXX1_10.out.lt j hj).2)
      clear HXX1_10
      obtain ⟨hc11, hf11⟩ := bcell hb1
      have hz11_0 : w.heap.size < w11.heap.size := by have h1 := hb1.size; first | (simp at h1; omega) | omega
      have hz11_1 : w.heap.size + 1 < w11.heap.size := by have h1 := hb1.size; first | (simp at h1; omega) | omega
      have hz11_2 : w6.heap.size < w11.heap.size := by have h1 := hb1.size; first | (simp at h1; omega) | omega
      have hz11_3 : w7.heap.size < w11.heap.size := by have h1 := hb1.size; first | (simp at h1; omega) | omega
      clear hb1 HS
      have HS : Hid (Below w11.heap.size w11 w12) := by
        refine Lib.hid (Below.trans ?_ (hb2.mono ?_))
        · repeat' (first | refine Below.setCell ?_ (by first | (simp; done) | (simp; omega) | omega) _ | refine Below.alloc ?_ (by first | (simp; done) | (simp; omega) | omega) _ | refine Below.drew ?_ | exact Below.refl _ _)
        · first | exact Nat.le_refl _ | (simp; done) | (simp; omega)
      have HN12 := HS.out.size
      have HB12 := Lib.hid (HB11.out.trans (HS.out.mono HB11.out.size))
      have HM12 := HB12.out.size
      have HO6_12 := Lib.hid ((HO6_11.out.below HS.out).more HS.out.size)
      clear HO6_11
      have HO7_12 := Lib.hid ((HO7_11.out.below HS.out).more HS.out.size)
      clear HO7_11
      have HXA0_12 := Lib.hid (own_keep HXA0_11.out fun j hj => HS.out.block j (HXA0_11.out.lt j hj).2)
      clear HXA0_11
      have HXA1_12 := Lib.hid (own_keep HXA1_11.out fun j hj => HS.out.block j (HXA1_11.out.lt j hj).2)
      clear HXA1_11
      have HXX0_12 := Lib.hid (own_keep HXX0_11.out fun j hj => HS.out.block j (HXX0_11.out.lt j hj).2)
      clear HXX0_11
      have HXX1_12 := Lib.hid (own_keep HXX1_11.out fun j hj => HS.out.block j (HXX1_11.out.lt j hj).2)
      clear HXX1_11
      obtain ⟨hc12, hf12⟩ := bcell hb2
      have hz12_0 : w.heap.size < w12.heap.size := by have h1 := hb2.size; first | (simp at h1; omega) | omega
      have hz12_1 : w.heap.size + 1 < w12.heap.size := by have h1 := hb2.size; first | (simp at h1; omega) | omega
      have hz12_2 : w6.heap.size < w12.heap.size := by have h1 := hb2.size; first | (simp at h1; omega) | omega
      have hz12_3 : w7.heap.size < w12.heap.size := by have h1 := hb2.size; first | (simp at h1; omega) | omega
      clear hb2 HS
      go_wp2_with fail
      go_ret
      refine ⟨rfl, HB12.out.trans ?_⟩
      repeat' (first | refine Below.setCell ?_ (by first | (simp; done) | (simp; omega) | omega) _ | refine Below.alloc ?_ (by first | (simp; done) | (simp; omega) | omega) _ | refine Below.drew ?_ | exact Below.refl _ _)
end Go.Proofs.Ytaanfdccnnfceaa
