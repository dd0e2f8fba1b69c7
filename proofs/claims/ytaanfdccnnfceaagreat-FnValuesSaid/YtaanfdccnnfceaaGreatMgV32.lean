/-
  Texts that the proof rests on, put together: FnValuesLaw.
-/
import Derived.Test.YtaanfdccnnfceaaGreatMgV18
import Derived.Test.YtaanfdccnnfceaaGreatMgV9
import Derived.Test.YtaanfdccnnfceaaGreatMgV21
import Derived.Test.YtaanfdccnnfceaaGreatMgV25
import Derived.Test.YtaanfdccnnfceaaGreatMgV31
import Derived.Test.YtaanfdccnnfceaaGreatMgV3
import Derived.Deep.RegionLaw
/-
  The law FnValues. (Written by genfnvalues.py.)
-/

namespace Go.Proofs.YtaanfdccnnfceaaGreat
open Go.RowKit
set_option linter.unusedVariables false

/-- Two values are drawn, in memory of their own. -/
def TwoV (w : World) (e : Ending) (w' : World) : Prop := ∃ d1 c1 f1 d2 c2 f2, IsVal d1 ∧ d1.wt ≤ 22002 ∧ IsVal d2 ∧ d2.wt ≤ 22002 ∧ e = .returned (.tuple #[.agg c1.toArray, .agg c2.toArray]) ∧ MSt w [owA d1 c1 f1, owA d2 c2 f2] w'
theorem wt_small {d : Dt} (h : d.wt ≤ 22002) : d.wt ≤ 1048576 := Nat.le_trans h (by decide)
theorem bool_same {P : Prop} {a b : Bool} (h1 : a = true ↔ P) (h2 : b = true ↔ P) : a = b := by
  rw [Bool.eq_iff_iff]; exact h1.trans h2.symm
set_option maxHeartbeats 1600000 in
set_option maxRecDepth 100000 in
theorem drawEqualValue_any (A : Option Addr) (n c : Nat) (w : World) (h : Code w w.heap.size A n) (hn : n ≤ 1048576) :
    Calls Tryz.prog 5 #[.slice A n c] w (TwoV w) := by
  have h0 := ((MSt.start w).new 28 7 #[.int .i64 0, .int .i64 0, .int .i64 0, .string ⟨#[]⟩, .slice none 0 0, .slice none 0 0, .slice none 0 0] rfl).new 28 7 #[.int .i64 0, .int .i64 0, .int .i64 0, .string ⟨#[]⟩, .slice none 0 0, .slice none 0 0, .slice none 0 0] rfl
  rw [World.size_alloc] at h0
  have H0 := Lib.hid h0
  have HC := Lib.hid h
  clear h h0
  go_enter Tryz.func5, Tryz.ntmps5
  go_wp2_with fail
  refine (new_any A n c _ w.heap.size (by simp; omega) (HC.out.keep fun q hq => by exact ((((Below.refl _ _).alloc (Nat.le_refl _) _).alloc (by simp) _ : Below w.heap.size w _)).cell hq) hn).mono ?_
  rintro e w1 ⟨blk, rfl, hblk, hcur, hb1⟩
  have HB1 := Lib.hid hb1
  have HK := Lib.hid (And.intro hblk hcur)
  clear hb1 hblk hcur
  go_wp2_with fail
  refine (pair_any w1 _ blk HK.out.2).mono ?_
  rintro e w2 ⟨d1, c1, f1, d2, c2, f2, hd1, hw1, hd2, hw2, rfl, hD⟩
  obtain ⟨py0, py1, py2, py3, py4, pn4, pc4, py5, pn5, pc5, py6, pn6, pc6, rfl⟩ := hd1.form hD.objs.out.1.read
  obtain ⟨qy0, qy1, qy2, qy3, qy4, qn4, qc4, qy5, qn5, qc5, qy6, qn6, qc6, rfl⟩ := hd2.form (DrSt.swap hD).objs.out.1.read
  have H2 := Lib.hid (H0.out.drawn HB1.out HK.out.1 hD)
  have HD := Lib.hid (And.intro hd1 (And.intro hw1 (And.intro hd2 hw2)))
  clear hD hd1 hw1 hd2 hw2 H0 HB1 HK HC
  have hbra := (MSt.nth (L1 := [_, _, _]) H2.out).box
  have ra0 := hbra.cellAt 0 (by simp)
  have raz0 := hbra.frozenAt 0
  have ra1 := hbra.cellAt 1 (by simp)
  have raz1 := hbra.frozenAt 1
  have ra2 := hbra.cellAt 2 (by simp)
  have raz2 := hbra.frozenAt 2
  have ra3 := hbra.cellAt 3 (by simp)
  have raz3 := hbra.frozenAt 3
  have ra4 := hbra.cellAt 4 (by simp)
  have raz4 := hbra.frozenAt 4
  have ra5 := hbra.cellAt 5 (by simp)
  have raz5 := hbra.frozenAt 5
  have ra6 := hbra.cellAt 6 (by simp)
  have raz6 := hbra.frozenAt 6
  have hlra := (hbra.lt _ rfl).2
  simp at ra0 raz0 ra1 raz1 ra2 raz2 ra3 raz3 ra4 raz4 ra5 raz5 ra6 raz6
  clear hbra
  have hbrb := (MSt.nth (L1 := [_, _]) H2.out).box
  have rb0 := hbrb.cellAt 0 (by simp)
  have rbz0 := hbrb.frozenAt 0
  have rb1 := hbrb.cellAt 1 (by simp)
  have rbz1 := hbrb.frozenAt 1
  have rb2 := hbrb.cellAt 2 (by simp)
  have rbz2 := hbrb.frozenAt 2
  have rb3 := hbrb.cellAt 3 (by simp)
  have rbz3 := hbrb.frozenAt 3
  have rb4 := hbrb.cellAt 4 (by simp)
  have rbz4 := hbrb.frozenAt 4
  have rb5 := hbrb.cellAt 5 (by simp)
  have rbz5 := hbrb.frozenAt 5
  have rb6 := hbrb.cellAt 6 (by simp)
  have rbz6 := hbrb.frozenAt 6
  have hlrb := (hbrb.lt _ rfl).2
  simp at rb0 rbz0 rb1 rbz1 rb2 rbz2 rb3 rbz3 rb4 rbz4 rb5 rbz5 rb6 rbz6
  clear hbrb
  go_wp2_with fail
  have hf := (MSt.nth (L1 := [_, _, _]) H2.out).set7 [.int .i64 py0, .int .i64 py1, .int .i64 py2, .string py3, .slice py4 pn4 pc4, .slice py5 pn5 pc5, .slice py6 pn6 pc6] rfl
  have hg := (MSt.nth (L1 := [_, _, _]) hf).set7 [.int .i64 qy0, .int .i64 qy1, .int .i64 qy2, .string qy3, .slice qy4 qn4 qc4, .slice qy5 qn5 qc5, .slice qy6 qn6 qc6] rfl
  simp only [World.setCells, Nat.zero_add, Nat.reduceAdd] at hg
  generalize ((((((((((((((w2.setCell ⟨w.heap.size, 0, none⟩ (.int .i64 py0)).setCell ⟨w.heap.size, 1, none⟩ (.int .i64 py1)).setCell ⟨w.heap.size, 2, none⟩ (.int .i64 py2)).setCell ⟨w.heap.size, 3, none⟩ (.string py3)).setCell ⟨w.heap.size, 4, none⟩ (.slice py4 pn4 pc4)).setCell ⟨w.heap.size, 5, none⟩ (.slice py5 pn5 pc5)).setCell ⟨w.heap.size, 6, none⟩ (.slice py6 pn6 pc6)).setCell ⟨w.heap.size + 1, 0, none⟩ (.int .i64 qy0)).setCell ⟨w.heap.size + 1, 1, none⟩ (.int .i64 qy1)).setCell ⟨w.heap.size + 1, 2, none⟩ (.int .i64 qy2)).setCell ⟨w.heap.size + 1, 3, none⟩ (.string qy3)).setCell ⟨w.heap.size + 1, 4, none⟩ (.slice qy4 qn4 qc4)).setCell ⟨w.heap.size + 1, 5, none⟩ (.slice qy5 qn5 qc5)).setCell ⟨w.heap.size + 1, 6, none⟩ (.slice qy6 qn6 qc6)) = W7 at hg ⊢
  have hbs := (MSt.nth (L1 := [_]) hg).box
  have s0 := hbs.cellAt 0 (by simp)
  have s1 := hbs.cellAt 1 (by simp)
  have s2 := hbs.cellAt 2 (by simp)
  have s3 := hbs.cellAt 3 (by simp)
  have s4 := hbs.cellAt 4 (by simp)
  have s5 := hbs.cellAt 5 (by simp)
  have s6 := hbs.cellAt 6 (by simp)
  have hls := (hbs.lt _ rfl).2
  simp at s0 s1 s2 s3 s4 s5 s6
  clear hbs
  have hbm := (MSt.nth (L1 := []) hg).box
  have m0 := hbm.cellAt 0 (by simp)
  have m1 := hbm.cellAt 1 (by simp)
  have m2 := hbm.cellAt 2 (by simp)
  have m3 := hbm.cellAt 3 (by simp)
  have m4 := hbm.cellAt 4 (by simp)
  have m5 := hbm.cellAt 5 (by simp)
  have m6 := hbm.cellAt 6 (by simp)
  have hlm := (hbm.lt _ rfl).2
  simp at m0 m1 m2 m3 m4 m5 m6
  clear hbm
  have HG := Lib.hid hg
  clear hf hg hls hlm hlra hlrb H2 ra0 raz0 ra1 raz1 ra2 raz2 ra3 raz3 ra4 raz4 ra5 raz5 ra6 raz6 rb0 rbz0 rb1 rbz1 rb2 rbz2 rb3 rbz3 rb4 rbz4 rb5 rbz5 rb6 rbz6
  refine bodyPost_ret (v := .tuple #[.agg #[.int .i64 py0, .int .i64 py1, .int .i64 py2, .string py3, .slice py4 pn4 pc4, .slice py5 pn5 pc5, .slice py6 pn6 pc6], .agg #[.int .i64 qy0, .int .i64 qy1, .int .i64 qy2, .string qy3, .slice qy4 qn4 qc4, .slice qy5 qn5 qc5, .slice qy6 qn6 qc6]]) (by simp [results, Tryz.results5, go_sem, s0, s1, s2, s3, s4, s5, s6, m0, m1, m2, m3, m4, m5, m6]) rfl (show TwoV _ _ _ from ⟨d1, [.int .i64 py0, .int .i64 py1, .int .i64 py2, .string py3, .slice py4 pn4 pc4, .slice py5 pn5 pc5, .slice py6 pn6 pc6], f1, d2, [.int .i64 qy0, .int .i64 qy1, .int .i64 qy2, .string qy3, .slice qy4 qn4 qc4, .slice qy5 qn5 qc5, .slice qy6 qn6 qc6], f2, HD.out.1, HD.out.2.1, HD.out.2.2.1, HD.out.2.2.2, rfl, MSt.pre (M := [_, _]) (MSt.drop (MSt.drop HG.out))⟩)
set_option maxHeartbeats 6400000 in
set_option maxRecDepth 100000 in
theorem fnValues_walk (A : Option Addr) (n c : Nat) (zs : List Int) (w : World) (h : IsBytes .u8 w A n c zs) :
    Calls Tryz.prog 3 #[.slice A n c] w fun e w' => e = .returned (.bool true) ∧ Below w.heap.size w w' := by
  by_cases hb : 1048576 < n
  · have hbig := big_yes A n c w hb h.code.1
    clear h
    go_enter Tryz.func3, Tryz.ntmps3
    go_wp2_with fail
    refine hbig.mono ?_
    rintro e w1 ⟨rfl, rfl⟩
    go_wp2_with fail
    go_ret
    exact ⟨rfl, Below.refl _ _⟩
  · have hbig := big_no A n c w (by omega)
    have HC := Lib.hid h.code
    clear h
    go_enter Tryz.func3, Tryz.ntmps3
    go_wp2_with fail
    refine hbig.mono ?_
    rintro e w ⟨rfl, rfl⟩
    clear hbig
    go_wp2_with fail
    refine (drawEqualValue_any A n c w HC.out (by omega)).mono ?_
    rintro e w1 ⟨d1, c1, f1, d2, c2, f2, hd1, hw1, hd2, hw2, rfl, hD⟩
    obtain ⟨py0, py1, py2, py3, py4, pn4, pc4, py5, pn5, pc5, py6, pn6, pc6, rfl⟩ := hd1.form hD.objs.out.1.read
    obtain ⟨qy0, qy1, qy2, qy3, qy4, qn4, qc4, qy5, qn5, qc5, qy6, qn6, qc6, rfl⟩ := hd2.form (MSt.swap hD).objs.out.1.read
    have h1 := (hD.new 28 7 #[.int .i64 py0, .int .i64 py1, .int .i64 py2, .string py3, .slice py4 pn4 pc4, .slice py5 pn5 pc5, .slice py6 pn6 pc6] rfl).new 28 7 #[.int .i64 qy0, .int .i64 qy1, .int .i64 qy2, .string qy3, .slice qy4 qn4 qc4, .slice qy5 qn5 qc5, .slice qy6 qn6 qc6] rfl
    rw [World.size_alloc] at h1
    have H1 := Lib.hid h1
    have HD := Lib.hid (And.intro hd1 (And.intro hw1 (And.intro hd2 hw2)))
    clear h1 hd1 hw1 hd2 hw2 HC hD
    have hle : w.heap.size ≤ w1.heap.size := by have := H1.out.size; have h2 := ((MSt.nth (L1 := [_]) H1.out).box.lt _ rfl).1; exact h2
    go_wp2_with fail
    generalize hW : (w1.alloc (.cells #[.int .i64 py0, .int .i64 py1, .int .i64 py2, .string py3, .slice py4 pn4 pc4, .slice py5 pn5 pc5, .slice py6 pn6 pc6] 28)).alloc (.cells #[.int .i64 qy0, .int .i64 qy1, .int .i64 qy2, .string qy3, .slice qy4 qn4 qc4, .slice qy5 qn5 qc5, .slice qy6 qn6 qc6] 28) = W0 at *
    clear hW
    generalize hx : w1.heap.size = bx at *
    clear hx
    have hbx := (MSt.nth (L1 := [_]) H1.out).box
    have x0 := hbx.cellAt 0 (by simp)
    have x1 := hbx.cellAt 1 (by simp)
    have x2 := hbx.cellAt 2 (by simp)
    have x3 := hbx.cellAt 3 (by simp)
    have x4 := hbx.cellAt 4 (by simp)
    have x5 := hbx.cellAt 5 (by simp)
    have x6 := hbx.cellAt 6 (by simp)
    have hlx := (hbx.lt _ rfl).2
    simp at x0 x1 x2 x3 x4 x5 x6
    clear hbx
    have hby := (MSt.nth (L1 := []) H1.out).box
    have y0 := hby.cellAt 0 (by simp)
    have y1 := hby.cellAt 1 (by simp)
    have y2 := hby.cellAt 2 (by simp)
    have y3 := hby.cellAt 3 (by simp)
    have y4 := hby.cellAt 4 (by simp)
    have y5 := hby.cellAt 5 (by simp)
    have y6 := hby.cellAt 6 (by simp)
    have hly := (hby.lt _ rfl).2
    simp at y0 y1 y2 y3 y4 y5 y6
    clear hby
    have hr1 := (MSt.nth (L1 := [_, _]) H1.out).objs.out.1.read
    have hr2 := (MSt.nth (L1 := [_, _, _]) H1.out).objs.out.1.read
    refine (implEqualValue_any HD.out.1 HD.out.2.2.1 (wt_small HD.out.2.1) (wt_small HD.out.2.2.2) _ _ W0 hr1 hr2).mono ?_
    rw [nrm_id HD.out.1, nrm_id HD.out.2.2.1]
    rintro e w2 ⟨b, rfl, hbi, hb⟩
    have H2 := Lib.hid (H1.out.later hb)
    clear hb H1 hr1 hr2 x0 x1 x2 x3 x4 x5 x6 y0 y1 y2 y3 y4 y5 y6 hlx hly
    by_cases hq : d1 = d2
    · obtain rfl : b = true := hbi.2 hq
      subst hq
      clear hbi
      have hbx := (MSt.nth (L1 := [_]) H2.out).box
      have x0 := hbx.cellAt 0 (by simp)
      have x1 := hbx.cellAt 1 (by simp)
      have x2 := hbx.cellAt 2 (by simp)
      have x3 := hbx.cellAt 3 (by simp)
      have x4 := hbx.cellAt 4 (by simp)
      have x5 := hbx.cellAt 5 (by simp)
      have x6 := hbx.cellAt 6 (by simp)
      have hlx := (hbx.lt _ rfl).2
      simp at x0 x1 x2 x3 x4 x5 x6
      clear hbx
      have hby := (MSt.nth (L1 := []) H2.out).box
      have y0 := hby.cellAt 0 (by simp)
      have y1 := hby.cellAt 1 (by simp)
      have y2 := hby.cellAt 2 (by simp)
      have y3 := hby.cellAt 3 (by simp)
      have y4 := hby.cellAt 4 (by simp)
      have y5 := hby.cellAt 5 (by simp)
      have y6 := hby.cellAt 6 (by simp)
      have hly := (hby.lt _ rfl).2
      simp at y0 y1 y2 y3 y4 y5 y6
      clear hby
      go_wp2_with fail
      have hr1 := (MSt.nth (L1 := [_, _]) H2.out).objs.out.1.read
      have hr2 := (MSt.nth (L1 := [_, _, _]) H2.out).objs.out.1.read
      refine (specEqualValue_any HD.out.1 HD.out.2.2.1 _ _ w2 hr1 hr2).mono ?_
      rw [nrm_id HD.out.1]
      rintro e w3 ⟨b2, rfl, hi, hb⟩
      obtain rfl : b2 = true := hi.2 (rfl)
      have H3 := Lib.hid (H2.out.later hb)
      clear hb hi H2 hr1 hr2
      clear x0 x1 x2 x3 x4 x5 x6 y0 y1 y2 y3 y4 y5 y6 hlx hly
      have hbx := (MSt.nth (L1 := [_]) H3.out).box
      have x0 := hbx.cellAt 0 (by simp)
      have x1 := hbx.cellAt 1 (by simp)
      have x2 := hbx.cellAt 2 (by simp)
      have x3 := hbx.cellAt 3 (by simp)
      have x4 := hbx.cellAt 4 (by simp)
      have x5 := hbx.cellAt 5 (by simp)
      have x6 := hbx.cellAt 6 (by simp)
      have hlx := (hbx.lt _ rfl).2
      simp at x0 x1 x2 x3 x4 x5 x6
      clear hbx
      have hby := (MSt.nth (L1 := []) H3.out).box
      have y0 := hby.cellAt 0 (by simp)
      have y1 := hby.cellAt 1 (by simp)
      have y2 := hby.cellAt 2 (by simp)
      have y3 := hby.cellAt 3 (by simp)
      have y4 := hby.cellAt 4 (by simp)
      have y5 := hby.cellAt 5 (by simp)
      have y6 := hby.cellAt 6 (by simp)
      have hly := (hby.lt _ rfl).2
      simp at y0 y1 y2 y3 y4 y5 y6
      clear hby
      go_wp2_with fail
      have hr1 := (MSt.nth (L1 := [_, _]) H3.out).objs.out.1.read
      have hr2 := (MSt.nth (L1 := [_, _, _]) H3.out).objs.out.1.read
      refine (implEqualValue_any HD.out.2.2.1 HD.out.1 (wt_small HD.out.2.2.2) (wt_small HD.out.2.1) _ _ w3 hr2 hr1).mono ?_
      rintro e w4 ⟨b3, rfl, hi, hb⟩
      obtain rfl : b3 = true := hi.2 (rfl)
      have H4 := Lib.hid (H3.out.later hb)
      clear hb hi H3 hr1 hr2
      clear x0 x1 x2 x3 x4 x5 x6 y0 y1 y2 y3 y4 y5 y6 hlx hly
      have hbx := (MSt.nth (L1 := [_]) H4.out).box
      have x0 := hbx.cellAt 0 (by simp)
      have x1 := hbx.cellAt 1 (by simp)
      have x2 := hbx.cellAt 2 (by simp)
      have x3 := hbx.cellAt 3 (by simp)
      have x4 := hbx.cellAt 4 (by simp)
      have x5 := hbx.cellAt 5 (by simp)
      have x6 := hbx.cellAt 6 (by simp)
      have hlx := (hbx.lt _ rfl).2
      simp at x0 x1 x2 x3 x4 x5 x6
      clear hbx
      have hby := (MSt.nth (L1 := []) H4.out).box
      have y0 := hby.cellAt 0 (by simp)
      have y1 := hby.cellAt 1 (by simp)
      have y2 := hby.cellAt 2 (by simp)
      have y3 := hby.cellAt 3 (by simp)
      have y4 := hby.cellAt 4 (by simp)
      have y5 := hby.cellAt 5 (by simp)
      have y6 := hby.cellAt 6 (by simp)
      have hly := (hby.lt _ rfl).2
      simp at y0 y1 y2 y3 y4 y5 y6
      clear hby
      go_wp2_with fail
      have hr1 := (MSt.nth (L1 := [_, _]) H4.out).objs.out.1.read
      have hr2 := (MSt.nth (L1 := [_, _, _]) H4.out).objs.out.1.read
      refine (implEqualValue_any HD.out.1 HD.out.1 (wt_small HD.out.2.1) (wt_small HD.out.2.1) _ _ w4 hr1 hr1).mono ?_
      rintro e w5 ⟨b4, rfl, hi, hb⟩
      obtain rfl : b4 = true := hi.2 (rfl)
      have H5 := Lib.hid (H4.out.later hb)
      clear hb hi H4 hr1 hr2
      clear x0 x1 x2 x3 x4 x5 x6 y0 y1 y2 y3 y4 y5 y6 hlx hly
      have hbx := (MSt.nth (L1 := [_]) H5.out).box
      have x0 := hbx.cellAt 0 (by simp)
      have x1 := hbx.cellAt 1 (by simp)
      have x2 := hbx.cellAt 2 (by simp)
      have x3 := hbx.cellAt 3 (by simp)
      have x4 := hbx.cellAt 4 (by simp)
      have x5 := hbx.cellAt 5 (by simp)
      have x6 := hbx.cellAt 6 (by simp)
      have hlx := (hbx.lt _ rfl).2
      simp at x0 x1 x2 x3 x4 x5 x6
      clear hbx
      have hby := (MSt.nth (L1 := []) H5.out).box
      have y0 := hby.cellAt 0 (by simp)
      have y1 := hby.cellAt 1 (by simp)
      have y2 := hby.cellAt 2 (by simp)
      have y3 := hby.cellAt 3 (by simp)
      have y4 := hby.cellAt 4 (by simp)
      have y5 := hby.cellAt 5 (by simp)
      have y6 := hby.cellAt 6 (by simp)
      have hly := (hby.lt _ rfl).2
      simp at y0 y1 y2 y3 y4 y5 y6
      clear hby
      go_wp2_with fail
      have hr1 := (MSt.nth (L1 := [_, _]) H5.out).objs.out.1.read
      have hr2 := (MSt.nth (L1 := [_, _, _]) H5.out).objs.out.1.read
      refine (implEqualShown_any HD.out.2.2.1 HD.out.2.2.1 (wt_small HD.out.2.2.2) (wt_small HD.out.2.2.2) _ _ w5 hr2 hr2).mono ?_
      rintro e w6 ⟨b5, rfl, hi, hb⟩
      obtain rfl : b5 = true := hi.2 (rfl)
      have H6 := Lib.hid (H5.out.later hb)
      clear hb hi H5 hr1 hr2
      clear x0 x1 x2 x3 x4 x5 x6 y0 y1 y2 y3 y4 y5 y6 hlx hly
      have hbx := (MSt.nth (L1 := [_]) H6.out).box
      have x0 := hbx.cellAt 0 (by simp)
      have x1 := hbx.cellAt 1 (by simp)
      have x2 := hbx.cellAt 2 (by simp)
      have x3 := hbx.cellAt 3 (by simp)
      have x4 := hbx.cellAt 4 (by simp)
      have x5 := hbx.cellAt 5 (by simp)
      have x6 := hbx.cellAt 6 (by simp)
      have hlx := (hbx.lt _ rfl).2
      simp at x0 x1 x2 x3 x4 x5 x6
      clear hbx
      have hby := (MSt.nth (L1 := []) H6.out).box
      have y0 := hby.cellAt 0 (by simp)
      have y1 := hby.cellAt 1 (by simp)
      have y2 := hby.cellAt 2 (by simp)
      have y3 := hby.cellAt 3 (by simp)
      have y4 := hby.cellAt 4 (by simp)
      have y5 := hby.cellAt 5 (by simp)
      have y6 := hby.cellAt 6 (by simp)
      have hly := (hby.lt _ rfl).2
      simp at y0 y1 y2 y3 y4 y5 y6
      clear hby
      have HV := Lib.hid (Classical.em d1.SV)
      have mk : ∀ W', Below w6.heap.size w6 W' → W'.cell? ⟨bx, 0, none⟩ = some (.int .i64 py0) ∧ W'.cell? ⟨bx, 1, none⟩ = some (.int .i64 py1) ∧ W'.cell? ⟨bx, 2, none⟩ = some (.int .i64 py2) ∧ W'.cell? ⟨bx, 3, none⟩ = some (.string py3) ∧ W'.cell? ⟨bx, 4, none⟩ = some (.slice py4 pn4 pc4) ∧ W'.cell? ⟨bx, 5, none⟩ = some (.slice py5 pn5 pc5) ∧ W'.cell? ⟨bx, 6, none⟩ = some (.slice py6 pn6 pc6) ∧ W'.cell? ⟨bx + 1, 0, none⟩ = some (.int .i64 qy0) ∧ W'.cell? ⟨bx + 1, 1, none⟩ = some (.int .i64 qy1) ∧ W'.cell? ⟨bx + 1, 2, none⟩ = some (.int .i64 qy2) ∧ W'.cell? ⟨bx + 1, 3, none⟩ = some (.string qy3) ∧ W'.cell? ⟨bx + 1, 4, none⟩ = some (.slice qy4 qn4 qc4) ∧ W'.cell? ⟨bx + 1, 5, none⟩ = some (.slice qy5 qn5 qc5) ∧ W'.cell? ⟨bx + 1, 6, none⟩ = some (.slice qy6 qn6 qc6) := fun W' hb => ⟨(hb.cell (p := ⟨bx, 0, none⟩) hlx).trans x0, (hb.cell (p := ⟨bx, 1, none⟩) hlx).trans x1, (hb.cell (p := ⟨bx, 2, none⟩) hlx).trans x2, (hb.cell (p := ⟨bx, 3, none⟩) hlx).trans x3, (hb.cell (p := ⟨bx, 4, none⟩) hlx).trans x4, (hb.cell (p := ⟨bx, 5, none⟩) hlx).trans x5, (hb.cell (p := ⟨bx, 6, none⟩) hlx).trans x6, (hb.cell (p := ⟨bx + 1, 0, none⟩) hly).trans y0, (hb.cell (p := ⟨bx + 1, 1, none⟩) hly).trans y1, (hb.cell (p := ⟨bx + 1, 2, none⟩) hly).trans y2, (hb.cell (p := ⟨bx + 1, 3, none⟩) hly).trans y3, (hb.cell (p := ⟨bx + 1, 4, none⟩) hly).trans y4, (hb.cell (p := ⟨bx + 1, 5, none⟩) hly).trans y5, (hb.cell (p := ⟨bx + 1, 6, none⟩) hly).trans y6⟩
      have MK := Lib.hid mk
      clear mk
      have hr1 := (MSt.nth (L1 := [_, _]) H6.out).objs.out.1.read
      have hr2 := (MSt.nth (L1 := [_, _, _]) H6.out).objs.out.1.read
      have RD := Lib.hid (And.intro hr1 hr2)
      clear hr1 hr2
      have hsz : decide ((1 : Int) ≤ ((d1.vsz : Nat) : Int)) = true := by have := vsz_pos HD.out.1; simp; omega
      have tok1 : True := trivial
      clear x0 x1 x2 x3 x4 x5 x6 y0 y1 y2 y3 y4 y5 y6
      have k0 := MK.out _ (Below.refl _ _)
      obtain ⟨x0, x1, x2, x3, x4, x5, x6, y0, y1, y2, y3, y4, y5, y6⟩ := k0
      go_wp2_with fail
      have HS0 : Hid (Below w6.heap.size w6 w6.drew) := Lib.hid (Below.refl _ _).drew
      go_region_held3 (fun w' => w'.cell? ⟨bx, 0, none⟩ = some (.int .i64 py0) ∧ w'.cell? ⟨bx, 1, none⟩ = some (.int .i64 py1) ∧ w'.cell? ⟨bx, 2, none⟩ = some (.int .i64 py2) ∧ w'.cell? ⟨bx, 3, none⟩ = some (.string py3) ∧ w'.cell? ⟨bx, 4, none⟩ = some (.slice py4 pn4 pc4) ∧ w'.cell? ⟨bx, 5, none⟩ = some (.slice py5 pn5 pc5) ∧ w'.cell? ⟨bx, 6, none⟩ = some (.slice py6 pn6 pc6) ∧ w'.cell? ⟨bx + 1, 0, none⟩ = some (.int .i64 qy0) ∧ w'.cell? ⟨bx + 1, 1, none⟩ = some (.int .i64 qy1) ∧ w'.cell? ⟨bx + 1, 2, none⟩ = some (.int .i64 qy2) ∧ w'.cell? ⟨bx + 1, 3, none⟩ = some (.string qy3) ∧ w'.cell? ⟨bx + 1, 4, none⟩ = some (.slice qy4 qn4 qc4) ∧ w'.cell? ⟨bx + 1, 5, none⟩ = some (.slice qy5 qn5 qc5) ∧ w'.cell? ⟨bx + 1, 6, none⟩ = some (.slice qy6 qn6 qc6)) (first | exact ⟨x0, x1, x2, x3, x4, x5, x6, y0, y1, y2, y3, y4, y5, y6⟩ | exact MK.out _ HS0.out | exact MK.out _ hs6 | exact MK.out _ hs5 | exact MK.out _ hs4 | exact MK.out _ hs3 | exact MK.out _ hs2 | exact MK.out _ hs1)
        (first
          | (go_at_call 8; refine (implEqualShown_any HD.out.1 HD.out.2.2.1 (wt_small HD.out.2.1) (wt_small HD.out.2.2.2) _ _ _ ((RD.out.1.below (HS0.out)).more (Below.size (HS0.out))) ((RD.out.2.below (HS0.out)).more (Below.size (HS0.out)))).mono ?_; rintro e v1 ⟨k1, rfl, hi, hb1⟩; obtain rfl : k1 = true := hi.2 rfl; have hs1 : Below w6.heap.size w6 v1 := HS0.out.trans (hb1.mono HS0.out.size); clear hi)
          | (go_at_call_of 9 (Value.agg #[.int .i64 py0, .int .i64 py1, .int .i64 py2, .string py3, .slice py4 pn4 pc4, .slice py5 pn5 pc5, .slice py6 pn6 pc6]); have _t := tok1; refine (implSize_any HD.out.1 (wt_small HD.out.2.1) _ _ ((RD.out.1.below (hs1)).more (Below.size (hs1)))).mono ?_; rintro e v2 ⟨rfl, hb2⟩; have hs2 := hs1.trans (hb2.mono hs1.size); clear tok1)
          | (go_at_call_of 9 (Value.agg #[.int .i64 qy0, .int .i64 qy1, .int .i64 qy2, .string qy3, .slice qy4 qn4 qc4, .slice qy5 qn5 qc5, .slice qy6 qn6 qc6]); refine (implSize_any HD.out.2.2.1 (wt_small HD.out.2.2.2) _ _ ((RD.out.2.below (hs2)).more (Below.size (hs2)))).mono ?_; rintro e v3 ⟨rfl, hb3⟩; have hs3 := hs2.trans (hb3.mono hs2.size))
          | (go_at_call_of 10 (Value.agg #[.int .i64 py0, .int .i64 py1, .int .i64 py2, .string py3, .slice py4 pn4 pc4, .slice py5 pn5 pc5, .slice py6 pn6 pc6]); refine (implValidV_any HD.out.1 (wt_small HD.out.2.1) _ _ ((RD.out.1.below (hs3)).more (Below.size (hs3)))).mono ?_; rintro e v4 ⟨k4, rfl, hi4, hb4⟩; have hs4 := hs3.trans (hb4.mono hs3.size); have HI4 := Lib.hid hi4; clear hi4)
          | (go_at_call_of 10 (Value.agg #[.int .i64 qy0, .int .i64 qy1, .int .i64 qy2, .string qy3, .slice qy4 qn4 qc4, .slice qy5 qn5 qc5, .slice qy6 qn6 qc6]); refine (implValidV_any HD.out.2.2.1 (wt_small HD.out.2.2.2) _ _ ((RD.out.2.below (hs4)).more (Below.size (hs4)))).mono ?_; rintro e v5 ⟨k5, rfl, hi5, hb5⟩; obtain rfl : k5 = k4 := bool_same hi5 HI4.out; have hs5 := hs4.trans (hb5.mono hs4.size); clear hi5)
          | (go_at_call_of 9 (Value.agg #[.int .i64 py0, .int .i64 py1, .int .i64 py2, .string py3, .slice py4 pn4 pc4, .slice py5 pn5 pc5, .slice py6 pn6 pc6]); refine (implSize_any HD.out.1 (wt_small HD.out.2.1) _ _ ((RD.out.1.below (hs5)).more (Below.size (hs5)))).mono ?_; rintro e v6 ⟨rfl, hb6⟩; have hs6 := hs5.trans (hb6.mono hs5.size)))
      have HF := Lib.hid (H6.out.later hs6)
      go_wp2_with fail
      go_ret
      exact ⟨rfl, HF.out.bel⟩
    · obtain rfl : b = false := by
        cases b with
        | false => rfl
        | true => exact absurd (hbi.1 rfl) hq
      have HQ := Lib.hid hq
      clear hbi hq
      have hbx := (MSt.nth (L1 := [_]) H2.out).box
      have x0 := hbx.cellAt 0 (by simp)
      have x1 := hbx.cellAt 1 (by simp)
      have x2 := hbx.cellAt 2 (by simp)
      have x3 := hbx.cellAt 3 (by simp)
      have x4 := hbx.cellAt 4 (by simp)
      have x5 := hbx.cellAt 5 (by simp)
      have x6 := hbx.cellAt 6 (by simp)
      have hlx := (hbx.lt _ rfl).2
      simp at x0 x1 x2 x3 x4 x5 x6
      clear hbx
      have hby := (MSt.nth (L1 := []) H2.out).box
      have y0 := hby.cellAt 0 (by simp)
      have y1 := hby.cellAt 1 (by simp)
      have y2 := hby.cellAt 2 (by simp)
      have y3 := hby.cellAt 3 (by simp)
      have y4 := hby.cellAt 4 (by simp)
      have y5 := hby.cellAt 5 (by simp)
      have y6 := hby.cellAt 6 (by simp)
      have hly := (hby.lt _ rfl).2
      simp at y0 y1 y2 y3 y4 y5 y6
      clear hby
      go_wp2_with fail
      have hr1 := (MSt.nth (L1 := [_, _]) H2.out).objs.out.1.read
      have hr2 := (MSt.nth (L1 := [_, _, _]) H2.out).objs.out.1.read
      refine (specEqualValue_any HD.out.1 HD.out.2.2.1 _ _ w2 hr1 hr2).mono ?_
      rw [nrm_id HD.out.1, nrm_id HD.out.2.2.1]
      rintro e w3 ⟨b2, rfl, hi, hb⟩
      obtain rfl : b2 = false := by cases b2 with | false => rfl | true => exact absurd (hi.1 rfl) (HQ.out)
      have H3 := Lib.hid (H2.out.later hb)
      clear hb hi H2 hr1 hr2
      clear x0 x1 x2 x3 x4 x5 x6 y0 y1 y2 y3 y4 y5 y6 hlx hly
      have hbx := (MSt.nth (L1 := [_]) H3.out).box
      have x0 := hbx.cellAt 0 (by simp)
      have x1 := hbx.cellAt 1 (by simp)
      have x2 := hbx.cellAt 2 (by simp)
      have x3 := hbx.cellAt 3 (by simp)
      have x4 := hbx.cellAt 4 (by simp)
      have x5 := hbx.cellAt 5 (by simp)
      have x6 := hbx.cellAt 6 (by simp)
      have hlx := (hbx.lt _ rfl).2
      simp at x0 x1 x2 x3 x4 x5 x6
      clear hbx
      have hby := (MSt.nth (L1 := []) H3.out).box
      have y0 := hby.cellAt 0 (by simp)
      have y1 := hby.cellAt 1 (by simp)
      have y2 := hby.cellAt 2 (by simp)
      have y3 := hby.cellAt 3 (by simp)
      have y4 := hby.cellAt 4 (by simp)
      have y5 := hby.cellAt 5 (by simp)
      have y6 := hby.cellAt 6 (by simp)
      have hly := (hby.lt _ rfl).2
      simp at y0 y1 y2 y3 y4 y5 y6
      clear hby
      go_wp2_with fail
      have hr1 := (MSt.nth (L1 := [_, _]) H3.out).objs.out.1.read
      have hr2 := (MSt.nth (L1 := [_, _, _]) H3.out).objs.out.1.read
      refine (implEqualValue_any HD.out.2.2.1 HD.out.1 (wt_small HD.out.2.2.2) (wt_small HD.out.2.1) _ _ w3 hr2 hr1).mono ?_
      rw [nrm_id HD.out.1, nrm_id HD.out.2.2.1]
      rintro e w4 ⟨b3, rfl, hi, hb⟩
      obtain rfl : b3 = false := by cases b3 with | false => rfl | true => exact absurd (hi.1 rfl) (fun e => HQ.out e.symm)
      have H4 := Lib.hid (H3.out.later hb)
      clear hb hi H3 hr1 hr2
      clear x0 x1 x2 x3 x4 x5 x6 y0 y1 y2 y3 y4 y5 y6 hlx hly
      have hbx := (MSt.nth (L1 := [_]) H4.out).box
      have x0 := hbx.cellAt 0 (by simp)
      have x1 := hbx.cellAt 1 (by simp)
      have x2 := hbx.cellAt 2 (by simp)
      have x3 := hbx.cellAt 3 (by simp)
      have x4 := hbx.cellAt 4 (by simp)
      have x5 := hbx.cellAt 5 (by simp)
      have x6 := hbx.cellAt 6 (by simp)
      have hlx := (hbx.lt _ rfl).2
      simp at x0 x1 x2 x3 x4 x5 x6
      clear hbx
      have hby := (MSt.nth (L1 := []) H4.out).box
      have y0 := hby.cellAt 0 (by simp)
      have y1 := hby.cellAt 1 (by simp)
      have y2 := hby.cellAt 2 (by simp)
      have y3 := hby.cellAt 3 (by simp)
      have y4 := hby.cellAt 4 (by simp)
      have y5 := hby.cellAt 5 (by simp)
      have y6 := hby.cellAt 6 (by simp)
      have hly := (hby.lt _ rfl).2
      simp at y0 y1 y2 y3 y4 y5 y6
      clear hby
      go_wp2_with fail
      have hr1 := (MSt.nth (L1 := [_, _]) H4.out).objs.out.1.read
      have hr2 := (MSt.nth (L1 := [_, _, _]) H4.out).objs.out.1.read
      refine (implEqualValue_any HD.out.1 HD.out.1 (wt_small HD.out.2.1) (wt_small HD.out.2.1) _ _ w4 hr1 hr1).mono ?_
      rintro e w5 ⟨b4, rfl, hi, hb⟩
      obtain rfl : b4 = true := hi.2 (rfl)
      have H5 := Lib.hid (H4.out.later hb)
      clear hb hi H4 hr1 hr2
      clear x0 x1 x2 x3 x4 x5 x6 y0 y1 y2 y3 y4 y5 y6 hlx hly
      have hbx := (MSt.nth (L1 := [_]) H5.out).box
      have x0 := hbx.cellAt 0 (by simp)
      have x1 := hbx.cellAt 1 (by simp)
      have x2 := hbx.cellAt 2 (by simp)
      have x3 := hbx.cellAt 3 (by simp)
      have x4 := hbx.cellAt 4 (by simp)
      have x5 := hbx.cellAt 5 (by simp)
      have x6 := hbx.cellAt 6 (by simp)
      have hlx := (hbx.lt _ rfl).2
      simp at x0 x1 x2 x3 x4 x5 x6
      clear hbx
      have hby := (MSt.nth (L1 := []) H5.out).box
      have y0 := hby.cellAt 0 (by simp)
      have y1 := hby.cellAt 1 (by simp)
      have y2 := hby.cellAt 2 (by simp)
      have y3 := hby.cellAt 3 (by simp)
      have y4 := hby.cellAt 4 (by simp)
      have y5 := hby.cellAt 5 (by simp)
      have y6 := hby.cellAt 6 (by simp)
      have hly := (hby.lt _ rfl).2
      simp at y0 y1 y2 y3 y4 y5 y6
      clear hby
      go_wp2_with fail
      have hr1 := (MSt.nth (L1 := [_, _]) H5.out).objs.out.1.read
      have hr2 := (MSt.nth (L1 := [_, _, _]) H5.out).objs.out.1.read
      refine (implEqualShown_any HD.out.2.2.1 HD.out.2.2.1 (wt_small HD.out.2.2.2) (wt_small HD.out.2.2.2) _ _ w5 hr2 hr2).mono ?_
      rintro e w6 ⟨b5, rfl, hi, hb⟩
      obtain rfl : b5 = true := hi.2 (rfl)
      have H6 := Lib.hid (H5.out.later hb)
      clear hb hi H5 hr1 hr2
      clear x0 x1 x2 x3 x4 x5 x6 y0 y1 y2 y3 y4 y5 y6 hlx hly
      have hbx := (MSt.nth (L1 := [_]) H6.out).box
      have x0 := hbx.cellAt 0 (by simp)
      have x1 := hbx.cellAt 1 (by simp)
      have x2 := hbx.cellAt 2 (by simp)
      have x3 := hbx.cellAt 3 (by simp)
      have x4 := hbx.cellAt 4 (by simp)
      have x5 := hbx.cellAt 5 (by simp)
      have x6 := hbx.cellAt 6 (by simp)
      have hlx := (hbx.lt _ rfl).2
      simp at x0 x1 x2 x3 x4 x5 x6
      clear hbx
      have hby := (MSt.nth (L1 := []) H6.out).box
      have y0 := hby.cellAt 0 (by simp)
      have y1 := hby.cellAt 1 (by simp)
      have y2 := hby.cellAt 2 (by simp)
      have y3 := hby.cellAt 3 (by simp)
      have y4 := hby.cellAt 4 (by simp)
      have y5 := hby.cellAt 5 (by simp)
      have y6 := hby.cellAt 6 (by simp)
      have hly := (hby.lt _ rfl).2
      simp at y0 y1 y2 y3 y4 y5 y6
      clear hby
      have hr1 := (MSt.nth (L1 := [_, _]) H6.out).objs.out.1.read
      have hr2 := (MSt.nth (L1 := [_, _, _]) H6.out).objs.out.1.read
      have RD := Lib.hid (And.intro hr1 hr2)
      clear hr1 hr2
      have hsz : decide ((1 : Int) ≤ ((d1.vsz : Nat) : Int)) = true := by have := vsz_pos HD.out.1; simp; omega
      go_wp2_with fail
      have HS0 : Hid (Below w6.heap.size w6 w6.drew) := Lib.hid (Below.refl _ _).drew
      have hud : undef = Value.tuple #[] := rfl
      first | (go_region_law (first | (go_simp; go_at_call 9; refine (implSize_any HD.out.1 (wt_small HD.out.2.1) _ _ ((RD.out.1.below (HS0.out)).more (Below.size (HS0.out)))).mono ?_; rintro e v1 ⟨rfl, hb1⟩; have hs1 : Below w6.heap.size w6 v1 := HS0.out.trans (hb1.mono HS0.out.size)) | fail)) | fail
      all_goals
        have HF := Lib.hid (H6.out.later hs1)
        clear hud hb1 hs1
        go_wp2_with fail
        go_ret
        exact ⟨rfl, HF.out.bel⟩
end Go.Proofs.YtaanfdccnnfceaaGreat
