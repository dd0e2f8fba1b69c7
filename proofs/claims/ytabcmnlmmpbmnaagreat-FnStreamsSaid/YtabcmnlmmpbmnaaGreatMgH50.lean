/-
  Texts that the proof rests on, put together: Draw6.
-/
import Derived.Test.YtabcmnlmmpbmnaaGreatMgH21
import Derived.Test.YtabcmnlmmpbmnaaGreatMgH40
import Derived.Test.YtabcmnlmmpbmnaaGreatMgH11
import Derived.Test.YtabcmnlmmpbmnaaGreatMgH7
import Derived.Test.YtabcmnlmmpbmnaaGreatMgH3
import Derived.Deep.RegionLaw
/-
  Draws of lists and streams. By gendraw6.py: (Written by genlst.py.)
-/

namespace Go.Proofs.YtabcmnlmmpbmnaaGreat
open Go.RowKit
set_option linter.unusedVariables false
set_option linter.unusedSimpArgs false

theorem DrSt.put {w wx : World} {B blk : Nat} {L : List Asn} {e : TypeId} {b : Nat} {xs : List Value} (h : DrSt w B blk (boxA e 7 b xs :: L) wx) (u0 u1 u2 u3 u4 u5 u6 : Value) :
    ∃ W7, W7 = ((((((wx.setCell ⟨b, 0, none⟩ u0).setCell ⟨b, 1, none⟩ u1).setCell ⟨b, 2, none⟩ u2).setCell ⟨b, 3, none⟩ u3).setCell ⟨b, 4, none⟩ u4).setCell ⟨b, 5, none⟩ u5).setCell ⟨b, 6, none⟩ u6 ∧
      DrSt w B blk (boxA e 7 b [u0, u1, u2, u3, u4, u5, u6] :: L) W7 ∧ W7.cell? ⟨b, 0, none⟩ = some u0 ∧ W7.cell? ⟨b, 1, none⟩ = some u1 ∧ W7.cell? ⟨b, 2, none⟩ = some u2 ∧ W7.cell? ⟨b, 3, none⟩ = some u3 ∧ W7.cell? ⟨b, 4, none⟩ = some u4 ∧ W7.cell? ⟨b, 5, none⟩ = some u5 ∧ W7.cell? ⟨b, 6, none⟩ = some u6 := by
  have hg := h.set7 [u0, u1, u2, u3, u4, u5, u6] rfl
  simp only [World.setCells, Nat.zero_add, Nat.reduceAdd] at hg
  obtain ⟨z0, z1, z2, z3, z4, z5, z6, _⟩ := box7 hg.box
  exact ⟨_, rfl, hg, z0, z1, z2, z3, z4, z5, z6⟩
/-- One value is drawn, in memory of the call's own; two. -/
def OneV (w : World) (e : Ending) (w' : World) : Prop := ∃ (d : Dt) (c : List Value) (f : List Nat), IsVal d ∧ d.wt ≤ 22002 ∧ e = .returned (.agg c.toArray) ∧ MSt w [owA d c f] w'
def TwoV (w : World) (e : Ending) (w' : World) : Prop := ∃ (d1 : Dt) (c1 : List Value) (f1 : List Nat) (d2 : Dt) (c2 : List Value) (f2 : List Nat), IsVal d1 ∧ d1.wt ≤ 22002 ∧ IsVal d2 ∧ d2.wt ≤ 22002 ∧ e = .returned (.tuple #[.agg c1.toArray, .agg c2.toArray]) ∧ MSt w [owA d1 c1 f1, owA d2 c2 f2] w'

set_option maxHeartbeats 3200000 in
set_option maxRecDepth 100000 in
theorem draw6_any (w : World) (B blk : Nat) (h : Cur w B blk) :
    Calls Tryz.prog 65 #[.pointer (some ⟨blk, 0, none⟩)] w (DrawnV 22002 B blk w) := by
  have h0 := (DrSt.start h).new 28 7 #[.int .i64 0, .int .i64 0, .int .i64 0, .string ⟨#[]⟩, .slice none 0 0, .slice none 0 0, .slice none 0 0] rfl
  have H := Lib.hid h0
  clear h h0
  go_enter Tryz.func65, Tryz.ntmps65
  go_wp2_with fail
  refine (below_pos _ B blk 5 H.out.cur (by omega) (by omega)).mono ?_
  rintro e w1 ⟨y, hy0, hy1, rfl, hg, hc⟩
  have H1 := Lib.hid (H.out.draw hg hc)
  clear hg hc H
  have hy : y = 0 ∨ y = 1 ∨ y = 2 ∨ y = 3 ∨ y = 4 := by omega
  rcases hy with rfl | rfl | rfl | rfl | rfl
  · go_wp2_with fail
    refine ((drawNumbers_any _ B blk H1.out.cur).mono fun e w' h => h.toV).mono ?_
    rintro e w2 ⟨d, cs, fp, hd, hwt, rfl, hD⟩
    obtain ⟨vy0, vy1, vy2, vy3, vy4, vn4, vc4, vy5, vn5, vc5, vy6, vn6, vc6, rfl⟩ := hd.form hD.objs.out.1.read
    have H2 := Lib.hid (H1.out.trans1 hD)
    have HV := Lib.hid (And.intro hd (show d.wt ≤ 22002 from by omega))
    clear hD hd hwt
    obtain ⟨r0, r1, r2, r3, r4, r5, r6, rlt⟩ := box7 (DrSt.box (DrSt.nth (L1 := [_]) H2.out))
    obtain ⟨zr0, zr1, zr2, zr3, zr4, zr5, zr6⟩ := box7z (DrSt.box (DrSt.nth (L1 := [_]) H2.out))
    go_wp2_with fail
    obtain ⟨W7, hWW7, hg, y0, y1, y2, y3, y4, y5, y6⟩ := DrSt.put (DrSt.nth (L1 := [_]) H2.out) (.int .i64 vy0) (.int .i64 vy1) (.int .i64 vy2) (.string vy3) (.slice vy4 vn4 vc4) (.slice vy5 vn5 vc5) (.slice vy6 vn6 vc6)
    rw [← hWW7]
    refine bodyPost_ret (v := .agg #[.int .i64 vy0, .int .i64 vy1, .int .i64 vy2, .string vy3, .slice vy4 vn4 vc4, .slice vy5 vn5 vc5, .slice vy6 vn6 vc6]) (by simp [results, Tryz.results65, go_sem, y0, y1, y2, y3, y4, y5, y6]) rfl ⟨d, _, fp, HV.out.1, HV.out.2, rfl, DrSt.drop hg⟩
  · go_wp2_with fail
    refine ((lists_any 3 (by omega) (by omega) _ B blk H1.out.cur).mono fun e w' h => h.toV).mono ?_
    rintro e w2 ⟨d, cs, fp, hd, hwt, rfl, hD⟩
    obtain ⟨vy0, vy1, vy2, vy3, vy4, vn4, vc4, vy5, vn5, vc5, vy6, vn6, vc6, rfl⟩ := hd.form hD.objs.out.1.read
    have H2 := Lib.hid (H1.out.trans1 hD)
    have HV := Lib.hid (And.intro hd (show d.wt ≤ 22002 from Nat.le_trans hwt (show KL 3 ≤ 22002 from by decide)))
    clear hD hd hwt
    obtain ⟨r0, r1, r2, r3, r4, r5, r6, rlt⟩ := box7 (DrSt.box (DrSt.nth (L1 := [_]) H2.out))
    obtain ⟨zr0, zr1, zr2, zr3, zr4, zr5, zr6⟩ := box7z (DrSt.box (DrSt.nth (L1 := [_]) H2.out))
    go_wp2_with fail
    obtain ⟨W7, hWW7, hg, y0, y1, y2, y3, y4, y5, y6⟩ := DrSt.put (DrSt.nth (L1 := [_]) H2.out) (.int .i64 vy0) (.int .i64 vy1) (.int .i64 vy2) (.string vy3) (.slice vy4 vn4 vc4) (.slice vy5 vn5 vc5) (.slice vy6 vn6 vc6)
    rw [← hWW7]
    refine bodyPost_ret (v := .agg #[.int .i64 vy0, .int .i64 vy1, .int .i64 vy2, .string vy3, .slice vy4 vn4 vc4, .slice vy5 vn5 vc5, .slice vy6 vn6 vc6]) (by simp [results, Tryz.results65, go_sem, y0, y1, y2, y3, y4, y5, y6]) rfl ⟨d, _, fp, HV.out.1, HV.out.2, rfl, DrSt.drop hg⟩
  · go_wp2_with fail
    refine (drawNum_any _ B blk H1.out.cur).mono ?_
    rintro e w2 ⟨x0, hx0, hx1, rfl, hg, hc⟩
    have H2 := Lib.hid (H1.out.draw hg hc)
    clear hg hc hx0 hx1
    go_wp2_with fail
    refine (drawNum_any _ B blk H2.out.cur).mono ?_
    rintro e w3 ⟨x1, hx0, hx1, rfl, hg, hc⟩
    have H3 := Lib.hid (H2.out.draw hg hc)
    clear hg hc hx0 hx1
    go_wp2_with fail
    refine (specStreamValue_any x0 x1 _).mono ?_
    rintro e w4 ⟨rfl, hb⟩
    have H4 := Lib.hid (H3.out.below hb)
    clear hb
    obtain ⟨r0, r1, r2, r3, r4, r5, r6, rlt⟩ := box7 (DrSt.box H4.out)
    obtain ⟨zr0, zr1, zr2, zr3, zr4, zr5, zr6⟩ := box7z (DrSt.box H4.out)
    go_wp2_with fail
    obtain ⟨W7, hWW7, hg, y0, y1, y2, y3, y4, y5, y6⟩ := DrSt.put H4.out (.int .i64 4) (.int .i64 x0) (.int .i64 x1) (.string ⟨#[]⟩) (.slice none 0 0) (.slice none 0 0) (.slice none 0 0)
    rw [← hWW7]
    refine bodyPost_ret (v := .agg #[.int .i64 4, .int .i64 x0, .int .i64 x1, .string ⟨#[]⟩, .slice none 0 0, .slice none 0 0, .slice none 0 0]) (by simp [results, Tryz.results65, go_sem, y0, y1, y2, y3, y4, y5, y6]) rfl ⟨_, _, [], isVal_strD x0 x1, (by rw [wt_strD]; omega), rfl, DrSt.first (DrSt.flat hg (fun w' => ow_flat w' 4 x0 x1 ⟨#[]⟩))⟩
  · go_wp2_with fail
    refine ((bent_any _ B blk H1.out.cur).mono fun e w' h => h.toV).mono ?_
    rintro e w2 ⟨d, cs, fp, hd, hwt, rfl, hD⟩
    obtain ⟨vy0, vy1, vy2, vy3, vy4, vn4, vc4, vy5, vn5, vc5, vy6, vn6, vc6, rfl⟩ := hd.form hD.objs.out.1.read
    have H2 := Lib.hid (H1.out.trans1 hD)
    have HV := Lib.hid (And.intro hd (show d.wt ≤ 22002 from by omega))
    clear hD hd hwt
    obtain ⟨r0, r1, r2, r3, r4, r5, r6, rlt⟩ := box7 (DrSt.box (DrSt.nth (L1 := [_]) H2.out))
    obtain ⟨zr0, zr1, zr2, zr3, zr4, zr5, zr6⟩ := box7z (DrSt.box (DrSt.nth (L1 := [_]) H2.out))
    go_wp2_with fail
    obtain ⟨W7, hWW7, hg, y0, y1, y2, y3, y4, y5, y6⟩ := DrSt.put (DrSt.nth (L1 := [_]) H2.out) (.int .i64 vy0) (.int .i64 vy1) (.int .i64 vy2) (.string vy3) (.slice vy4 vn4 vc4) (.slice vy5 vn5 vc5) (.slice vy6 vn6 vc6)
    rw [← hWW7]
    refine bodyPost_ret (v := .agg #[.int .i64 vy0, .int .i64 vy1, .int .i64 vy2, .string vy3, .slice vy4 vn4 vc4, .slice vy5 vn5 vc5, .slice vy6 vn6 vc6]) (by simp [results, Tryz.results65, go_sem, y0, y1, y2, y3, y4, y5, y6]) rfl ⟨d, _, fp, HV.out.1, HV.out.2, rfl, DrSt.drop hg⟩
  · go_wp2_with fail
    refine ((bent_any _ B blk H1.out.cur).mono fun e w' h => h.toV).mono ?_
    rintro e w2 ⟨d, cs, fp, hd, hwt, rfl, hD⟩
    obtain ⟨vy0, vy1, vy2, vy3, vy4, vn4, vc4, vy5, vn5, vc5, vy6, vn6, vc6, rfl⟩ := hd.form hD.objs.out.1.read
    have H2 := Lib.hid (H1.out.trans1 hD)
    have HV := Lib.hid (And.intro hd (show d.wt ≤ 22002 from by omega))
    clear hD hd hwt
    obtain ⟨r0, r1, r2, r3, r4, r5, r6, rlt⟩ := box7 (DrSt.box (DrSt.nth (L1 := [_]) H2.out))
    obtain ⟨zr0, zr1, zr2, zr3, zr4, zr5, zr6⟩ := box7z (DrSt.box (DrSt.nth (L1 := [_]) H2.out))
    go_wp2_with fail
    obtain ⟨W7, hWW7, hg, y0, y1, y2, y3, y4, y5, y6⟩ := DrSt.put (DrSt.nth (L1 := [_]) H2.out) (.int .i64 vy0) (.int .i64 vy1) (.int .i64 vy2) (.string vy3) (.slice vy4 vn4 vc4) (.slice vy5 vn5 vc5) (.slice vy6 vn6 vc6)
    rw [← hWW7]
    refine bodyPost_ret (v := .agg #[.int .i64 vy0, .int .i64 vy1, .int .i64 vy2, .string vy3, .slice vy4 vn4 vc4, .slice vy5 vn5 vc5, .slice vy6 vn6 vc6]) (by simp [results, Tryz.results65, go_sem, y0, y1, y2, y3, y4, y5, y6]) rfl ⟨d, _, fp, HV.out.1, HV.out.2, rfl, DrSt.drop hg⟩

set_option maxHeartbeats 3200000 in
set_option maxRecDepth 100000 in
theorem count6_any (w : World) (B blk : Nat) (h : Cur w B blk) :
    Calls Tryz.prog 64 #[.pointer (some ⟨blk, 0, none⟩)] w (DrawnV 22002 B blk w) := by
  have h0 := (DrSt.start h).new 28 7 #[.int .i64 0, .int .i64 0, .int .i64 0, .string ⟨#[]⟩, .slice none 0 0, .slice none 0 0, .slice none 0 0] rfl
  have H := Lib.hid h0
  clear h h0
  go_enter Tryz.func64, Tryz.ntmps64
  go_wp2_with fail
  refine (once_any _ B blk 8 H.out.cur (by omega) (by omega)).mono ?_
  rintro e w1 ⟨b, rfl, hg, hc⟩
  have H1 := Lib.hid (H.out.draw hg hc)
  clear hg hc H
  cases b with
  | true =>
    go_wp2_with fail
    refine ((bent_any _ B blk H1.out.cur).mono fun e w' h => h.toV).mono ?_
    rintro e w2 ⟨d, cs, fp, hd, hwt, rfl, hD⟩
    obtain ⟨vy0, vy1, vy2, vy3, vy4, vn4, vc4, vy5, vn5, vc5, vy6, vn6, vc6, rfl⟩ := hd.form hD.objs.out.1.read
    have H2 := Lib.hid (H1.out.trans1 hD)
    have HV := Lib.hid (And.intro hd (show d.wt ≤ 22002 from by omega))
    clear hD hd hwt
    obtain ⟨r0, r1, r2, r3, r4, r5, r6, rlt⟩ := box7 (DrSt.box (DrSt.nth (L1 := [_]) H2.out))
    obtain ⟨zr0, zr1, zr2, zr3, zr4, zr5, zr6⟩ := box7z (DrSt.box (DrSt.nth (L1 := [_]) H2.out))
    go_wp2_with fail
    obtain ⟨W7, hWW7, hg, y0, y1, y2, y3, y4, y5, y6⟩ := DrSt.put (DrSt.nth (L1 := [_]) H2.out) (.int .i64 vy0) (.int .i64 vy1) (.int .i64 vy2) (.string vy3) (.slice vy4 vn4 vc4) (.slice vy5 vn5 vc5) (.slice vy6 vn6 vc6)
    rw [← hWW7]
    refine bodyPost_ret (v := .agg #[.int .i64 vy0, .int .i64 vy1, .int .i64 vy2, .string vy3, .slice vy4 vn4 vc4, .slice vy5 vn5 vc5, .slice vy6 vn6 vc6]) (by simp [results, Tryz.results64, go_sem, y0, y1, y2, y3, y4, y5, y6]) rfl ⟨d, _, fp, HV.out.1, HV.out.2, rfl, DrSt.drop hg⟩
  | false =>
    go_wp2_with fail
    refine (below_pos _ B blk 12 H1.out.cur (by omega) (by omega)).mono ?_
    rintro e w2 ⟨y, hy0, hy1, rfl, hg, hc⟩
    have H2 := Lib.hid (H1.out.draw hg hc)
    clear hg hc
    go_wp2_with fail
    refine (specNumberValue_any (y - 1) _).mono ?_
    rintro e w3 ⟨rfl, hb⟩
    have H3 := Lib.hid (H2.out.below hb)
    clear hb
    obtain ⟨r0, r1, r2, r3, r4, r5, r6, rlt⟩ := box7 (DrSt.box H3.out)
    obtain ⟨zr0, zr1, zr2, zr3, zr4, zr5, zr6⟩ := box7z (DrSt.box H3.out)
    go_wp2_with fail
    obtain ⟨W7, hWW7, hg, y0, y1, y2, y3, y4, y5, y6⟩ := DrSt.put H3.out (.int .i64 1) (.int .i64 (y - 1)) (.int .i64 0) (.string ⟨#[]⟩) (.slice none 0 0) (.slice none 0 0) (.slice none 0 0)
    rw [← hWW7]
    refine bodyPost_ret (v := .agg #[.int .i64 1, .int .i64 (y - 1), .int .i64 0, .string ⟨#[]⟩, .slice none 0 0, .slice none 0 0, .slice none 0 0]) (by simp [results, Tryz.results64, go_sem, y0, y1, y2, y3, y4, y5, y6]) rfl ⟨_, _, [], isVal_flatD 1 (y - 1) ⟨#[]⟩, (by rw [wt_flatD]; omega), rfl, DrSt.first (DrSt.flat hg (fun w' => ow_flat w' 1 (y - 1) 0 ⟨#[]⟩))⟩

set_option maxHeartbeats 3200000 in
set_option maxRecDepth 100000 in
theorem drawTake_any (A : Option Addr) (n c : Nat) (w : World) (h : Code w w.heap.size A n) (hn : n ≤ 1048576) :
    Calls Tryz.prog 20 #[.slice A n c] w (TwoV w) := by
  have h0 := ((MSt.start w).new 28 7 #[.int .i64 0, .int .i64 0, .int .i64 0, .string ⟨#[]⟩, .slice none 0 0, .slice none 0 0, .slice none 0 0] rfl).new 28 7 #[.int .i64 0, .int .i64 0, .int .i64 0, .string ⟨#[]⟩, .slice none 0 0, .slice none 0 0, .slice none 0 0] rfl
  rw [World.size_alloc] at h0
  have H0 := Lib.hid h0
  have HC := Lib.hid h
  clear h h0
  go_enter Tryz.func20, Tryz.ntmps20
  go_wp2_with fail
  refine (new_any A n c _ w.heap.size (by simp; omega) (HC.out.keep fun q hq => by exact (((((Below.refl _ _).alloc (Nat.le_refl _) _).alloc (by simp) _) : Below w.heap.size w _)).cell hq) hn).mono ?_
  rintro e w1 ⟨blk, rfl, hblk, hcur, hb1⟩
  have HB1 := Lib.hid hb1
  have hs1 := hb1.size
  simp at hs1
  have HK := Lib.hid (And.intro hblk hcur)
  clear hb1 hblk hcur
  go_wp2_with fail
  refine (count6_any w1 _ blk HK.out.2).mono ?_
  rintro e w2 ⟨d1, c1, f1, hd1, hw1, rfl, hD⟩
  obtain ⟨py0, py1, py2, py3, py4, pn4, pc4, py5, pn5, pc5, py6, pn6, pc6, rfl⟩ := hd1.form hD.objs.out.1.read
  have HD1 := Lib.hid hD
  have HV1 := Lib.hid (And.intro hd1 hw1)
  clear hD hd1 hw1
  go_wp2_with fail
  refine (draw6_any w2 _ blk HD1.out.cur).mono ?_
  rintro e w3 ⟨d2, c2, f2, hd2, hw2, rfl, hD⟩
  obtain ⟨qy0, qy1, qy2, qy3, qy4, qn4, qc4, qy5, qn5, qc5, qy6, qn6, qc6, rfl⟩ := hd2.form hD.objs.out.1.read
  have HV2 := Lib.hid (And.intro hd2 hw2)
  have H3 := Lib.hid (H0.out.drawn HB1.out HK.out.1 (HD1.out.trans1 hD))
  clear hD hd2 hw2
  obtain ⟨r0, r1, r2, r3, r4, r5, r6, rlt⟩ := box7 (MSt.box (MSt.nth (L1 := [_, _, _]) H3.out))
  obtain ⟨zr0, zr1, zr2, zr3, zr4, zr5, zr6⟩ := box7z (MSt.box (MSt.nth (L1 := [_, _, _]) H3.out))
  obtain ⟨s0, s1, s2, s3, s4, s5, s6, slt⟩ := box7 (MSt.box (MSt.nth (L1 := [_, _]) H3.out))
  obtain ⟨zs0, zs1, zs2, zs3, zs4, zs5, zs6⟩ := box7z (MSt.box (MSt.nth (L1 := [_, _]) H3.out))
  go_wp2_with fail
  obtain ⟨W6, hWW6, hf, x0, x1, x2, x3, x4, x5, x6⟩ := MSt.put (MSt.nth (L1 := [_, _, _]) H3.out) (.int .i64 py0) (.int .i64 py1) (.int .i64 py2) (.string py3) (.slice py4 pn4 pc4) (.slice py5 pn5 pc5) (.slice py6 pn6 pc6)
  rw [← hWW6]
  obtain ⟨W7, hWW7, hg, y0, y1, y2, y3, y4, y5, y6⟩ := MSt.put (MSt.nth (L1 := [_, _, _]) hf) (.int .i64 qy0) (.int .i64 qy1) (.int .i64 qy2) (.string qy3) (.slice qy4 qn4 qc4) (.slice qy5 qn5 qc5) (.slice qy6 qn6 qc6)
  rw [← hWW7]
  have hh := MSt.swap (MSt.drop (MSt.drop hg))
  obtain ⟨s0, s1, s2, s3, s4, s5, s6, xlt⟩ := box7 (MSt.box (MSt.swap hg))
  refine bodyPost_ret (v := .tuple #[.agg #[.int .i64 py0, .int .i64 py1, .int .i64 py2, .string py3, .slice py4 pn4 pc4, .slice py5 pn5 pc5, .slice py6 pn6 pc6], .agg #[.int .i64 qy0, .int .i64 qy1, .int .i64 qy2, .string qy3, .slice qy4 qn4 qc4, .slice qy5 qn5 qc5, .slice qy6 qn6 qc6]]) (by simp [results, Tryz.results20, go_sem, s0, s1, s2, s3, s4, s5, s6, y0, y1, y2, y3, y4, y5, y6]) rfl (show TwoV _ _ _ from ⟨d1, _, f1, d2, _, f2, HV1.out.1, HV1.out.2, HV2.out.1, HV2.out.2, rfl, hh⟩)

set_option maxHeartbeats 3200000 in
set_option maxRecDepth 100000 in
theorem drawSkip_any (A : Option Addr) (n c : Nat) (w : World) (h : Code w w.heap.size A n) (hn : n ≤ 1048576) :
    Calls Tryz.prog 28 #[.slice A n c] w (TwoV w) := by
  have h0 := ((MSt.start w).new 28 7 #[.int .i64 0, .int .i64 0, .int .i64 0, .string ⟨#[]⟩, .slice none 0 0, .slice none 0 0, .slice none 0 0] rfl).new 28 7 #[.int .i64 0, .int .i64 0, .int .i64 0, .string ⟨#[]⟩, .slice none 0 0, .slice none 0 0, .slice none 0 0] rfl
  rw [World.size_alloc] at h0
  have H0 := Lib.hid h0
  have HC := Lib.hid h
  clear h h0
  go_enter Tryz.func28, Tryz.ntmps28
  go_wp2_with fail
  refine (new_any A n c _ w.heap.size (by simp; omega) (HC.out.keep fun q hq => by exact (((((Below.refl _ _).alloc (Nat.le_refl _) _).alloc (by simp) _) : Below w.heap.size w _)).cell hq) hn).mono ?_
  rintro e w1 ⟨blk, rfl, hblk, hcur, hb1⟩
  have HB1 := Lib.hid hb1
  have hs1 := hb1.size
  simp at hs1
  have HK := Lib.hid (And.intro hblk hcur)
  clear hb1 hblk hcur
  go_wp2_with fail
  refine (count6_any w1 _ blk HK.out.2).mono ?_
  rintro e w2 ⟨d1, c1, f1, hd1, hw1, rfl, hD⟩
  obtain ⟨py0, py1, py2, py3, py4, pn4, pc4, py5, pn5, pc5, py6, pn6, pc6, rfl⟩ := hd1.form hD.objs.out.1.read
  have HD1 := Lib.hid hD
  have HV1 := Lib.hid (And.intro hd1 hw1)
  clear hD hd1 hw1
  go_wp2_with fail
  refine (draw6_any w2 _ blk HD1.out.cur).mono ?_
  rintro e w3 ⟨d2, c2, f2, hd2, hw2, rfl, hD⟩
  obtain ⟨qy0, qy1, qy2, qy3, qy4, qn4, qc4, qy5, qn5, qc5, qy6, qn6, qc6, rfl⟩ := hd2.form hD.objs.out.1.read
  have HV2 := Lib.hid (And.intro hd2 hw2)
  have H3 := Lib.hid (H0.out.drawn HB1.out HK.out.1 (HD1.out.trans1 hD))
  clear hD hd2 hw2
  obtain ⟨r0, r1, r2, r3, r4, r5, r6, rlt⟩ := box7 (MSt.box (MSt.nth (L1 := [_, _, _]) H3.out))
  obtain ⟨zr0, zr1, zr2, zr3, zr4, zr5, zr6⟩ := box7z (MSt.box (MSt.nth (L1 := [_, _, _]) H3.out))
  obtain ⟨s0, s1, s2, s3, s4, s5, s6, slt⟩ := box7 (MSt.box (MSt.nth (L1 := [_, _]) H3.out))
  obtain ⟨zs0, zs1, zs2, zs3, zs4, zs5, zs6⟩ := box7z (MSt.box (MSt.nth (L1 := [_, _]) H3.out))
  go_wp2_with fail
  obtain ⟨W6, hWW6, hf, x0, x1, x2, x3, x4, x5, x6⟩ := MSt.put (MSt.nth (L1 := [_, _, _]) H3.out) (.int .i64 py0) (.int .i64 py1) (.int .i64 py2) (.string py3) (.slice py4 pn4 pc4) (.slice py5 pn5 pc5) (.slice py6 pn6 pc6)
  rw [← hWW6]
  obtain ⟨W7, hWW7, hg, y0, y1, y2, y3, y4, y5, y6⟩ := MSt.put (MSt.nth (L1 := [_, _, _]) hf) (.int .i64 qy0) (.int .i64 qy1) (.int .i64 qy2) (.string qy3) (.slice qy4 qn4 qc4) (.slice qy5 qn5 qc5) (.slice qy6 qn6 qc6)
  rw [← hWW7]
  have hh := MSt.swap (MSt.drop (MSt.drop hg))
  obtain ⟨s0, s1, s2, s3, s4, s5, s6, xlt⟩ := box7 (MSt.box (MSt.swap hg))
  refine bodyPost_ret (v := .tuple #[.agg #[.int .i64 py0, .int .i64 py1, .int .i64 py2, .string py3, .slice py4 pn4 pc4, .slice py5 pn5 pc5, .slice py6 pn6 pc6], .agg #[.int .i64 qy0, .int .i64 qy1, .int .i64 qy2, .string qy3, .slice qy4 qn4 qc4, .slice qy5 qn5 qc5, .slice qy6 qn6 qc6]]) (by simp [results, Tryz.results28, go_sem, s0, s1, s2, s3, s4, s5, s6, y0, y1, y2, y3, y4, y5, y6]) rfl (show TwoV _ _ _ from ⟨d1, _, f1, d2, _, f2, HV1.out.1, HV1.out.2, HV2.out.1, HV2.out.2, rfl, hh⟩)

set_option maxHeartbeats 3200000 in
set_option maxRecDepth 100000 in
theorem drawSum_any (A : Option Addr) (n c : Nat) (w : World) (h : Code w w.heap.size A n) (hn : n ≤ 1048576) :
    Calls Tryz.prog 29 #[.slice A n c] w (OneV w) := by
  have h0 := (MSt.start w).new 28 7 #[.int .i64 0, .int .i64 0, .int .i64 0, .string ⟨#[]⟩, .slice none 0 0, .slice none 0 0, .slice none 0 0] rfl
  have H0 := Lib.hid h0
  have HC := Lib.hid h
  clear h h0
  go_enter Tryz.func29, Tryz.ntmps29
  go_wp2_with fail
  refine (new_any A n c _ w.heap.size (by simp) (HC.out.keep fun q hq => by exact ((((Below.refl _ _).alloc (Nat.le_refl _) _) : Below w.heap.size w _)).cell hq) hn).mono ?_
  rintro e w1 ⟨blk, rfl, hblk, hcur, hb1⟩
  have HB1 := Lib.hid hb1
  have hs1 := hb1.size
  simp at hs1
  have HK := Lib.hid (And.intro hblk hcur)
  clear hb1 hblk hcur
  go_wp2_with fail
  refine (draw6_any w1 _ blk HK.out.2).mono ?_
  rintro e w2 ⟨d2, c2, f2, hd2, hw2, rfl, hD⟩
  obtain ⟨qy0, qy1, qy2, qy3, qy4, qn4, qc4, qy5, qn5, qc5, qy6, qn6, qc6, rfl⟩ := hd2.form hD.objs.out.1.read
  have HV2 := Lib.hid (And.intro hd2 hw2)
  have H3 := Lib.hid (H0.out.drawn HB1.out HK.out.1 hD)
  clear hD hd2 hw2
  obtain ⟨r0, r1, r2, r3, r4, r5, r6, rlt⟩ := box7 (MSt.box (MSt.nth (L1 := [_]) H3.out))
  obtain ⟨zr0, zr1, zr2, zr3, zr4, zr5, zr6⟩ := box7z (MSt.box (MSt.nth (L1 := [_]) H3.out))
  go_wp2_with fail
  obtain ⟨W7, hWW7, hg, y0, y1, y2, y3, y4, y5, y6⟩ := MSt.put (MSt.nth (L1 := [_]) H3.out) (.int .i64 qy0) (.int .i64 qy1) (.int .i64 qy2) (.string qy3) (.slice qy4 qn4 qc4) (.slice qy5 qn5 qc5) (.slice qy6 qn6 qc6)
  rw [← hWW7]
  refine bodyPost_ret (v := .agg #[.int .i64 qy0, .int .i64 qy1, .int .i64 qy2, .string qy3, .slice qy4 qn4 qc4, .slice qy5 qn5 qc5, .slice qy6 qn6 qc6]) (by simp [results, Tryz.results29, go_sem, y0, y1, y2, y3, y4, y5, y6]) rfl (show OneV _ _ _ from ⟨d2, _, f2, HV2.out.1, HV2.out.2, rfl, MSt.drop hg⟩)

end Go.Proofs.YtabcmnlmmpbmnaaGreat
