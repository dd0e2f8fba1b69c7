/-
  Texts that the proof rests on, put together: DrawV6.
-/
import Derived.Test.YtabcmnlmmpbmnaaGreatMgH12
import Derived.Test.YtabcmnlmmpbmnaaGreatMgH17
/-
  Draws of values. (Written by gendraw.py.)
-/

namespace Go.Proofs.YtabcmnlmmpbmnaaGreat
open Go.RowKit
set_option linter.unusedVariables false

set_option maxHeartbeats 3200000 in
set_option maxRecDepth 100000 in
theorem draw_any (w : World) (B blk : Nat) (h : Cur w B blk) :
    Calls Tryz.prog 153 #[.pointer (some ⟨blk, 0, none⟩)] w (DrawnT 10824 B blk w) := by
  have H := Lib.hid ((DrSt.start h).new 28 7 #[.int .i64 0, .int .i64 0, .int .i64 0, .string ⟨#[]⟩, .slice none 0 0, .slice none 0 0, .slice none 0 0] rfl)
  clear h
  go_enter Tryz.func153, Tryz.ntmps153
  go_wp2_with fail
  refine (below_pos _ B blk 10 H.out.cur (by omega) (by omega)).mono ?_
  rintro e w1 ⟨y, hy0, hy1, rfl, hg, hc⟩
  have H1 := Lib.hid (H.out.draw hg hc)
  clear hg hc H
  have hy : y = 0 ∨ y = 1 ∨ y = 2 ∨ y = 3 ∨ y = 4 ∨ y = 5 ∨ y = 6 ∨ y = 7 ∨ y = 8 ∨ y = 9 := by omega
  rcases hy with rfl | rfl | rfl | rfl | rfl | rfl | rfl | rfl | rfl | rfl
  · go_wp2_with fail
    refine (drawNum_any _ B blk H1.out.cur).mono ?_
    rintro e w4 ⟨x, hx0, hx1, rfl, hg, hc⟩
    have H4 := Lib.hid (H1.out.draw hg hc)
    clear hg hc H1
    go_wp2_with fail
    refine (specNumberValue_any x w4).mono ?_
    rintro e w5 ⟨rfl, hb⟩
    have H5 := Lib.hid (H4.out.below hb).top0
    clear hb H4
    have hbr := (DrSt.nth (L1 := [_, _, _, _, _]) H5.out).box
    obtain ⟨r0, r1, r2, r3, r4, r5, r6, -⟩ := box7 hbr
    obtain ⟨z0, z1, z2, z3, z4, z5, z6⟩ := box7z hbr
    clear hbr
    go_wp2_with fail
    have hf := (DrSt.nth (L1 := [_, _, _, _, _]) H5.out).set7 [.int .i64 1, .int .i64 x, .int .i64 0, .string ⟨#[]⟩, .slice none 0 0, .slice none 0 0, .slice none 0 0] rfl
    simp only [World.setCells, Nat.zero_add, Nat.reduceAdd] at hf
    generalize (((((((w5.setCell ⟨w.heap.size, 0, none⟩ (.int .i64 1)).setCell ⟨w.heap.size, 1, none⟩ (.int .i64 x)).setCell ⟨w.heap.size, 2, none⟩ (.int .i64 0)).setCell ⟨w.heap.size, 3, none⟩ (.string ⟨#[]⟩)).setCell ⟨w.heap.size, 4, none⟩ (.slice none 0 0)).setCell ⟨w.heap.size, 5, none⟩ (.slice none 0 0)).setCell ⟨w.heap.size, 6, none⟩ (.slice none 0 0)) = W7 at hf ⊢
    have hq := hf.box
    obtain ⟨s0, s1, s2, s3, s4, s5, s6, -⟩ := box7 hq
    have HG := Lib.hid (DrSt.first5 hf.drop)
    clear hf hq H5 r0 z0 r1 z1 r2 z2 r3 z3 r4 z4 r5 z5 r6 z6
    refine bodyPost_ret (v := .agg #[.int .i64 1, .int .i64 x, .int .i64 0, .string ⟨#[]⟩, .slice none 0 0, .slice none 0 0, .slice none 0 0]) (by simp [results, Tryz.results153, go_sem, s0, s1, s2, s3, s4, s5, s6]) rfl (show DrawnT _ _ _ _ _ _ from ⟨1, x, 0, ⟨#[]⟩, [], [], [], _, _, _, [], [], [], [], (by simp), (by simp), flatB (Nat.zero_le _), rfl, HG.out⟩)
  · go_wp2_with fail
    refine (drawNum_any _ B blk H1.out.cur).mono ?_
    rintro e w4 ⟨x, hx0, hx1, rfl, hg, hc⟩
    have H4 := Lib.hid (H1.out.draw hg hc)
    clear hg hc H1
    go_wp2_with fail
    refine (specNumberValue_any x w4).mono ?_
    rintro e w5 ⟨rfl, hb⟩
    have H5 := Lib.hid (H4.out.below hb).top0
    clear hb H4
    have hbr := (DrSt.nth (L1 := [_, _, _, _, _]) H5.out).box
    obtain ⟨r0, r1, r2, r3, r4, r5, r6, -⟩ := box7 hbr
    obtain ⟨z0, z1, z2, z3, z4, z5, z6⟩ := box7z hbr
    clear hbr
    go_wp2_with fail
    have hf := (DrSt.nth (L1 := [_, _, _, _, _]) H5.out).set7 [.int .i64 1, .int .i64 x, .int .i64 0, .string ⟨#[]⟩, .slice none 0 0, .slice none 0 0, .slice none 0 0] rfl
    simp only [World.setCells, Nat.zero_add, Nat.reduceAdd] at hf
    generalize (((((((w5.setCell ⟨w.heap.size, 0, none⟩ (.int .i64 1)).setCell ⟨w.heap.size, 1, none⟩ (.int .i64 x)).setCell ⟨w.heap.size, 2, none⟩ (.int .i64 0)).setCell ⟨w.heap.size, 3, none⟩ (.string ⟨#[]⟩)).setCell ⟨w.heap.size, 4, none⟩ (.slice none 0 0)).setCell ⟨w.heap.size, 5, none⟩ (.slice none 0 0)).setCell ⟨w.heap.size, 6, none⟩ (.slice none 0 0)) = W7 at hf ⊢
    have hq := hf.box
    obtain ⟨s0, s1, s2, s3, s4, s5, s6, -⟩ := box7 hq
    have HG := Lib.hid (DrSt.first5 hf.drop)
    clear hf hq H5 r0 z0 r1 z1 r2 z2 r3 z3 r4 z4 r5 z5 r6 z6
    refine bodyPost_ret (v := .agg #[.int .i64 1, .int .i64 x, .int .i64 0, .string ⟨#[]⟩, .slice none 0 0, .slice none 0 0, .slice none 0 0]) (by simp [results, Tryz.results153, go_sem, s0, s1, s2, s3, s4, s5, s6]) rfl (show DrawnT _ _ _ _ _ _ from ⟨1, x, 0, ⟨#[]⟩, [], [], [], _, _, _, [], [], [], [], (by simp), (by simp), flatB (Nat.zero_le _), rfl, HG.out⟩)
  · go_wp2_with fail
    refine (drawNum_any _ B blk H1.out.cur).mono ?_
    rintro e w4 ⟨x, hx0, hx1, rfl, hg, hc⟩
    have H4 := Lib.hid (H1.out.draw hg hc)
    clear hg hc H1
    go_wp2_with fail
    refine (specNumberValue_any x w4).mono ?_
    rintro e w5 ⟨rfl, hb⟩
    have H5 := Lib.hid (H4.out.below hb).top0
    clear hb H4
    have hbr := (DrSt.nth (L1 := [_, _, _, _, _]) H5.out).box
    obtain ⟨r0, r1, r2, r3, r4, r5, r6, -⟩ := box7 hbr
    obtain ⟨z0, z1, z2, z3, z4, z5, z6⟩ := box7z hbr
    clear hbr
    go_wp2_with fail
    have hf := (DrSt.nth (L1 := [_, _, _, _, _]) H5.out).set7 [.int .i64 1, .int .i64 x, .int .i64 0, .string ⟨#[]⟩, .slice none 0 0, .slice none 0 0, .slice none 0 0] rfl
    simp only [World.setCells, Nat.zero_add, Nat.reduceAdd] at hf
    generalize (((((((w5.setCell ⟨w.heap.size, 0, none⟩ (.int .i64 1)).setCell ⟨w.heap.size, 1, none⟩ (.int .i64 x)).setCell ⟨w.heap.size, 2, none⟩ (.int .i64 0)).setCell ⟨w.heap.size, 3, none⟩ (.string ⟨#[]⟩)).setCell ⟨w.heap.size, 4, none⟩ (.slice none 0 0)).setCell ⟨w.heap.size, 5, none⟩ (.slice none 0 0)).setCell ⟨w.heap.size, 6, none⟩ (.slice none 0 0)) = W7 at hf ⊢
    have hq := hf.box
    obtain ⟨s0, s1, s2, s3, s4, s5, s6, -⟩ := box7 hq
    have HG := Lib.hid (DrSt.first5 hf.drop)
    clear hf hq H5 r0 z0 r1 z1 r2 z2 r3 z3 r4 z4 r5 z5 r6 z6
    refine bodyPost_ret (v := .agg #[.int .i64 1, .int .i64 x, .int .i64 0, .string ⟨#[]⟩, .slice none 0 0, .slice none 0 0, .slice none 0 0]) (by simp [results, Tryz.results153, go_sem, s0, s1, s2, s3, s4, s5, s6]) rfl (show DrawnT _ _ _ _ _ _ from ⟨1, x, 0, ⟨#[]⟩, [], [], [], _, _, _, [], [], [], [], (by simp), (by simp), flatB (Nat.zero_le _), rfl, HG.out⟩)
  · go_wp2_with fail
    refine (drawText_any _ B blk H1.out.cur).mono ?_
    rintro e w4 ⟨t, ht, rfl, hg, hc⟩
    have H4 := Lib.hid (H1.out.draw hg hc)
    clear hg hc H1
    go_wp2_with fail
    refine (specTextValue_any t w4).mono ?_
    rintro e w5 ⟨rfl, hb⟩
    have H5 := Lib.hid (H4.out.below hb).top0
    clear hb H4
    have hbr := (DrSt.nth (L1 := [_, _, _, _, _]) H5.out).box
    obtain ⟨r0, r1, r2, r3, r4, r5, r6, -⟩ := box7 hbr
    obtain ⟨z0, z1, z2, z3, z4, z5, z6⟩ := box7z hbr
    clear hbr
    go_wp2_with fail
    have hf := (DrSt.nth (L1 := [_, _, _, _, _]) H5.out).set7 [.int .i64 2, .int .i64 0, .int .i64 0, .string t, .slice none 0 0, .slice none 0 0, .slice none 0 0] rfl
    simp only [World.setCells, Nat.zero_add, Nat.reduceAdd] at hf
    generalize (((((((w5.setCell ⟨w.heap.size, 0, none⟩ (.int .i64 2)).setCell ⟨w.heap.size, 1, none⟩ (.int .i64 0)).setCell ⟨w.heap.size, 2, none⟩ (.int .i64 0)).setCell ⟨w.heap.size, 3, none⟩ (.string t)).setCell ⟨w.heap.size, 4, none⟩ (.slice none 0 0)).setCell ⟨w.heap.size, 5, none⟩ (.slice none 0 0)).setCell ⟨w.heap.size, 6, none⟩ (.slice none 0 0)) = W7 at hf ⊢
    have hq := hf.box
    obtain ⟨s0, s1, s2, s3, s4, s5, s6, -⟩ := box7 hq
    have HG := Lib.hid (DrSt.first5 hf.drop)
    clear hf hq H5 r0 z0 r1 z1 r2 z2 r3 z3 r4 z4 r5 z5 r6 z6
    refine bodyPost_ret (v := .agg #[.int .i64 2, .int .i64 0, .int .i64 0, .string t, .slice none 0 0, .slice none 0 0, .slice none 0 0]) (by simp [results, Tryz.results153, go_sem, s0, s1, s2, s3, s4, s5, s6]) rfl (show DrawnT _ _ _ _ _ _ from ⟨2, 0, 0, t, [], [], [], _, _, _, [], [], [], [], (by simp), (by simp), flatB (by omega), rfl, HG.out⟩)
  · go_wp2_with fail
    refine (lists_any 3 (by omega) (by omega) w1 B blk H1.out.cur).mono ?_
    rintro e w3 ⟨k, n, s, t, l, c, r, v4, v5, v6, cl4, fl4, cl6, fl6, hl, hr, hwt, rfl, hD⟩
    obtain ⟨A4, c4, rfl⟩ := own_slice (DrSt.row hD)
    obtain ⟨A5, c5, rfl⟩ := own_slice (DrSt.row (DrSt.nth (L1 := [_, _]) hD))
    obtain ⟨A6, c6, rfl⟩ := own_slice (DrSt.row (DrSt.nth (L1 := [_, _, _]) hD))
    have H3 := Lib.hid (H1.out.trans hD)
    have HV := Lib.hid (And.intro hl (And.intro hr hwt))
    clear hD hl hr hwt H1
    have hbr := (DrSt.nth (L1 := [_, _, _, _, _]) H3.out).box
    obtain ⟨r0, r1, r2, r3, r4, r5, r6, -⟩ := box7 hbr
    obtain ⟨z0, z1, z2, z3, z4, z5, z6⟩ := box7z hbr
    clear hbr
    go_wp2_with fail
    have hf := (DrSt.nth (L1 := [_, _, _, _, _]) H3.out).set7 [.int .i64 k, .int .i64 n, .int .i64 s, .string t, .slice A4 l.length c4, .slice A5 c.length c5, .slice A6 r.length c6] rfl
    simp only [World.setCells, Nat.zero_add, Nat.reduceAdd] at hf
    generalize (((((((w3.setCell ⟨w.heap.size, 0, none⟩ (.int .i64 k)).setCell ⟨w.heap.size, 1, none⟩ (.int .i64 n)).setCell ⟨w.heap.size, 2, none⟩ (.int .i64 s)).setCell ⟨w.heap.size, 3, none⟩ (.string t)).setCell ⟨w.heap.size, 4, none⟩ (.slice A4 l.length c4)).setCell ⟨w.heap.size, 5, none⟩ (.slice A5 c.length c5)).setCell ⟨w.heap.size, 6, none⟩ (.slice A6 r.length c6)) = W7 at hf ⊢
    have hq := hf.box
    obtain ⟨s0, s1, s2, s3, s4, s5, s6, -⟩ := box7 hq
    have HG := Lib.hid (DrSt.first5 hf.drop)
    clear hf hq H3 r0 z0 r1 z1 r2 z2 r3 z3 r4 z4 r5 z5 r6 z6
    refine bodyPost_ret (v := .agg #[.int .i64 k, .int .i64 n, .int .i64 s, .string t, .slice A4 l.length c4, .slice A5 c.length c5, .slice A6 r.length c6]) (by simp [results, Tryz.results153, go_sem, s0, s1, s2, s3, s4, s5, s6]) rfl (show DrawnT _ _ _ _ _ _ from ⟨k, n, s, t, l, c, r, _, _, _, cl4, fl4, cl6, fl6, HV.out.1, HV.out.2.1, Nat.le_trans HV.out.2.2 (by decide), rfl, HG.out⟩)
  · go_wp2_with fail
    refine (drawNumbers_any w1 B blk H1.out.cur).mono ?_
    rintro e w3 ⟨k, n, s, t, l, c, r, v4, v5, v6, cl4, fl4, cl6, fl6, hl, hr, hwt, rfl, hD⟩
    obtain ⟨A4, c4, rfl⟩ := own_slice (DrSt.row hD)
    obtain ⟨A5, c5, rfl⟩ := own_slice (DrSt.row (DrSt.nth (L1 := [_, _]) hD))
    obtain ⟨A6, c6, rfl⟩ := own_slice (DrSt.row (DrSt.nth (L1 := [_, _, _]) hD))
    have H3 := Lib.hid (H1.out.trans hD)
    have HV := Lib.hid (And.intro hl (And.intro hr hwt))
    clear hD hl hr hwt H1
    have hbr := (DrSt.nth (L1 := [_, _, _, _, _]) H3.out).box
    obtain ⟨r0, r1, r2, r3, r4, r5, r6, -⟩ := box7 hbr
    obtain ⟨z0, z1, z2, z3, z4, z5, z6⟩ := box7z hbr
    clear hbr
    go_wp2_with fail
    have hf := (DrSt.nth (L1 := [_, _, _, _, _]) H3.out).set7 [.int .i64 k, .int .i64 n, .int .i64 s, .string t, .slice A4 l.length c4, .slice A5 c.length c5, .slice A6 r.length c6] rfl
    simp only [World.setCells, Nat.zero_add, Nat.reduceAdd] at hf
    generalize (((((((w3.setCell ⟨w.heap.size, 0, none⟩ (.int .i64 k)).setCell ⟨w.heap.size, 1, none⟩ (.int .i64 n)).setCell ⟨w.heap.size, 2, none⟩ (.int .i64 s)).setCell ⟨w.heap.size, 3, none⟩ (.string t)).setCell ⟨w.heap.size, 4, none⟩ (.slice A4 l.length c4)).setCell ⟨w.heap.size, 5, none⟩ (.slice A5 c.length c5)).setCell ⟨w.heap.size, 6, none⟩ (.slice A6 r.length c6)) = W7 at hf ⊢
    have hq := hf.box
    obtain ⟨s0, s1, s2, s3, s4, s5, s6, -⟩ := box7 hq
    have HG := Lib.hid (DrSt.first5 hf.drop)
    clear hf hq H3 r0 z0 r1 z1 r2 z2 r3 z3 r4 z4 r5 z5 r6 z6
    refine bodyPost_ret (v := .agg #[.int .i64 k, .int .i64 n, .int .i64 s, .string t, .slice A4 l.length c4, .slice A5 c.length c5, .slice A6 r.length c6]) (by simp [results, Tryz.results153, go_sem, s0, s1, s2, s3, s4, s5, s6]) rfl (show DrawnT _ _ _ _ _ _ from ⟨k, n, s, t, l, c, r, _, _, _, cl4, fl4, cl6, fl6, HV.out.1, HV.out.2.1, Nat.le_trans HV.out.2.2 (by decide), rfl, HG.out⟩)
  · go_wp2_with fail
    refine (drawNum_any _ B blk H1.out.cur).mono ?_
    rintro e w4 ⟨x, hx0, hx1, rfl, hg, hc⟩
    have H4 := Lib.hid (H1.out.draw hg hc)
    clear hg hc H1
    go_wp2_with fail
    refine (drawNum_any _ B blk H4.out.cur).mono ?_
    rintro e w6 ⟨z, hz0, hz1, rfl, hg, hc⟩
    have H6 := Lib.hid (H4.out.draw hg hc)
    clear hg hc H4
    go_wp2_with fail
    refine (specStreamValue_any x z w6).mono ?_
    rintro e w5 ⟨rfl, hb⟩
    have H5 := Lib.hid (H6.out.below hb).top0
    clear hb H6
    have hbr := (DrSt.nth (L1 := [_, _, _, _, _]) H5.out).box
    obtain ⟨r0, r1, r2, r3, r4, r5, r6, -⟩ := box7 hbr
    obtain ⟨z0, z1, z2, z3, z4, z5, z6⟩ := box7z hbr
    clear hbr
    go_wp2_with fail
    have hf := (DrSt.nth (L1 := [_, _, _, _, _]) H5.out).set7 [.int .i64 4, .int .i64 x, .int .i64 z, .string ⟨#[]⟩, .slice none 0 0, .slice none 0 0, .slice none 0 0] rfl
    simp only [World.setCells, Nat.zero_add, Nat.reduceAdd] at hf
    generalize (((((((w5.setCell ⟨w.heap.size, 0, none⟩ (.int .i64 4)).setCell ⟨w.heap.size, 1, none⟩ (.int .i64 x)).setCell ⟨w.heap.size, 2, none⟩ (.int .i64 z)).setCell ⟨w.heap.size, 3, none⟩ (.string ⟨#[]⟩)).setCell ⟨w.heap.size, 4, none⟩ (.slice none 0 0)).setCell ⟨w.heap.size, 5, none⟩ (.slice none 0 0)).setCell ⟨w.heap.size, 6, none⟩ (.slice none 0 0)) = W7 at hf ⊢
    have hq := hf.box
    obtain ⟨s0, s1, s2, s3, s4, s5, s6, -⟩ := box7 hq
    have HG := Lib.hid (DrSt.first5 hf.drop)
    clear hf hq H5 r0 z0 r1 z1 r2 z2 r3 z3 r4 z4 r5 z5 r6 z6
    refine bodyPost_ret (v := .agg #[.int .i64 4, .int .i64 x, .int .i64 z, .string ⟨#[]⟩, .slice none 0 0, .slice none 0 0, .slice none 0 0]) (by simp [results, Tryz.results153, go_sem, s0, s1, s2, s3, s4, s5, s6]) rfl (show DrawnT _ _ _ _ _ _ from ⟨4, x, z, ⟨#[]⟩, [], [], [], _, _, _, [], [], [], [], (by simp), (by simp), flatB (Nat.zero_le _), rfl, HG.out⟩)
  · go_wp2_with fail
    refine (below_pos _ B blk 8 H1.out.cur (by omega) (by omega)).mono ?_
    rintro e w4 ⟨x, hx0, hx1, rfl, hg, hc⟩
    have H4 := Lib.hid (H1.out.draw hg hc)
    clear hg hc H1
    go_wp2_with fail
    refine (specErrorValue_any (1 + x) w4).mono ?_
    rintro e w5 ⟨rfl, hb⟩
    have H5 := Lib.hid (H4.out.below hb).top0
    clear hb H4
    have hbr := (DrSt.nth (L1 := [_, _, _, _, _]) H5.out).box
    obtain ⟨r0, r1, r2, r3, r4, r5, r6, -⟩ := box7 hbr
    obtain ⟨z0, z1, z2, z3, z4, z5, z6⟩ := box7z hbr
    clear hbr
    go_wp2_with fail
    have hf := (DrSt.nth (L1 := [_, _, _, _, _]) H5.out).set7 [.int .i64 6, .int .i64 (1 + x), .int .i64 0, .string ⟨#[]⟩, .slice none 0 0, .slice none 0 0, .slice none 0 0] rfl
    simp only [World.setCells, Nat.zero_add, Nat.reduceAdd] at hf
    generalize (((((((w5.setCell ⟨w.heap.size, 0, none⟩ (.int .i64 6)).setCell ⟨w.heap.size, 1, none⟩ (.int .i64 (1 + x))).setCell ⟨w.heap.size, 2, none⟩ (.int .i64 0)).setCell ⟨w.heap.size, 3, none⟩ (.string ⟨#[]⟩)).setCell ⟨w.heap.size, 4, none⟩ (.slice none 0 0)).setCell ⟨w.heap.size, 5, none⟩ (.slice none 0 0)).setCell ⟨w.heap.size, 6, none⟩ (.slice none 0 0)) = W7 at hf ⊢
    have hq := hf.box
    obtain ⟨s0, s1, s2, s3, s4, s5, s6, -⟩ := box7 hq
    have HG := Lib.hid (DrSt.first5 hf.drop)
    clear hf hq H5 r0 z0 r1 z1 r2 z2 r3 z3 r4 z4 r5 z5 r6 z6
    refine bodyPost_ret (v := .agg #[.int .i64 6, .int .i64 (1 + x), .int .i64 0, .string ⟨#[]⟩, .slice none 0 0, .slice none 0 0, .slice none 0 0]) (by simp [results, Tryz.results153, go_sem, s0, s1, s2, s3, s4, s5, s6]) rfl (show DrawnT _ _ _ _ _ _ from ⟨6, 1 + x, 0, ⟨#[]⟩, [], [], [], _, _, _, [], [], [], [], (by simp), (by simp), flatB (Nat.zero_le _), rfl, HG.out⟩)
  · go_wp2_with fail
    refine (drawTable_any w1 B blk H1.out.cur).mono ?_
    rintro e w3 ⟨k, n, s, t, l, c, r, v4, v5, v6, cl4, fl4, cl6, fl6, hl, hr, hwt, rfl, hD⟩
    obtain ⟨A4, c4, rfl⟩ := own_slice (DrSt.row hD)
    obtain ⟨A5, c5, rfl⟩ := own_slice (DrSt.row (DrSt.nth (L1 := [_, _]) hD))
    obtain ⟨A6, c6, rfl⟩ := own_slice (DrSt.row (DrSt.nth (L1 := [_, _, _]) hD))
    have H3 := Lib.hid (H1.out.trans hD)
    have HV := Lib.hid (And.intro hl (And.intro hr hwt))
    clear hD hl hr hwt H1
    have hbr := (DrSt.nth (L1 := [_, _, _, _, _]) H3.out).box
    obtain ⟨r0, r1, r2, r3, r4, r5, r6, -⟩ := box7 hbr
    obtain ⟨z0, z1, z2, z3, z4, z5, z6⟩ := box7z hbr
    clear hbr
    go_wp2_with fail
    have hf := (DrSt.nth (L1 := [_, _, _, _, _]) H3.out).set7 [.int .i64 k, .int .i64 n, .int .i64 s, .string t, .slice A4 l.length c4, .slice A5 c.length c5, .slice A6 r.length c6] rfl
    simp only [World.setCells, Nat.zero_add, Nat.reduceAdd] at hf
    generalize (((((((w3.setCell ⟨w.heap.size, 0, none⟩ (.int .i64 k)).setCell ⟨w.heap.size, 1, none⟩ (.int .i64 n)).setCell ⟨w.heap.size, 2, none⟩ (.int .i64 s)).setCell ⟨w.heap.size, 3, none⟩ (.string t)).setCell ⟨w.heap.size, 4, none⟩ (.slice A4 l.length c4)).setCell ⟨w.heap.size, 5, none⟩ (.slice A5 c.length c5)).setCell ⟨w.heap.size, 6, none⟩ (.slice A6 r.length c6)) = W7 at hf ⊢
    have hq := hf.box
    obtain ⟨s0, s1, s2, s3, s4, s5, s6, -⟩ := box7 hq
    have HG := Lib.hid (DrSt.first5 hf.drop)
    clear hf hq H3 r0 z0 r1 z1 r2 z2 r3 z3 r4 z4 r5 z5 r6 z6
    refine bodyPost_ret (v := .agg #[.int .i64 k, .int .i64 n, .int .i64 s, .string t, .slice A4 l.length c4, .slice A5 c.length c5, .slice A6 r.length c6]) (by simp [results, Tryz.results153, go_sem, s0, s1, s2, s3, s4, s5, s6]) rfl (show DrawnT _ _ _ _ _ _ from ⟨k, n, s, t, l, c, r, _, _, _, cl4, fl4, cl6, fl6, HV.out.1, HV.out.2.1, Nat.le_trans HV.out.2.2 (by decide), rfl, HG.out⟩)
  · go_wp2_with fail
    refine (drawTable_any w1 B blk H1.out.cur).mono ?_
    rintro e w3 ⟨k, n, s, t, l, c, r, v4, v5, v6, cl4, fl4, cl6, fl6, hl, hr, hwt, rfl, hD⟩
    obtain ⟨A4, c4, rfl⟩ := own_slice (DrSt.row hD)
    obtain ⟨A5, c5, rfl⟩ := own_slice (DrSt.row (DrSt.nth (L1 := [_, _]) hD))
    obtain ⟨A6, c6, rfl⟩ := own_slice (DrSt.row (DrSt.nth (L1 := [_, _, _]) hD))
    have H3 := Lib.hid (H1.out.trans hD)
    have HV := Lib.hid (And.intro hl (And.intro hr hwt))
    clear hD hl hr hwt H1
    have hbr := (DrSt.nth (L1 := [_, _, _, _, _]) H3.out).box
    obtain ⟨r0, r1, r2, r3, r4, r5, r6, -⟩ := box7 hbr
    obtain ⟨z0, z1, z2, z3, z4, z5, z6⟩ := box7z hbr
    clear hbr
    go_wp2_with fail
    have hf := (DrSt.nth (L1 := [_, _, _, _, _]) H3.out).set7 [.int .i64 k, .int .i64 n, .int .i64 s, .string t, .slice A4 l.length c4, .slice A5 c.length c5, .slice A6 r.length c6] rfl
    simp only [World.setCells, Nat.zero_add, Nat.reduceAdd] at hf
    generalize (((((((w3.setCell ⟨w.heap.size, 0, none⟩ (.int .i64 k)).setCell ⟨w.heap.size, 1, none⟩ (.int .i64 n)).setCell ⟨w.heap.size, 2, none⟩ (.int .i64 s)).setCell ⟨w.heap.size, 3, none⟩ (.string t)).setCell ⟨w.heap.size, 4, none⟩ (.slice A4 l.length c4)).setCell ⟨w.heap.size, 5, none⟩ (.slice A5 c.length c5)).setCell ⟨w.heap.size, 6, none⟩ (.slice A6 r.length c6)) = W7 at hf ⊢
    have hq := hf.box
    obtain ⟨s0, s1, s2, s3, s4, s5, s6, -⟩ := box7 hq
    have HG := Lib.hid (DrSt.first5 hf.drop)
    clear hf hq H3 r0 z0 r1 z1 r2 z2 r3 z3 r4 z4 r5 z5 r6 z6
    refine bodyPost_ret (v := .agg #[.int .i64 k, .int .i64 n, .int .i64 s, .string t, .slice A4 l.length c4, .slice A5 c.length c5, .slice A6 r.length c6]) (by simp [results, Tryz.results153, go_sem, s0, s1, s2, s3, s4, s5, s6]) rfl (show DrawnT _ _ _ _ _ _ from ⟨k, n, s, t, l, c, r, _, _, _, cl4, fl4, cl6, fl6, HV.out.1, HV.out.2.1, Nat.le_trans HV.out.2.2 (by decide), rfl, HG.out⟩)
end Go.Proofs.YtabcmnlmmpbmnaaGreat
