/-
  Texts that the proof rests on, put together: DrawP5, DrawAp.
-/
import Derived.Test.YtabcmnlmmpbmnaaGreatMgP25
import Derived.Test.YtabcmnlmmpbmnaaGreatMgP21
import Derived.Test.YtabcmnlmmpbmnaaGreatMgP13
import Derived.Test.YtabcmnlmmpbmnaaGreatMgP7
import Derived.Deep.RegionLaw
import Derived.Test.YtabcmnlmmpbmnaaGreatMgP14
import Derived.Test.YtabcmnlmmpbmnaaGreatMgP3
/-
  Draws of pairs of operands. (Written by gendraw5.py.)
-/

namespace Go.Proofs.YtabcmnlmmpbmnaaGreat
open Go.RowKit
set_option linter.unusedVariables false

/-- Two values are drawn; they can be read. -/
def DrawnP (K : Nat) (B blk : Nat) (w : World) (e : Ending) (w' : World) : Prop := ∃ d1 c1 f1 d2 c2 f2, IsVal d1 ∧ d1.wt ≤ K ∧ IsVal d2 ∧ d2.wt ≤ K ∧ e = .returned (.tuple #[.agg c1.toArray, .agg c2.toArray]) ∧ DrSt w B blk [owA d1 c1 f1, owA d2 c2 f2] w'
theorem flat_wt (k n s : Int) (t : ByteArray) {K : Nat} (h : t.size ≤ K) : (Dt.agg [.int k, .int n, .int s, .str t, .lst [], .lst [], .lst []]).wt ≤ K := by
  simp [Dt.wt, wts]
  exact h
set_option maxHeartbeats 6400000 in
set_option maxRecDepth 100000 in
theorem pair5_any (w : World) (B blk : Nat) (h : Cur w B blk) :
    Calls Tryz.prog 46 #[.pointer (some ⟨blk, 0, none⟩)] w (DrawnP 22002 B blk w) := by
  have h0 := ((DrSt.start h).new 28 7 #[.int .i64 0, .int .i64 0, .int .i64 0, .string ⟨#[]⟩, .slice none 0 0, .slice none 0 0, .slice none 0 0] rfl).new 28 7 #[.int .i64 0, .int .i64 0, .int .i64 0, .string ⟨#[]⟩, .slice none 0 0, .slice none 0 0, .slice none 0 0] rfl
  rw [World.size_alloc] at h0
  have H := Lib.hid h0
  clear h h0
  go_enter Tryz.func46, Tryz.ntmps46
  go_wp2_with fail
  refine ((bent_any _ B blk H.out.cur).mono fun e w' h => h.toV).mono ?_
  rintro e w1 ⟨d, cs, fp, hd, hwt, rfl, hD⟩
  have HD := Lib.hid (And.intro hd hwt)
  obtain ⟨k, n, s, t, l, c, r, hl, hr⟩ := hd
  obtain ⟨A4, c4, A5, c5, A6, c6, rfl, -, -, -⟩ := Rd.ofValue hD.objs.out.1.read
  rw [List.length_map] at hD
  have h2 := H.out.trans1 hD
  have hgl := ((DrSt.nth (L1 := [_, _]) h2).box.lt _ rfl).2
  have hgm := ((DrSt.nth (L1 := [_]) h2).box.lt _ rfl).2
  have h3 := h2.new 28 7 #[.int .i64 k, .int .i64 n, .int .i64 s, .string t, .slice A4 l.length c4, .slice A5 c.length c5, .slice A6 r.length c6] rfl
  have H3 := Lib.hid h3
  clear h2 h3 H hD hwt
  go_wp2_with fail
  refine (below_pos _ B blk 4 H3.out.cur (by omega) (by omega)).mono ?_
  rintro e w2 ⟨y, hy0, hy1, rfl, hg, hc⟩
  have H4 := Lib.hid (H3.out.draw hg hc)
  clear hg hc H3
  have hne1 : w1.heap.size ≠ w.heap.size := by omega
  have hne2 : w1.heap.size ≠ w.heap.size + 1 := by omega
  generalize w1.heap.size = gv at *
  have hy : y = 0 ∨ y = 1 ∨ y = 2 ∨ y = 3 := by omega
  rcases hy with rfl | rfl | rfl | rfl
  · go_wp2_with fail
    refine (drawNum_any _ B blk H4.out.cur).mono ?_
    rintro e w3 ⟨x0, hx0, hx1, rfl, hg, hc⟩
    have H5 := Lib.hid (H4.out.draw hg hc)
    clear hg hc H4 hx0 hx1
    go_wp2_with fail
    refine (specNumberValue_any x0 w3).mono ?_
    rintro e w4 ⟨rfl, hb⟩
    have H6 := Lib.hid (H5.out.below hb)
    clear hb H5
    go_wp2_with fail
    refine (drawNum_any _ B blk H6.out.cur).mono ?_
    rintro e w5 ⟨x1, hx0, hx1, rfl, hg, hc⟩
    have H7 := Lib.hid (H6.out.draw hg hc)
    clear hg hc H6 hx0 hx1
    go_wp2_with fail
    refine (specNumberValue_any x1 w5).mono ?_
    rintro e w6 ⟨rfl, hb⟩
    have H8 := Lib.hid (H7.out.below hb)
    clear hb H7
    have hbra := (DrSt.nth (L1 := [_, _, _]) H8.out).box
    obtain ⟨ra0, ra1, ra2, ra3, ra4, ra5, ra6, hlra⟩ := box7 hbra
    obtain ⟨raz0, raz1, raz2, raz3, raz4, raz5, raz6⟩ := box7z hbra
    clear hbra
    have hbrb := (DrSt.nth (L1 := [_, _]) H8.out).box
    obtain ⟨rb0, rb1, rb2, rb3, rb4, rb5, rb6, hlrb⟩ := box7 hbrb
    obtain ⟨rbz0, rbz1, rbz2, rbz3, rbz4, rbz5, rbz6⟩ := box7z hbrb
    clear hbrb
    go_wp2_with fail
    have HZ := Lib.hid ((H8.out.flat (fun w' => flatOw 1 x0 0 ⟨#[]⟩ w')).flat (fun w' => flatOw 1 x1 0 ⟨#[]⟩ w'))
    clear H8
    have hf := (DrSt.nth (L1 := [_, _, _, _, _]) HZ.out).set7 [.int .i64 1, .int .i64 x0, .int .i64 0, .string ⟨#[]⟩, .slice none 0 0, .slice none 0 0, .slice none 0 0] rfl
    have hg := (DrSt.nth (L1 := [_, _, _, _, _]) hf).set7 [.int .i64 1, .int .i64 x1, .int .i64 0, .string ⟨#[]⟩, .slice none 0 0, .slice none 0 0, .slice none 0 0] rfl
    simp only [World.setCells, Nat.zero_add, Nat.reduceAdd] at hg
    generalize ((((((((((((((w6.setCell ⟨w.heap.size, 0, none⟩ (.int .i64 1)).setCell ⟨w.heap.size, 1, none⟩ (.int .i64 x0)).setCell ⟨w.heap.size, 2, none⟩ (.int .i64 0)).setCell ⟨w.heap.size, 3, none⟩ (.string ⟨#[]⟩)).setCell ⟨w.heap.size, 4, none⟩ (.slice none 0 0)).setCell ⟨w.heap.size, 5, none⟩ (.slice none 0 0)).setCell ⟨w.heap.size, 6, none⟩ (.slice none 0 0)).setCell ⟨w.heap.size + 1, 0, none⟩ (.int .i64 1)).setCell ⟨w.heap.size + 1, 1, none⟩ (.int .i64 x1)).setCell ⟨w.heap.size + 1, 2, none⟩ (.int .i64 0)).setCell ⟨w.heap.size + 1, 3, none⟩ (.string ⟨#[]⟩)).setCell ⟨w.heap.size + 1, 4, none⟩ (.slice none 0 0)).setCell ⟨w.heap.size + 1, 5, none⟩ (.slice none 0 0)).setCell ⟨w.heap.size + 1, 6, none⟩ (.slice none 0 0)) = W7 at hg ⊢
    have hbs := (DrSt.nth (L1 := [_]) hg).box
    obtain ⟨s0, s1, s2, s3, s4, s5, s6, hls⟩ := box7 hbs
    clear hbs
    have hbm := (DrSt.nth (L1 := []) hg).box
    obtain ⟨m0, m1, m2, m3, m4, m5, m6, hlm⟩ := box7 hbm
    clear hbm
    have HG := Lib.hid hg
    clear hf hg hls hlm HZ ra0 raz0 ra1 raz1 ra2 raz2 ra3 raz3 ra4 raz4 ra5 raz5 ra6 raz6 hlra rb0 rbz0 rb1 rbz1 rb2 rbz2 rb3 rbz3 rb4 rbz4 rb5 rbz5 rb6 rbz6 hlrb
    have g1 := DrSt.nth (L1 := [_, _, _]) HG.out
    have g2 := DrSt.nth (L1 := [_, _, _]) g1
    have G3 := Lib.hid (DrSt.pre (M := [_, _]) (DrSt.swap g2))
    clear g1 g2 HG
    refine bodyPost_ret (v := .tuple #[.agg #[.int .i64 1, .int .i64 x0, .int .i64 0, .string ⟨#[]⟩, .slice none 0 0, .slice none 0 0, .slice none 0 0], .agg #[.int .i64 1, .int .i64 x1, .int .i64 0, .string ⟨#[]⟩, .slice none 0 0, .slice none 0 0, .slice none 0 0]]) (by simp [results, Tryz.results46, go_sem, s0, s1, s2, s3, s4, s5, s6, m0, m1, m2, m3, m4, m5, m6]) rfl (show DrawnP _ _ _ _ _ _ from ⟨_, [.int .i64 1, .int .i64 x0, .int .i64 0, .string ⟨#[]⟩, .slice none 0 0, .slice none 0 0, .slice none 0 0], _, _, [.int .i64 1, .int .i64 x1, .int .i64 0, .string ⟨#[]⟩, .slice none 0 0, .slice none 0 0, .slice none 0 0], _, isVal_flat 1 x0 0 ⟨#[]⟩, flat_wt 1 x0 0 ⟨#[]⟩ (Nat.zero_le _), isVal_flat 1 x1 0 ⟨#[]⟩, flat_wt 1 x1 0 ⟨#[]⟩ (Nat.zero_le _), rfl, G3.out⟩)
  · go_wp2_with fail
    refine (drawText_any _ B blk H4.out.cur).mono ?_
    rintro e w3 ⟨u0, hu0, rfl, hg, hc⟩
    have H5 := Lib.hid (H4.out.draw hg hc)
    clear hg hc H4
    go_wp2_with fail
    refine (specTextValue_any u0 w3).mono ?_
    rintro e w4 ⟨rfl, hb⟩
    have H6 := Lib.hid (H5.out.below hb)
    clear hb H5
    go_wp2_with fail
    refine (drawText_any _ B blk H6.out.cur).mono ?_
    rintro e w5 ⟨u1, hu1, rfl, hg, hc⟩
    have H7 := Lib.hid (H6.out.draw hg hc)
    clear hg hc H6
    go_wp2_with fail
    refine (specTextValue_any u1 w5).mono ?_
    rintro e w6 ⟨rfl, hb⟩
    have H8 := Lib.hid (H7.out.below hb)
    clear hb H7
    have hbra := (DrSt.nth (L1 := [_, _, _]) H8.out).box
    obtain ⟨ra0, ra1, ra2, ra3, ra4, ra5, ra6, hlra⟩ := box7 hbra
    obtain ⟨raz0, raz1, raz2, raz3, raz4, raz5, raz6⟩ := box7z hbra
    clear hbra
    have hbrb := (DrSt.nth (L1 := [_, _]) H8.out).box
    obtain ⟨rb0, rb1, rb2, rb3, rb4, rb5, rb6, hlrb⟩ := box7 hbrb
    obtain ⟨rbz0, rbz1, rbz2, rbz3, rbz4, rbz5, rbz6⟩ := box7z hbrb
    clear hbrb
    go_wp2_with fail
    have HZ := Lib.hid ((H8.out.flat (fun w' => flatOw 2 0 0 u0 w')).flat (fun w' => flatOw 2 0 0 u1 w'))
    clear H8
    have hf := (DrSt.nth (L1 := [_, _, _, _, _]) HZ.out).set7 [.int .i64 2, .int .i64 0, .int .i64 0, .string u0, .slice none 0 0, .slice none 0 0, .slice none 0 0] rfl
    have hg := (DrSt.nth (L1 := [_, _, _, _, _]) hf).set7 [.int .i64 2, .int .i64 0, .int .i64 0, .string u1, .slice none 0 0, .slice none 0 0, .slice none 0 0] rfl
    simp only [World.setCells, Nat.zero_add, Nat.reduceAdd] at hg
    generalize ((((((((((((((w6.setCell ⟨w.heap.size, 0, none⟩ (.int .i64 2)).setCell ⟨w.heap.size, 1, none⟩ (.int .i64 0)).setCell ⟨w.heap.size, 2, none⟩ (.int .i64 0)).setCell ⟨w.heap.size, 3, none⟩ (.string u0)).setCell ⟨w.heap.size, 4, none⟩ (.slice none 0 0)).setCell ⟨w.heap.size, 5, none⟩ (.slice none 0 0)).setCell ⟨w.heap.size, 6, none⟩ (.slice none 0 0)).setCell ⟨w.heap.size + 1, 0, none⟩ (.int .i64 2)).setCell ⟨w.heap.size + 1, 1, none⟩ (.int .i64 0)).setCell ⟨w.heap.size + 1, 2, none⟩ (.int .i64 0)).setCell ⟨w.heap.size + 1, 3, none⟩ (.string u1)).setCell ⟨w.heap.size + 1, 4, none⟩ (.slice none 0 0)).setCell ⟨w.heap.size + 1, 5, none⟩ (.slice none 0 0)).setCell ⟨w.heap.size + 1, 6, none⟩ (.slice none 0 0)) = W7 at hg ⊢
    have hbs := (DrSt.nth (L1 := [_]) hg).box
    obtain ⟨s0, s1, s2, s3, s4, s5, s6, hls⟩ := box7 hbs
    clear hbs
    have hbm := (DrSt.nth (L1 := []) hg).box
    obtain ⟨m0, m1, m2, m3, m4, m5, m6, hlm⟩ := box7 hbm
    clear hbm
    have HG := Lib.hid hg
    clear hf hg hls hlm HZ ra0 raz0 ra1 raz1 ra2 raz2 ra3 raz3 ra4 raz4 ra5 raz5 ra6 raz6 hlra rb0 rbz0 rb1 rbz1 rb2 rbz2 rb3 rbz3 rb4 rbz4 rb5 rbz5 rb6 rbz6 hlrb
    have g1 := DrSt.nth (L1 := [_, _, _]) HG.out
    have g2 := DrSt.nth (L1 := [_, _, _]) g1
    have G3 := Lib.hid (DrSt.pre (M := [_, _]) (DrSt.swap g2))
    clear g1 g2 HG
    refine bodyPost_ret (v := .tuple #[.agg #[.int .i64 2, .int .i64 0, .int .i64 0, .string u0, .slice none 0 0, .slice none 0 0, .slice none 0 0], .agg #[.int .i64 2, .int .i64 0, .int .i64 0, .string u1, .slice none 0 0, .slice none 0 0, .slice none 0 0]]) (by simp [results, Tryz.results46, go_sem, s0, s1, s2, s3, s4, s5, s6, m0, m1, m2, m3, m4, m5, m6]) rfl (show DrawnP _ _ _ _ _ _ from ⟨_, [.int .i64 2, .int .i64 0, .int .i64 0, .string u0, .slice none 0 0, .slice none 0 0, .slice none 0 0], _, _, [.int .i64 2, .int .i64 0, .int .i64 0, .string u1, .slice none 0 0, .slice none 0 0, .slice none 0 0], _, isVal_flat 2 0 0 u0, flat_wt 2 0 0 u0 (by omega), isVal_flat 2 0 0 u1, flat_wt 2 0 0 u1 (by omega), rfl, G3.out⟩)
  · go_wp2_with fail
    refine ((lists_any 3 (by omega) (by omega) _ B blk H4.out.cur).mono fun e w' h => h.toV).mono ?_
    rintro e w3 ⟨e1, cs1, fq1, he1, hw1, rfl, hD⟩
    obtain ⟨q1y0, q1y1, q1y2, q1y3, q1y4, q1n4, q1c4, q1y5, q1n5, q1c5, q1y6, q1n6, q1c6, rfl⟩ := he1.form hD.objs.out.1.read
    have H5 := Lib.hid (H4.out.trans1 hD)
    have HE1 := Lib.hid (And.intro he1 (Nat.le_trans hw1 (show KL 3 ≤ 22002 from by decide)))
    clear hD he1 hw1 H4
    go_wp2_with fail
    refine ((lists_any 3 (by omega) (by omega) _ B blk H5.out.cur).mono fun e w' h => h.toV).mono ?_
    rintro e w4 ⟨e2, cs2, fq2, he2, hw2, rfl, hD⟩
    obtain ⟨q2y0, q2y1, q2y2, q2y3, q2y4, q2n4, q2c4, q2y5, q2n5, q2c5, q2y6, q2n6, q2c6, rfl⟩ := he2.form hD.objs.out.1.read
    have H6 := Lib.hid (H5.out.trans1 hD)
    have HE2 := Lib.hid (And.intro he2 (Nat.le_trans hw2 (show KL 3 ≤ 22002 from by decide)))
    clear hD he2 hw2 H5
    have hbra := (DrSt.nth (L1 := [_, _, _, _, _]) H6.out).box
    obtain ⟨ra0, ra1, ra2, ra3, ra4, ra5, ra6, hlra⟩ := box7 hbra
    obtain ⟨raz0, raz1, raz2, raz3, raz4, raz5, raz6⟩ := box7z hbra
    clear hbra
    have hbrb := (DrSt.nth (L1 := [_, _, _, _]) H6.out).box
    obtain ⟨rb0, rb1, rb2, rb3, rb4, rb5, rb6, hlrb⟩ := box7 hbrb
    obtain ⟨rbz0, rbz1, rbz2, rbz3, rbz4, rbz5, rbz6⟩ := box7z hbrb
    clear hbrb
    go_wp2_with fail
    have hf := (DrSt.nth (L1 := [_, _, _, _, _]) H6.out).set7 [.int .i64 q1y0, .int .i64 q1y1, .int .i64 q1y2, .string q1y3, .slice q1y4 q1n4 q1c4, .slice q1y5 q1n5 q1c5, .slice q1y6 q1n6 q1c6] rfl
    have hg := (DrSt.nth (L1 := [_, _, _, _, _]) hf).set7 [.int .i64 q2y0, .int .i64 q2y1, .int .i64 q2y2, .string q2y3, .slice q2y4 q2n4 q2c4, .slice q2y5 q2n5 q2c5, .slice q2y6 q2n6 q2c6] rfl
    simp only [World.setCells, Nat.zero_add, Nat.reduceAdd] at hg
    generalize ((((((((((((((w4.setCell ⟨w.heap.size, 0, none⟩ (.int .i64 q1y0)).setCell ⟨w.heap.size, 1, none⟩ (.int .i64 q1y1)).setCell ⟨w.heap.size, 2, none⟩ (.int .i64 q1y2)).setCell ⟨w.heap.size, 3, none⟩ (.string q1y3)).setCell ⟨w.heap.size, 4, none⟩ (.slice q1y4 q1n4 q1c4)).setCell ⟨w.heap.size, 5, none⟩ (.slice q1y5 q1n5 q1c5)).setCell ⟨w.heap.size, 6, none⟩ (.slice q1y6 q1n6 q1c6)).setCell ⟨w.heap.size + 1, 0, none⟩ (.int .i64 q2y0)).setCell ⟨w.heap.size + 1, 1, none⟩ (.int .i64 q2y1)).setCell ⟨w.heap.size + 1, 2, none⟩ (.int .i64 q2y2)).setCell ⟨w.heap.size + 1, 3, none⟩ (.string q2y3)).setCell ⟨w.heap.size + 1, 4, none⟩ (.slice q2y4 q2n4 q2c4)).setCell ⟨w.heap.size + 1, 5, none⟩ (.slice q2y5 q2n5 q2c5)).setCell ⟨w.heap.size + 1, 6, none⟩ (.slice q2y6 q2n6 q2c6)) = W7 at hg ⊢
    have hbs := (DrSt.nth (L1 := [_]) hg).box
    obtain ⟨s0, s1, s2, s3, s4, s5, s6, hls⟩ := box7 hbs
    clear hbs
    have hbm := (DrSt.nth (L1 := []) hg).box
    obtain ⟨m0, m1, m2, m3, m4, m5, m6, hlm⟩ := box7 hbm
    clear hbm
    have HG := Lib.hid hg
    clear hf hg hls hlm H6 ra0 raz0 ra1 raz1 ra2 raz2 ra3 raz3 ra4 raz4 ra5 raz5 ra6 raz6 hlra rb0 rbz0 rb1 rbz1 rb2 rbz2 rb3 rbz3 rb4 rbz4 rb5 rbz5 rb6 rbz6 hlrb
    have g1 := DrSt.nth (L1 := [_, _, _]) HG.out
    have g2 := DrSt.nth (L1 := [_, _, _]) g1
    have G3 := Lib.hid (DrSt.pre (M := [_, _]) (DrSt.swap g2))
    clear g1 g2 HG
    refine bodyPost_ret (v := .tuple #[.agg #[.int .i64 q1y0, .int .i64 q1y1, .int .i64 q1y2, .string q1y3, .slice q1y4 q1n4 q1c4, .slice q1y5 q1n5 q1c5, .slice q1y6 q1n6 q1c6], .agg #[.int .i64 q2y0, .int .i64 q2y1, .int .i64 q2y2, .string q2y3, .slice q2y4 q2n4 q2c4, .slice q2y5 q2n5 q2c5, .slice q2y6 q2n6 q2c6]]) (by simp [results, Tryz.results46, go_sem, s0, s1, s2, s3, s4, s5, s6, m0, m1, m2, m3, m4, m5, m6]) rfl (show DrawnP _ _ _ _ _ _ from ⟨_, [.int .i64 q1y0, .int .i64 q1y1, .int .i64 q1y2, .string q1y3, .slice q1y4 q1n4 q1c4, .slice q1y5 q1n5 q1c5, .slice q1y6 q1n6 q1c6], _, _, [.int .i64 q2y0, .int .i64 q2y1, .int .i64 q2y2, .string q2y3, .slice q2y4 q2n4 q2c4, .slice q2y5 q2n5 q2c5, .slice q2y6 q2n6 q2c6], _, HE1.out.1, HE1.out.2, HE2.out.1, HE2.out.2, rfl, G3.out⟩)
  · go_wp2_with fail
    refine (once_any _ B blk 2 H4.out.cur (by omega) (by omega)).mono ?_
    rintro e w3 ⟨b, rfl, hg, hc⟩
    have H5 := Lib.hid (H4.out.draw hg hc)
    clear hg hc H4
    have hbx := (DrSt.nth (L1 := []) H5.out).box
    obtain ⟨x0, x1, x2, x3, x4, x5, x6, hlx⟩ := box7 hbx
    clear hbx
    cases b with
    | true =>
      go_wp2_with fail
      go_region_law (first
        | (go_simp
           go_at_call 93
           refine (l3Copy_any HD.out.1 (Nat.le_trans HD.out.2 (by omega)) _ _ (DrSt.nth (L1 := [_]) H5.out.drew).objs.out.1.read).mono ?_
           rintro e1 w4 ⟨cs2, f2, rfl, how, hnf, hb⟩
           obtain ⟨qy0, qy1, qy2, qy3, qy4, qn4, qc4, qy5, qn5, qc5, qy6, qn6, qc6, rfl⟩ := HD.out.1.form how.read
           have hC := H5.out.drew.belowAdd hb (owA_at how hnf)
           have hbya := (DrSt.nth (L1 := [_]) hC).box
           obtain ⟨ya0, ya1, ya2, ya3, ya4, ya5, ya6, hlya⟩ := box7 hbya
           clear hbya
           have hbra := (DrSt.nth (L1 := [_, _, _, _]) hC).box
           obtain ⟨ra0, ra1, ra2, ra3, ra4, ra5, ra6, hlra⟩ := box7 hbra
           obtain ⟨raz0, raz1, raz2, raz3, raz4, raz5, raz6⟩ := box7z hbra
           clear hbra
           have hbrb := (DrSt.nth (L1 := [_, _, _]) hC).box
           obtain ⟨rb0, rb1, rb2, rb3, rb4, rb5, rb6, hlrb⟩ := box7 hbrb
           obtain ⟨rbz0, rbz1, rbz2, rbz3, rbz4, rbz5, rbz6⟩ := box7z hbrb
           clear hbrb
           have HC := Lib.hid hC
           clear hC how hnf hb)
        | fail)
      all_goals
        go_wp2_with fail
        have hf := (DrSt.nth (L1 := [_, _, _, _]) HC.out).set7 [.int .i64 k, .int .i64 n, .int .i64 s, .string t, .slice A4 l.length c4, .slice A5 c.length c5, .slice A6 r.length c6] rfl
        have hg := (DrSt.nth (L1 := [_, _, _, _]) hf).set7 [.int .i64 qy0, .int .i64 qy1, .int .i64 qy2, .string qy3, .slice qy4 qn4 qc4, .slice qy5 qn5 qc5, .slice qy6 qn6 qc6] rfl
        simp only [World.setCells, Nat.zero_add, Nat.reduceAdd] at hg
        generalize ((((((((((((((w4.setCell ⟨w.heap.size, 0, none⟩ (.int .i64 k)).setCell ⟨w.heap.size, 1, none⟩ (.int .i64 n)).setCell ⟨w.heap.size, 2, none⟩ (.int .i64 s)).setCell ⟨w.heap.size, 3, none⟩ (.string t)).setCell ⟨w.heap.size, 4, none⟩ (.slice A4 l.length c4)).setCell ⟨w.heap.size, 5, none⟩ (.slice A5 c.length c5)).setCell ⟨w.heap.size, 6, none⟩ (.slice A6 r.length c6)).setCell ⟨w.heap.size + 1, 0, none⟩ (.int .i64 qy0)).setCell ⟨w.heap.size + 1, 1, none⟩ (.int .i64 qy1)).setCell ⟨w.heap.size + 1, 2, none⟩ (.int .i64 qy2)).setCell ⟨w.heap.size + 1, 3, none⟩ (.string qy3)).setCell ⟨w.heap.size + 1, 4, none⟩ (.slice qy4 qn4 qc4)).setCell ⟨w.heap.size + 1, 5, none⟩ (.slice qy5 qn5 qc5)).setCell ⟨w.heap.size + 1, 6, none⟩ (.slice qy6 qn6 qc6)) = W7 at hg ⊢
        have hbs := (DrSt.nth (L1 := [_]) hg).box
        obtain ⟨s0, s1, s2, s3, s4, s5, s6, hls⟩ := box7 hbs
        clear hbs
        have hbm := (DrSt.nth (L1 := []) hg).box
        obtain ⟨m0, m1, m2, m3, m4, m5, m6, hlm⟩ := box7 hbm
        clear hbm
        have HG := Lib.hid hg
        clear hf hg hls hlm HC ya0 ya1 ya2 ya3 ya4 ya5 ya6 hlya ra0 raz0 ra1 raz1 ra2 raz2 ra3 raz3 ra4 raz4 ra5 raz5 ra6 raz6 hlra rb0 rbz0 rb1 rbz1 rb2 rbz2 rb3 rbz3 rb4 rbz4 rb5 rbz5 rb6 rbz6 hlrb x0 x1 x2 x3 x4 x5 x6 hlx
        have g1 := DrSt.nth (L1 := [_, _, _, _]) HG.out
        have g2 := DrSt.nth (L1 := [_, _, _]) g1
        have G3 := Lib.hid (DrSt.pre (M := [_, _]) (DrSt.swap g2))
        clear g1 g2 HG
        refine bodyPost_ret (v := .tuple #[.agg #[.int .i64 k, .int .i64 n, .int .i64 s, .string t, .slice A4 l.length c4, .slice A5 c.length c5, .slice A6 r.length c6], .agg #[.int .i64 qy0, .int .i64 qy1, .int .i64 qy2, .string qy3, .slice qy4 qn4 qc4, .slice qy5 qn5 qc5, .slice qy6 qn6 qc6]]) (by simp [results, Tryz.results46, go_sem, s0, s1, s2, s3, s4, s5, s6, m0, m1, m2, m3, m4, m5, m6]) rfl (show DrawnP _ _ _ _ _ _ from ⟨_, [.int .i64 k, .int .i64 n, .int .i64 s, .string t, .slice A4 l.length c4, .slice A5 c.length c5, .slice A6 r.length c6], _, _, [.int .i64 qy0, .int .i64 qy1, .int .i64 qy2, .string qy3, .slice qy4 qn4 qc4, .slice qy5 qn5 qc5, .slice qy6 qn6 qc6], _, HD.out.1, Nat.le_trans HD.out.2 (by omega), HD.out.1, Nat.le_trans HD.out.2 (by omega), rfl, G3.out⟩)
    | false =>
      go_wp2_with fail
      go_region_law (first
        | (go_simp
           go_at_call 107
           refine ((bent_any _ B blk H5.out.drew.cur).mono fun e w' h => h.toV).mono ?_
           rintro e1 w4 ⟨d2, cs2, f2, hd2, hwt2, rfl, hD⟩
           obtain ⟨qy0, qy1, qy2, qy3, qy4, qn4, qc4, qy5, qn5, qc5, qy6, qn6, qc6, rfl⟩ := hd2.form hD.objs.out.1.read
           have hC := H5.out.drew.trans1 hD
           have hbya := (DrSt.nth (L1 := [_]) hC).box
           obtain ⟨ya0, ya1, ya2, ya3, ya4, ya5, ya6, hlya⟩ := box7 hbya
           clear hbya
           have hbra := (DrSt.nth (L1 := [_, _, _, _]) hC).box
           obtain ⟨ra0, ra1, ra2, ra3, ra4, ra5, ra6, hlra⟩ := box7 hbra
           obtain ⟨raz0, raz1, raz2, raz3, raz4, raz5, raz6⟩ := box7z hbra
           clear hbra
           have hbrb := (DrSt.nth (L1 := [_, _, _]) hC).box
           obtain ⟨rb0, rb1, rb2, rb3, rb4, rb5, rb6, hlrb⟩ := box7 hbrb
           obtain ⟨rbz0, rbz1, rbz2, rbz3, rbz4, rbz5, rbz6⟩ := box7z hbrb
           clear hbrb
           have HC := Lib.hid hC
           have HD2 := Lib.hid (And.intro hd2 hwt2)
           clear hC hD hd2 hwt2)
        | fail)
      all_goals
        go_wp2_with fail
        have hf := (DrSt.nth (L1 := [_, _, _, _]) HC.out).set7 [.int .i64 k, .int .i64 n, .int .i64 s, .string t, .slice A4 l.length c4, .slice A5 c.length c5, .slice A6 r.length c6] rfl
        have hg := (DrSt.nth (L1 := [_, _, _, _]) hf).set7 [.int .i64 qy0, .int .i64 qy1, .int .i64 qy2, .string qy3, .slice qy4 qn4 qc4, .slice qy5 qn5 qc5, .slice qy6 qn6 qc6] rfl
        simp only [World.setCells, Nat.zero_add, Nat.reduceAdd] at hg
        generalize ((((((((((((((w4.setCell ⟨w.heap.size, 0, none⟩ (.int .i64 k)).setCell ⟨w.heap.size, 1, none⟩ (.int .i64 n)).setCell ⟨w.heap.size, 2, none⟩ (.int .i64 s)).setCell ⟨w.heap.size, 3, none⟩ (.string t)).setCell ⟨w.heap.size, 4, none⟩ (.slice A4 l.length c4)).setCell ⟨w.heap.size, 5, none⟩ (.slice A5 c.length c5)).setCell ⟨w.heap.size, 6, none⟩ (.slice A6 r.length c6)).setCell ⟨w.heap.size + 1, 0, none⟩ (.int .i64 qy0)).setCell ⟨w.heap.size + 1, 1, none⟩ (.int .i64 qy1)).setCell ⟨w.heap.size + 1, 2, none⟩ (.int .i64 qy2)).setCell ⟨w.heap.size + 1, 3, none⟩ (.string qy3)).setCell ⟨w.heap.size + 1, 4, none⟩ (.slice qy4 qn4 qc4)).setCell ⟨w.heap.size + 1, 5, none⟩ (.slice qy5 qn5 qc5)).setCell ⟨w.heap.size + 1, 6, none⟩ (.slice qy6 qn6 qc6)) = W7 at hg ⊢
        have hbs := (DrSt.nth (L1 := [_]) hg).box
        obtain ⟨s0, s1, s2, s3, s4, s5, s6, hls⟩ := box7 hbs
        clear hbs
        have hbm := (DrSt.nth (L1 := []) hg).box
        obtain ⟨m0, m1, m2, m3, m4, m5, m6, hlm⟩ := box7 hbm
        clear hbm
        have HG := Lib.hid hg
        clear hf hg hls hlm HC ya0 ya1 ya2 ya3 ya4 ya5 ya6 hlya ra0 raz0 ra1 raz1 ra2 raz2 ra3 raz3 ra4 raz4 ra5 raz5 ra6 raz6 hlra rb0 rbz0 rb1 rbz1 rb2 rbz2 rb3 rbz3 rb4 rbz4 rb5 rbz5 rb6 rbz6 hlrb x0 x1 x2 x3 x4 x5 x6 hlx
        have g1 := DrSt.nth (L1 := [_, _, _, _]) HG.out
        have g2 := DrSt.nth (L1 := [_, _, _]) g1
        have G3 := Lib.hid (DrSt.pre (M := [_, _]) (DrSt.swap g2))
        clear g1 g2 HG
        refine bodyPost_ret (v := .tuple #[.agg #[.int .i64 k, .int .i64 n, .int .i64 s, .string t, .slice A4 l.length c4, .slice A5 c.length c5, .slice A6 r.length c6], .agg #[.int .i64 qy0, .int .i64 qy1, .int .i64 qy2, .string qy3, .slice qy4 qn4 qc4, .slice qy5 qn5 qc5, .slice qy6 qn6 qc6]]) (by simp [results, Tryz.results46, go_sem, s0, s1, s2, s3, s4, s5, s6, m0, m1, m2, m3, m4, m5, m6]) rfl (show DrawnP _ _ _ _ _ _ from ⟨_, [.int .i64 k, .int .i64 n, .int .i64 s, .string t, .slice A4 l.length c4, .slice A5 c.length c5, .slice A6 r.length c6], _, _, [.int .i64 qy0, .int .i64 qy1, .int .i64 qy2, .string qy3, .slice qy4 qn4 qc4, .slice qy5 qn5 qc5, .slice qy6 qn6 qc6], _, HD.out.1, Nat.le_trans HD.out.2 (by omega), HD2.out.1, Nat.le_trans HD2.out.2 (by omega), rfl, G3.out⟩)
end Go.Proofs.YtabcmnlmmpbmnaaGreat

/-
  An operator and two operands drawn. (Written by gendraw5.py.)
-/

namespace Go.Proofs.YtabcmnlmmpbmnaaGreat
open Go.RowKit
set_option linter.unusedVariables false

/-- An operator and two values are drawn, in memory of the call's own. -/
def ThreeV (w : World) (e : Ending) (w' : World) : Prop := ∃ (y : Int) (d1 : Dt) (c1 : List Value) (f1 : List Nat) (d2 : Dt) (c2 : List Value) (f2 : List Nat), 0 ≤ y ∧ y ≤ 6 ∧ IsVal d1 ∧ d1.wt ≤ 22002 ∧ IsVal d2 ∧ d2.wt ≤ 22002 ∧ e = .returned (.tuple #[.int .i64 y, .agg c1.toArray, .agg c2.toArray]) ∧ MSt w [owA d1 c1 f1, owA d2 c2 f2] w'
set_option maxHeartbeats 3200000 in
set_option maxRecDepth 100000 in
theorem drawAp_any (A : Option Addr) (n c : Nat) (w : World) (h : Code w w.heap.size A n) (hn : n ≤ 1048576) :
    Calls Tryz.prog 12 #[.slice A n c] w (ThreeV w) := by
  have h0 := ((MSt.start w).new 28 7 #[.int .i64 0, .int .i64 0, .int .i64 0, .string ⟨#[]⟩, .slice none 0 0, .slice none 0 0, .slice none 0 0] rfl).new 28 7 #[.int .i64 0, .int .i64 0, .int .i64 0, .string ⟨#[]⟩, .slice none 0 0, .slice none 0 0, .slice none 0 0] rfl
  rw [World.size_alloc] at h0
  have H0 := Lib.hid h0
  have HC := Lib.hid h
  clear h h0
  go_enter Tryz.func12, Tryz.ntmps12
  go_wp2_with fail
  refine (new_any A n c _ w.heap.size (by simp; omega) (HC.out.keep fun q hq => by exact ((((Below.refl _ _).alloc (Nat.le_refl _) _).alloc (by simp) _ : Below w.heap.size w _)).cell hq) hn).mono ?_
  rintro e w1 ⟨blk, rfl, hblk, hcur, hb1⟩
  have HB1 := Lib.hid hb1
  have hs1 := hb1.size
  simp at hs1
  have HK := Lib.hid (And.intro hblk hcur)
  clear hb1 hblk hcur
  go_wp2_with fail
  refine (pair5_any w1 _ blk HK.out.2).mono ?_
  rintro e w2 ⟨d1, c1, f1, d2, c2, f2, hd1, hw1, hd2, hw2, rfl, hD⟩
  obtain ⟨py0, py1, py2, py3, py4, pn4, pc4, py5, pn5, pc5, py6, pn6, pc6, rfl⟩ := hd1.form hD.objs.out.1.read
  obtain ⟨qy0, qy1, qy2, qy3, qy4, qn4, qc4, qy5, qn5, qc5, qy6, qn6, qc6, rfl⟩ := hd2.form (DrSt.swap hD).objs.out.1.read
  have hs2 := hD.size
  have h3 := (hD.new 28 7 #[.int .i64 py0, .int .i64 py1, .int .i64 py2, .string py3, .slice py4 pn4 pc4, .slice py5 pn5 pc5, .slice py6 pn6 pc6] rfl).new 28 7 #[.int .i64 qy0, .int .i64 qy1, .int .i64 qy2, .string qy3, .slice qy4 qn4 qc4, .slice qy5 qn5 qc5, .slice qy6 qn6 qc6] rfl
  rw [World.size_alloc] at h3
  have H3 := Lib.hid h3
  have HV := Lib.hid (And.intro hd1 (And.intro hw1 (And.intro hd2 hw2)))
  clear hD h3 hd1 hw1 hd2 hw2
  go_wp2_with fail
  generalize hW : (w2.alloc (.cells #[.int .i64 py0, .int .i64 py1, .int .i64 py2, .string py3, .slice py4 pn4 pc4, .slice py5 pn5 pc5, .slice py6 pn6 pc6] 28)).alloc (.cells #[.int .i64 qy0, .int .i64 qy1, .int .i64 qy2, .string qy3, .slice qy4 qn4 qc4, .slice qy5 qn5 qc5, .slice qy6 qn6 qc6] 28) = W0 at *
  clear hW
  generalize hx : w2.heap.size = bx at *
  clear hx
  have hbx := (DrSt.nth (L1 := [_]) H3.out).box
  obtain ⟨x0, x1, x2, x3, x4, x5, x6, hlx⟩ := box7 hbx
  clear hbx
  have hby := (DrSt.nth (L1 := []) H3.out).box
  obtain ⟨y0, y1, y2, y3, y4, y5, y6, hly⟩ := box7 hby
  clear hby
  go_region_law (first
    | (go_simp
       go_at_call 47
       refine (below_pos _ _ blk 7 H3.out.drew.cur (by omega) (by omega)).mono ?_
       rintro e w3 ⟨v, hv0, hv1, rfl, hg, hc⟩
       have H5 := Lib.hid (H0.out.drawn HB1.out HK.out.1 (H3.out.drew.draw hg hc))
       have HY := Lib.hid (And.intro hv0 hv1)
       clear hg hc hv0 hv1
       have hbu := (MSt.nth (L1 := [_]) H5.out).box
       obtain ⟨u0, u1, u2, u3, u4, u5, u6, hlu⟩ := box7 hbu
       clear hbu
       have hbt := (MSt.nth (L1 := []) H5.out).box
       obtain ⟨t0, t1, t2, t3, t4, t5, t6, hlt⟩ := box7 hbt
       clear hbt
       have hbra := (MSt.nth (L1 := [_, _, _, _, _]) H5.out).box
       obtain ⟨ra0, ra1, ra2, ra3, ra4, ra5, ra6, hlra⟩ := box7 hbra
       obtain ⟨raz0, raz1, raz2, raz3, raz4, raz5, raz6⟩ := box7z hbra
       clear hbra
       have hbrb := (MSt.nth (L1 := [_, _, _, _]) H5.out).box
       obtain ⟨rb0, rb1, rb2, rb3, rb4, rb5, rb6, hlrb⟩ := box7 hbrb
       obtain ⟨rbz0, rbz1, rbz2, rbz3, rbz4, rbz5, rbz6⟩ := box7z hbrb
       clear hbrb)
    | fail)
  all_goals
    go_wp2_with fail
    have hf := (MSt.nth (L1 := [_, _, _, _, _]) H5.out).set7 [.int .i64 py0, .int .i64 py1, .int .i64 py2, .string py3, .slice py4 pn4 pc4, .slice py5 pn5 pc5, .slice py6 pn6 pc6] rfl
    have hg := (MSt.nth (L1 := [_, _, _, _, _]) hf).set7 [.int .i64 qy0, .int .i64 qy1, .int .i64 qy2, .string qy3, .slice qy4 qn4 qc4, .slice qy5 qn5 qc5, .slice qy6 qn6 qc6] rfl
    simp only [World.setCells, Nat.zero_add, Nat.reduceAdd] at hg
    generalize ((((((((((((((w3.setCell ⟨w.heap.size, 0, none⟩ (.int .i64 py0)).setCell ⟨w.heap.size, 1, none⟩ (.int .i64 py1)).setCell ⟨w.heap.size, 2, none⟩ (.int .i64 py2)).setCell ⟨w.heap.size, 3, none⟩ (.string py3)).setCell ⟨w.heap.size, 4, none⟩ (.slice py4 pn4 pc4)).setCell ⟨w.heap.size, 5, none⟩ (.slice py5 pn5 pc5)).setCell ⟨w.heap.size, 6, none⟩ (.slice py6 pn6 pc6)).setCell ⟨w.heap.size + 1, 0, none⟩ (.int .i64 qy0)).setCell ⟨w.heap.size + 1, 1, none⟩ (.int .i64 qy1)).setCell ⟨w.heap.size + 1, 2, none⟩ (.int .i64 qy2)).setCell ⟨w.heap.size + 1, 3, none⟩ (.string qy3)).setCell ⟨w.heap.size + 1, 4, none⟩ (.slice qy4 qn4 qc4)).setCell ⟨w.heap.size + 1, 5, none⟩ (.slice qy5 qn5 qc5)).setCell ⟨w.heap.size + 1, 6, none⟩ (.slice qy6 qn6 qc6)) = W7 at hg ⊢
    have hbs := (MSt.nth (L1 := [_]) hg).box
    obtain ⟨s0, s1, s2, s3, s4, s5, s6, hls⟩ := box7 hbs
    clear hbs
    have hbm := (MSt.nth (L1 := []) hg).box
    obtain ⟨m0, m1, m2, m3, m4, m5, m6, hlm⟩ := box7 hbm
    clear hbm
    have hh := MSt.pre (M := [_, _]) (MSt.drop (MSt.drop (MSt.drop (MSt.drop hg))))
    have HG := Lib.hid hh
    clear hh hg hf hls hlm H5 u0 u1 u2 u3 u4 u5 u6 hlu t0 t1 t2 t3 t4 t5 t6 hlt ra0 raz0 ra1 raz1 ra2 raz2 ra3 raz3 ra4 raz4 ra5 raz5 ra6 raz6 hlra rb0 rbz0 rb1 rbz1 rb2 rbz2 rb3 rbz3 rb4 rbz4 rb5 rbz5 rb6 rbz6 hlrb x0 x1 x2 x3 x4 x5 x6 hlx y0 y1 y2 y3 y4 y5 y6 hly
    refine bodyPost_ret (v := .tuple #[.int .i64 v, .agg #[.int .i64 py0, .int .i64 py1, .int .i64 py2, .string py3, .slice py4 pn4 pc4, .slice py5 pn5 pc5, .slice py6 pn6 pc6], .agg #[.int .i64 qy0, .int .i64 qy1, .int .i64 qy2, .string qy3, .slice qy4 qn4 qc4, .slice qy5 qn5 qc5, .slice qy6 qn6 qc6]]) (by simp [results, Tryz.results12, go_sem, s0, s1, s2, s3, s4, s5, s6, m0, m1, m2, m3, m4, m5, m6]) rfl (show ThreeV _ _ _ from ⟨v, d1, [.int .i64 py0, .int .i64 py1, .int .i64 py2, .string py3, .slice py4 pn4 pc4, .slice py5 pn5 pc5, .slice py6 pn6 pc6], f1, d2, [.int .i64 qy0, .int .i64 qy1, .int .i64 qy2, .string qy3, .slice qy4 qn4 qc4, .slice qy5 qn5 qc5, .slice qy6 qn6 qc6], f2, HY.out.1, (by have := HY.out.2; omega), HV.out.1, HV.out.2.1, HV.out.2.2.1, HV.out.2.2.2, rfl, HG.out⟩)
end Go.Proofs.YtabcmnlmmpbmnaaGreat
