/-
  Texts that the proof rests on, put together: DrawV2, Step, DrawNames.
-/
import Derived.Test.YtabcmnlmmpbmnaaGreatMgP14
import Derived.Test.YtabcmnlmmpbmnaaGreatMgP7
import Derived.Test.YtabcmnlmmpbmnaaGreatMgP4
import Derived.Deep.RegionHeld3
import Derived.Deep.AppendLies
import Derived.Test.YtabcmnlmmpbmnaaGreatMgP3
/-
  Draws of elements. (Written by gendraw.py.)
-/

namespace Go.Proofs.YtabcmnlmmpbmnaaGreat
open Go.RowKit
set_option linter.unusedVariables false

def KL : Nat → Nat
  | 0 => 20
  | m + 1 => 8 + 8 * KL m
theorem KL_ge (m : Nat) : 20 ≤ KL m := by
  induction m with
  | zero => simp [KL]
  | succ m ih => simp [KL]; omega
def LiC (m : Nat) : Prop := ∀ (w : World) (B blk : Nat), Cur w B blk → Calls Tryz.prog 111 #[.pointer (some ⟨blk, 0, none⟩), .int .i64 (m : Int)] w (DrawnT (KL m) B blk w)
def ElC (m : Nat) : Prop := ∀ (w : World) (B blk : Nat), Cur w B blk → Calls Tryz.prog 157 #[.pointer (some ⟨blk, 0, none⟩), .int .i64 ((m : Int) + 1)] w (DrawnV (KL m) B blk w)
theorem flatOw (k n s : Int) (t : ByteArray) (w' : World) : Ow w' (.agg [.int k, .int n, .int s, .str t, .lst [], .lst (([] : List ByteArray).map .str), .lst []]) [.int .i64 k, .int .i64 n, .int .i64 s, .string t, .slice none 0 0, .slice none 0 0, .slice none 0 0] [] := ow_flat w' k n s t
theorem flatVal (k n s : Int) (t : ByteArray) : IsVal (.agg [.int k, .int n, .int s, .str t, .lst [], .lst (([] : List ByteArray).map .str), .lst []]) := IsVal.mk k n s t [] [] [] (by simp) (by simp)
theorem flatWt (k n s : Int) (t : ByteArray) {K : Nat} (h : t.size ≤ K) : (Dt.agg [.int k, .int n, .int s, .str t, .lst [], .lst (([] : List ByteArray).map .str), .lst []]).wt ≤ K := by
  simp [Dt.wt, wts]; omega
set_option maxHeartbeats 3200000 in
set_option maxRecDepth 100000 in
theorem element_of (m : Nat) (hm : m ≤ 2) (ih : 1 ≤ m → LiC m) (w : World) (B blk : Nat) (h : Cur w B blk) :
    Calls Tryz.prog 157 #[.pointer (some ⟨blk, 0, none⟩), .int .i64 ((m : Int) + 1)] w (DrawnV (KL m) B blk w) := by
  have H := Lib.hid ((DrSt.start h).new 28 7 #[.int .i64 0, .int .i64 0, .int .i64 0, .string ⟨#[]⟩, .slice none 0 0, .slice none 0 0, .slice none 0 0] rfl)
  have IH := Lib.hid ih
  clear h ih
  by_cases hz : 1 ≤ m
  · have hgt : ((1 : Int) < (m : Int) + 1) = True := by simp; omega
    go_enter Tryz.func157, Tryz.ntmps157
    go_wp2_with fail
    refine (once_any _ B blk 4 H.out.cur (by omega) (by omega)).mono ?_
    rintro e w2 ⟨b, rfl, hg, hc⟩
    have H2 := Lib.hid (H.out.draw hg hc)
    clear hg hc H
    cases b with
    | true =>
      go_wp2_with fail
      refine ((IH.out hz w2 B blk H2.out.cur).mono fun e w' h => h.toV).mono ?_
      rintro e w3 ⟨d, cs, fp, hd, hwt, rfl, hD⟩
      obtain ⟨qy0, qy1, qy2, qy3, qy4, qn4, qc4, qy5, qn5, qc5, qy6, qn6, qc6, rfl⟩ := hd.form hD.objs.out.1.read
      have H3 := Lib.hid (H2.out.trans1 hD)
      have HV := Lib.hid (And.intro hd hwt)
      clear hD hd hwt H2
      have hbr := (DrSt.nth (L1 := [_]) H3.out).box
      obtain ⟨r0, r1, r2, r3, r4, r5, r6, -⟩ := box7 hbr
      obtain ⟨z0, z1, z2, z3, z4, z5, z6⟩ := box7z hbr
      clear hbr
      go_wp2_with fail
      have hf := (DrSt.nth (L1 := [_]) H3.out).set7 [.int .i64 qy0, .int .i64 qy1, .int .i64 qy2, .string qy3, .slice qy4 qn4 qc4, .slice qy5 qn5 qc5, .slice qy6 qn6 qc6] rfl
      simp only [World.setCells, Nat.zero_add, Nat.reduceAdd] at hf
      generalize (((((((w3.setCell ⟨w.heap.size, 0, none⟩ (.int .i64 qy0)).setCell ⟨w.heap.size, 1, none⟩ (.int .i64 qy1)).setCell ⟨w.heap.size, 2, none⟩ (.int .i64 qy2)).setCell ⟨w.heap.size, 3, none⟩ (.string qy3)).setCell ⟨w.heap.size, 4, none⟩ (.slice qy4 qn4 qc4)).setCell ⟨w.heap.size, 5, none⟩ (.slice qy5 qn5 qc5)).setCell ⟨w.heap.size, 6, none⟩ (.slice qy6 qn6 qc6)) = W7 at hf ⊢
      have hq := hf.box
      obtain ⟨s0, s1, s2, s3, s4, s5, s6, -⟩ := box7 hq
      have HG := Lib.hid (DrSt.first hf.drop)
      clear hf hq H3 r0 z0 r1 z1 r2 z2 r3 z3 r4 z4 r5 z5 r6 z6
      refine bodyPost_ret (v := .agg #[.int .i64 qy0, .int .i64 qy1, .int .i64 qy2, .string qy3, .slice qy4 qn4 qc4, .slice qy5 qn5 qc5, .slice qy6 qn6 qc6]) (by simp [results, Tryz.results157, go_sem, s0, s1, s2, s3, s4, s5, s6]) rfl (show DrawnV _ _ _ _ _ _ from ⟨_, [.int .i64 qy0, .int .i64 qy1, .int .i64 qy2, .string qy3, .slice qy4 qn4 qc4, .slice qy5 qn5 qc5, .slice qy6 qn6 qc6], _, HV.out.1, HV.out.2, rfl, HG.out⟩)
    | false =>
      go_wp2_with fail
      refine (once_any _ B blk 4 H2.out.cur (by omega) (by omega)).mono ?_
      rintro e w3 ⟨b, rfl, hg, hc⟩
      have H3 := Lib.hid (H2.out.draw hg hc)
      clear hg hc H2
      cases b with
      | true =>
        go_wp2_with fail
        refine (drawText_any _ B blk H3.out.cur).mono ?_
        rintro e w4 ⟨t, ht, rfl, hg, hc⟩
        have H4 := Lib.hid (H3.out.draw hg hc)
        clear hg hc H3
        go_wp2_with fail
        refine (specTextValue_any t w4).mono ?_
        rintro e w5 ⟨rfl, hb⟩
        have H5 := Lib.hid ((H4.out.below hb).flat (flatOw 2 0 0 t))
        clear hb H4
        have hbr := (DrSt.nth (L1 := [_]) H5.out).box
        obtain ⟨r0, r1, r2, r3, r4, r5, r6, -⟩ := box7 hbr
        obtain ⟨z0, z1, z2, z3, z4, z5, z6⟩ := box7z hbr
        clear hbr
        go_wp2_with fail
        have hf := (DrSt.nth (L1 := [_]) H5.out).set7 [.int .i64 2, .int .i64 0, .int .i64 0, .string t, .slice none 0 0, .slice none 0 0, .slice none 0 0] rfl
        simp only [World.setCells, Nat.zero_add, Nat.reduceAdd] at hf
        generalize (((((((w5.setCell ⟨w.heap.size, 0, none⟩ (.int .i64 2)).setCell ⟨w.heap.size, 1, none⟩ (.int .i64 0)).setCell ⟨w.heap.size, 2, none⟩ (.int .i64 0)).setCell ⟨w.heap.size, 3, none⟩ (.string t)).setCell ⟨w.heap.size, 4, none⟩ (.slice none 0 0)).setCell ⟨w.heap.size, 5, none⟩ (.slice none 0 0)).setCell ⟨w.heap.size, 6, none⟩ (.slice none 0 0)) = W7 at hf ⊢
        have hq := hf.box
        obtain ⟨s0, s1, s2, s3, s4, s5, s6, -⟩ := box7 hq
        have HG := Lib.hid (DrSt.first hf.drop)
        clear hf hq H5 r0 z0 r1 z1 r2 z2 r3 z3 r4 z4 r5 z5 r6 z6
        refine bodyPost_ret (v := .agg #[.int .i64 2, .int .i64 0, .int .i64 0, .string t, .slice none 0 0, .slice none 0 0, .slice none 0 0]) (by simp [results, Tryz.results157, go_sem, s0, s1, s2, s3, s4, s5, s6]) rfl (show DrawnV _ _ _ _ _ _ from ⟨_, [.int .i64 2, .int .i64 0, .int .i64 0, .string t, .slice none 0 0, .slice none 0 0, .slice none 0 0], _, flatVal 2 0 0 t, flatWt 2 0 0 t (Nat.le_trans ht (KL_ge _)), rfl, HG.out⟩)
      | false =>
        go_wp2_with fail
        refine (drawNum_any _ B blk H3.out.cur).mono ?_
        rintro e w4 ⟨x, hx0, hx1, rfl, hg, hc⟩
        have H4 := Lib.hid (H3.out.draw hg hc)
        clear hg hc H3
        go_wp2_with fail
        refine (specNumberValue_any x w4).mono ?_
        rintro e w5 ⟨rfl, hb⟩
        have H5 := Lib.hid ((H4.out.below hb).flat (flatOw 1 x 0 ⟨#[]⟩))
        clear hb H4
        have hbr := (DrSt.nth (L1 := [_]) H5.out).box
        obtain ⟨r0, r1, r2, r3, r4, r5, r6, -⟩ := box7 hbr
        obtain ⟨z0, z1, z2, z3, z4, z5, z6⟩ := box7z hbr
        clear hbr
        go_wp2_with fail
        have hf := (DrSt.nth (L1 := [_]) H5.out).set7 [.int .i64 1, .int .i64 x, .int .i64 0, .string ⟨#[]⟩, .slice none 0 0, .slice none 0 0, .slice none 0 0] rfl
        simp only [World.setCells, Nat.zero_add, Nat.reduceAdd] at hf
        generalize (((((((w5.setCell ⟨w.heap.size, 0, none⟩ (.int .i64 1)).setCell ⟨w.heap.size, 1, none⟩ (.int .i64 x)).setCell ⟨w.heap.size, 2, none⟩ (.int .i64 0)).setCell ⟨w.heap.size, 3, none⟩ (.string ⟨#[]⟩)).setCell ⟨w.heap.size, 4, none⟩ (.slice none 0 0)).setCell ⟨w.heap.size, 5, none⟩ (.slice none 0 0)).setCell ⟨w.heap.size, 6, none⟩ (.slice none 0 0)) = W7 at hf ⊢
        have hq := hf.box
        obtain ⟨s0, s1, s2, s3, s4, s5, s6, -⟩ := box7 hq
        have HG := Lib.hid (DrSt.first hf.drop)
        clear hf hq H5 r0 z0 r1 z1 r2 z2 r3 z3 r4 z4 r5 z5 r6 z6
        refine bodyPost_ret (v := .agg #[.int .i64 1, .int .i64 x, .int .i64 0, .string ⟨#[]⟩, .slice none 0 0, .slice none 0 0, .slice none 0 0]) (by simp [results, Tryz.results157, go_sem, s0, s1, s2, s3, s4, s5, s6]) rfl (show DrawnV _ _ _ _ _ _ from ⟨_, [.int .i64 1, .int .i64 x, .int .i64 0, .string ⟨#[]⟩, .slice none 0 0, .slice none 0 0, .slice none 0 0], _, flatVal 1 x 0 ⟨#[]⟩, flatWt 1 x 0 ⟨#[]⟩ (Nat.zero_le _), rfl, HG.out⟩)
  · obtain rfl : m = 0 := by omega
    go_enter Tryz.func157, Tryz.ntmps157
    go_wp2_with fail
    refine (once_any _ B blk 4 H.out.cur (by omega) (by omega)).mono ?_
    rintro e w3 ⟨b, rfl, hg, hc⟩
    have H3 := Lib.hid (H.out.draw hg hc)
    clear hg hc H
    cases b with
    | true =>
      go_wp2_with fail
      refine (drawText_any _ B blk H3.out.cur).mono ?_
      rintro e w4 ⟨t, ht, rfl, hg, hc⟩
      have H4 := Lib.hid (H3.out.draw hg hc)
      clear hg hc H3
      go_wp2_with fail
      refine (specTextValue_any t w4).mono ?_
      rintro e w5 ⟨rfl, hb⟩
      have H5 := Lib.hid ((H4.out.below hb).flat (flatOw 2 0 0 t))
      clear hb H4
      have hbr := (DrSt.nth (L1 := [_]) H5.out).box
      obtain ⟨r0, r1, r2, r3, r4, r5, r6, -⟩ := box7 hbr
      obtain ⟨z0, z1, z2, z3, z4, z5, z6⟩ := box7z hbr
      clear hbr
      go_wp2_with fail
      have hf := (DrSt.nth (L1 := [_]) H5.out).set7 [.int .i64 2, .int .i64 0, .int .i64 0, .string t, .slice none 0 0, .slice none 0 0, .slice none 0 0] rfl
      simp only [World.setCells, Nat.zero_add, Nat.reduceAdd] at hf
      generalize (((((((w5.setCell ⟨w.heap.size, 0, none⟩ (.int .i64 2)).setCell ⟨w.heap.size, 1, none⟩ (.int .i64 0)).setCell ⟨w.heap.size, 2, none⟩ (.int .i64 0)).setCell ⟨w.heap.size, 3, none⟩ (.string t)).setCell ⟨w.heap.size, 4, none⟩ (.slice none 0 0)).setCell ⟨w.heap.size, 5, none⟩ (.slice none 0 0)).setCell ⟨w.heap.size, 6, none⟩ (.slice none 0 0)) = W7 at hf ⊢
      have hq := hf.box
      obtain ⟨s0, s1, s2, s3, s4, s5, s6, -⟩ := box7 hq
      have HG := Lib.hid (DrSt.first hf.drop)
      clear hf hq H5 r0 z0 r1 z1 r2 z2 r3 z3 r4 z4 r5 z5 r6 z6
      refine bodyPost_ret (v := .agg #[.int .i64 2, .int .i64 0, .int .i64 0, .string t, .slice none 0 0, .slice none 0 0, .slice none 0 0]) (by simp [results, Tryz.results157, go_sem, s0, s1, s2, s3, s4, s5, s6]) rfl (show DrawnV _ _ _ _ _ _ from ⟨_, [.int .i64 2, .int .i64 0, .int .i64 0, .string t, .slice none 0 0, .slice none 0 0, .slice none 0 0], _, flatVal 2 0 0 t, flatWt 2 0 0 t (Nat.le_trans ht (KL_ge _)), rfl, HG.out⟩)
    | false =>
      go_wp2_with fail
      refine (drawNum_any _ B blk H3.out.cur).mono ?_
      rintro e w4 ⟨x, hx0, hx1, rfl, hg, hc⟩
      have H4 := Lib.hid (H3.out.draw hg hc)
      clear hg hc H3
      go_wp2_with fail
      refine (specNumberValue_any x w4).mono ?_
      rintro e w5 ⟨rfl, hb⟩
      have H5 := Lib.hid ((H4.out.below hb).flat (flatOw 1 x 0 ⟨#[]⟩))
      clear hb H4
      have hbr := (DrSt.nth (L1 := [_]) H5.out).box
      obtain ⟨r0, r1, r2, r3, r4, r5, r6, -⟩ := box7 hbr
      obtain ⟨z0, z1, z2, z3, z4, z5, z6⟩ := box7z hbr
      clear hbr
      go_wp2_with fail
      have hf := (DrSt.nth (L1 := [_]) H5.out).set7 [.int .i64 1, .int .i64 x, .int .i64 0, .string ⟨#[]⟩, .slice none 0 0, .slice none 0 0, .slice none 0 0] rfl
      simp only [World.setCells, Nat.zero_add, Nat.reduceAdd] at hf
      generalize (((((((w5.setCell ⟨w.heap.size, 0, none⟩ (.int .i64 1)).setCell ⟨w.heap.size, 1, none⟩ (.int .i64 x)).setCell ⟨w.heap.size, 2, none⟩ (.int .i64 0)).setCell ⟨w.heap.size, 3, none⟩ (.string ⟨#[]⟩)).setCell ⟨w.heap.size, 4, none⟩ (.slice none 0 0)).setCell ⟨w.heap.size, 5, none⟩ (.slice none 0 0)).setCell ⟨w.heap.size, 6, none⟩ (.slice none 0 0)) = W7 at hf ⊢
      have hq := hf.box
      obtain ⟨s0, s1, s2, s3, s4, s5, s6, -⟩ := box7 hq
      have HG := Lib.hid (DrSt.first hf.drop)
      clear hf hq H5 r0 z0 r1 z1 r2 z2 r3 z3 r4 z4 r5 z5 r6 z6
      refine bodyPost_ret (v := .agg #[.int .i64 1, .int .i64 x, .int .i64 0, .string ⟨#[]⟩, .slice none 0 0, .slice none 0 0, .slice none 0 0]) (by simp [results, Tryz.results157, go_sem, s0, s1, s2, s3, s4, s5, s6]) rfl (show DrawnV _ _ _ _ _ _ from ⟨_, [.int .i64 1, .int .i64 x, .int .i64 0, .string ⟨#[]⟩, .slice none 0 0, .slice none 0 0, .slice none 0 0], _, flatVal 1 x 0 ⟨#[]⟩, flatWt 1 x 0 ⟨#[]⟩ (Nat.zero_le _), rfl, HG.out⟩)
end Go.Proofs.YtabcmnlmmpbmnaaGreat

/-
  'append' onto a row of texts of the call's own: at a plain operation, and at a step of a region that draws its order.
-/

namespace Go.Proofs.YtabcmnlmmpbmnaaGreat
open Go.RowKit
set_option linter.unusedVariables false

/-- The first cells of a row that is owned are owned too. -/
theorem own_take {w : World} {base : Nat} {e : TypeId} {g : Addr} {n c k : Nat} {xs : List Value} (h : w.ownsRow base e 1 (.slice (some g) n c) n xs) (hk : k ≤ n) : w.ownsRow base e 1 (.slice (some g) k c) k (xs.take k) := by
  have hl := h.1
  rcases h.2 with ⟨h0, _⟩ | ⟨g', cap', cur, hv, h1, h2, h3, h4, h5, h6⟩
  · cases h0
  · injection hv with e1 e2 e3
    subst e3
    refine ⟨by rw [List.length_take]; omega, .inr ⟨g', c, cur, by rw [e1], h1, h2, by omega, h4, h5, ?_⟩⟩
    rw [← h6, Nat.mul_one, Nat.mul_one, List.take_take, Nat.min_eq_left hk]
end Go.Proofs.YtabcmnlmmpbmnaaGreat

/-
  The texts and the lists of texts that chapter 2 draws.
-/

namespace Go.Proofs.YtabcmnlmmpbmnaaGreat
open Go.RowKit
set_option linter.unusedVariables false

/-- A short text is drawn. -/
def DrawnS (B blk : Nat) (w : World) (e : Ending) (w' : World) : Prop := ∃ s : ByteArray, s.size ≤ 16 ∧ e = .returned (.string s) ∧ w.grownBy w' (some blk) ∧ Cur w' B blk

def nameWords : List (List UInt8) := [[97], [98], [99], [100], [120], [121], [116], [117]]
def anyWords : List (List UInt8) := [[], [49, 97], [97, 49], [97, 98, 99, 100, 101, 102, 103, 104], [97, 98, 99, 100, 101, 102, 103, 104, 105], [108, 101, 116], [116, 97, 98, 108, 101], [115, 117, 109], [115, 117, 109, 115], [65], [97, 95, 98], [108, 101, 110]]

set_option maxHeartbeats 400000 in
set_option maxRecDepth 100000 in
theorem drawName_any (w : World) (B blk : Nat) (h : Cur w B blk) :
    Calls Tryz.prog 181 #[.pointer (some ⟨blk, 0, none⟩)] w (DrawnS B blk w) := by
  have H := Lib.hid h
  clear h
  go_enter Tryz.func181, Tryz.ntmps181
  go_wp2_with fail
  refine (pick_lit _ B blk 8 8 _ _ H.out rfl (by omega) (by omega)).mono ?_
  rintro e w2 ⟨k, v, hv, rfl, hg2, hc2⟩
  obtain ⟨l, _, hl, rfl⟩ := strs_mem nameWords 16 (by decide) hv
  have H2 := Lib.hid (And.intro hg2 hc2)
  clear hg2 hc2 hv
  go_wp2_with fail
  go_ret
  exact ⟨⟨l.toArray⟩, hl, rfl, H2.out.1, H2.out.2⟩

set_option maxHeartbeats 400000 in
set_option maxRecDepth 100000 in
theorem drawAny_any (w : World) (B blk : Nat) (h : Cur w B blk) :
    Calls Tryz.prog 154 #[.pointer (some ⟨blk, 0, none⟩)] w (DrawnS B blk w) := by
  have H := Lib.hid h
  clear h
  go_enter Tryz.func154, Tryz.ntmps154
  go_wp2_with fail
  refine (once_any _ B blk 2 H.out (by omega) (by omega)).mono ?_
  rintro e w1 ⟨b, rfl, hg1, hc1⟩
  have H1 := Lib.hid (And.intro hg1 hc1)
  clear hg1 hc1
  cases b with
  | true =>
    go_wp2_with fail
    refine (drawName_any _ B blk H1.out.2).mono ?_
    rintro e w2 ⟨s, hs, rfl, hg2, hc2⟩
    have H2 := Lib.hid (And.intro (grown_trans H1.out.1 hg2) hc2)
    clear hg2 hc2
    go_wp2_with fail
    go_ret
    exact ⟨_, hs, rfl, H2.out.1, H2.out.2⟩
  | false =>
    go_wp2_with fail
    refine (pick_lit _ B blk 12 12 _ _ H1.out.2 rfl (by omega) (by omega)).mono ?_
    rintro e w2 ⟨k, v, hv, rfl, hg2, hc2⟩
    obtain ⟨l, _, hl, rfl⟩ := strs_mem anyWords 16 (by decide) hv
    have H2 := Lib.hid (And.intro (grown_trans H1.out.1 hg2) hc2)
    clear hg2 hc2 hv
    go_wp2_with fail
    go_ret
    exact ⟨⟨l.toArray⟩, hl, rfl, H2.out.1, H2.out.2⟩

end Go.Proofs.YtabcmnlmmpbmnaaGreat
