/-
  Texts that the proof rests on, put together: OpLst, OpAdd.
-/
import Derived.Test.YtabcmnlmmpbmnaaGreatMgH33
import Derived.Test.YtabcmnlmmpbmnaaGreatMgH16
import Derived.Test.YtabcmnlmmpbmnaaGreatMgH6
import Derived.Test.YtabcmnlmmpbmnaaGreatMgH15
import Derived.Test.YtabcmnlmmpbmnaaGreatMgH20
import Derived.Deep.RegionLaw
/-
  Lists put together: the program's. (Written by genopwalk.py.)
-/

namespace Go.Proofs.YtabcmnlmmpbmnaaGreat
open Go.RowKit
set_option linter.unusedVariables false

theorem rd_own {w1 : World} {base n c : Nat} {A : Option Addr} {cells : List Value} {l : List Dt} (hown : w1.ownsRow base 28 7 (.slice A n c) n cells) (hn : n = l.length) (hrd : RdL w1 w1.heap.size l cells) : Rd w1 w1.heap.size (.lst l) [.slice A n c] := by
  subst hn
  simp only [Rd]
  exact ⟨A, c, cells, rfl, (own_cap hown).1, (own_cap hown).2, own_row hown (fun b hb => (hown.lt b hb).2), hrd⟩
theorem implListN_any (l : List Dt) (n : Nat) (hn : n = l.length) (hl : ∀ x ∈ l, IsVal x) (hwt : Dt.wt (.lst l) ≤ 1048576) (A4 : Option Addr) (c4 : Nat) (w : World) (h : Rd w w.heap.size (.lst l) [.slice A4 n c4]) :
    Calls Tryz.prog 69 #[.slice A4 n c4] w (ToA w (valD 3 0 ⟨#[]⟩ l)) := by
  subst hn
  exact implList_any l hl hwt A4 c4 w h
theorem catL_no {l m : List Dt} (h : 8 < l.length + m.length) : catL l m = valD 6 6 ⟨#[]⟩ [] := if_pos h
theorem catL_yes {l m : List Dt} (h : ¬ 8 < l.length + m.length) : catL l m = valD 3 0 ⟨#[]⟩ (l ++ m) := if_neg h
theorem mem_cat {l m : List Dt} (hl : ∀ x ∈ l, IsVal x) (hm : ∀ x ∈ m, IsVal x) : ∀ x ∈ l ++ m, IsVal x := fun x hx => (List.mem_append.1 hx).elim (hl x) (hm x)

set_option maxHeartbeats 1600000 in
set_option maxRecDepth 100000 in
theorem concatLists_any (xs ys : List Dt) (hx : ∀ x ∈ xs, IsVal x) (hy : ∀ x ∈ ys, IsVal x) (hwt : Dt.wt (.lst (xs ++ ys)) ≤ 1048576) (A A' : Option Addr) (c c' : Nat) (w : World) (h : Rd w w.heap.size (.lst xs) [.slice A xs.length c]) (h' : Rd w w.heap.size (.lst ys) [.slice A' ys.length c']) :
    Calls Tryz.prog 160 #[.slice A xs.length c, .slice A' ys.length c'] w (ToA w (catL xs ys)) := by
  have l1 : xs.length ≤ 1048576 := by simp [Dt.wt] at hwt; omega
  have l2 : ys.length ≤ 1048576 := by simp [Dt.wt] at hwt; omega
  by_cases hc : 8 < xs.length + ys.length
  · rw [catL_no hc]
    have hg : decide ((8 : Int) < (xs.length : Int) + (ys.length : Int)) = true := by simp; omega
    clear hc hwt h h' hx hy
    go_enter Tryz.func160, Tryz.ntmps160
    go_wp2_with fail
    refine (implErrorValue_any 6 _).mono ?_
    rintro e w1 ⟨rfl, hb⟩
    have HB1 : Hid (Below w.heap.size w w1) := by
      refine Lib.hid (Below.trans ?_ (hb.mono ?_))
      · repeat' (first | refine Below.setCell ?_ (by first | (simp; done) | (simp; omega) | omega) _ | refine Below.alloc ?_ (by first | (simp; done) | (simp; omega) | omega) _ | exact Below.refl _ _)
      · first | exact Nat.le_refl _ | (simp; done) | (simp; omega)
    have HS1 := HB1.out.size
    obtain ⟨hc1, hf1⟩ := bcell hb
    have hza1 : w.heap.size < w1.heap.size := by have := hb.size; first | (simp at this; omega) | omega
    clear hb
    go_wp2_with fail
    refine bodyPost_ret (v := .agg #[.int .i64 6, .int .i64 6, .int .i64 0, .string ⟨#[]⟩, .slice none 0 0, .slice none 0 0, .slice none 0 0]) (by simp [results, Tryz.results160, go_sem, *]) rfl (toA_flat rfl ?_)
    repeat' (first | refine Below.setCell ?_ (by first | (simp; done) | (simp; omega) | omega) _ | refine Below.alloc ?_ (by first | (simp; done) | (simp; omega) | omega) _ | exact HB1.out)
  · rw [catL_yes hc]
    have hg : decide ((8 : Int) < (xs.length : Int) + (ys.length : Int)) = false := by simp; omega
    have HL := Lib.hid (And.intro hx (And.intro hy (And.intro hwt (And.intro h (And.intro h' hc)))))
    clear hc hwt h h' hx hy
    have H0 := Lib.hid (((MSt.start w).new 28 7 #[.int .i64 0, .int .i64 0, .int .i64 0, .string ⟨#[]⟩, .slice none 0 0, .slice none 0 0, .slice none 0 0] rfl).alloc (.cells #[.slice A xs.length c, .slice A' ys.length c'] 24))
    go_enter Tryz.func160, Tryz.ntmps160
    go_wp2_with fail
    refine (concat_any A A' c c' _ w.heap.size xs ys HL.out.1 HL.out.2.1 _ (HL.out.2.2.2.1.below H0.out.bel) (HL.out.2.2.2.2.1.below H0.out.bel) H0.out.size (by have := HL.out.2.2.2.2.2; omega) (by simp [go_sem]) (by simp [go_sem]) (by simp)).mono ?_
    rintro e w1 ⟨A2, c2, cells, rfl, hown, hrd, hb⟩
    have H1 := Lib.hid (H0.out.later hb)
    have hn : Rd w1 w1.heap.size (.lst (xs ++ ys)) [.slice A2 (xs.length + ys.length) c2] := rd_own hown (by simp) (((hrd.more H0.out.size).below hb).more hb.size)
    have HN := Lib.hid hn
    clear hown hrd hb H0 hn
    go_wp2_with fail
    refine (implListN_any (xs ++ ys) _ (by simp) (mem_cat HL.out.1 HL.out.2.1) HL.out.2.2.1 A2 c2 w1 HN.out).mono ?_
    rintro e w2 ⟨cs, fp, rfl, how, hnf, hb⟩
    obtain ⟨y0, y1, y2, y3, y4, m4, q4y, y5, m5, q5y, y6, m6, q6y, rfl⟩ := IsVal.form (isVal_valD 3 0 ⟨#[]⟩ _ (mem_cat HL.out.1 HL.out.2.1)) how.read
    have HZ := Lib.hid (H1.out.add hb (owA_at how hnf))
    clear how hnf hb H1
    have hbx := (MSt.nth (L1 := [_]) HZ.out).box
    obtain ⟨x0, x1, x2, x3, x4, x5, x6, hlx⟩ := box7 hbx
    obtain ⟨xz0, xz1, xz2, xz3, xz4, xz5, xz6⟩ := box7z hbx
    clear hbx
    go_wp2_with fail
    have hg := (MSt.nth (L1 := [_]) HZ.out).set7 [.int .i64 y0, .int .i64 y1, .int .i64 y2, .string y3, .slice y4 m4 q4y, .slice y5 m5 q5y, .slice y6 m6 q6y] rfl
    simp only [World.setCells, Nat.zero_add, Nat.reduceAdd] at hg
    generalize (((((((w2.setCell ⟨w.heap.size, 0, none⟩ (.int .i64 y0)).setCell ⟨w.heap.size, 1, none⟩ (.int .i64 y1)).setCell ⟨w.heap.size, 2, none⟩ (.int .i64 y2)).setCell ⟨w.heap.size, 3, none⟩ (.string y3)).setCell ⟨w.heap.size, 4, none⟩ (.slice y4 m4 q4y)).setCell ⟨w.heap.size, 5, none⟩ (.slice y5 m5 q5y)).setCell ⟨w.heap.size, 6, none⟩ (.slice y6 m6 q6y)) = W7 at hg ⊢
    obtain ⟨z0, z1, z2, z3, z4, z5, z6, hlz⟩ := box7 hg.box
    refine bodyPost_ret (v := .agg #[.int .i64 y0, .int .i64 y1, .int .i64 y2, .string y3, .slice y4 m4 q4y, .slice y5 m5 q5y, .slice y6 m6 q6y]) (by simp [results, Tryz.results160, go_sem, z0, z1, z2, z3, z4, z5, z6]) rfl ⟨[.int .i64 y0, .int .i64 y1, .int .i64 y2, .string y3, .slice y4 m4 q4y, .slice y5 m5 q5y, .slice y6 m6 q6y], _, rfl, (MSt.nth (L1 := [_]) hg).objs.out.1, (MSt.nth (L1 := [_]) hg).objs.out.2, hg.bel⟩

end Go.Proofs.YtabcmnlmmpbmnaaGreat

/-
  Addition, the program's and the model's. (Written by genopwalk.py.)
-/

namespace Go.Proofs.YtabcmnlmmpbmnaaGreat
open Go.RowKit
set_option linter.unusedVariables false

theorem isVal_catT (s t : ByteArray) : IsVal (catT s t) := by
  unfold catT
  split <;> exact isVal_flatD _ _ _
theorem specListN_any (l : List Dt) (n : Nat) (hn : n = l.length) (hl : ∀ x ∈ l, IsVal x) (hwt : Dt.wt (.lst l) ≤ 1048576) (A4 : Option Addr) (c4 : Nat) (w : World) (h : Rd w w.heap.size (.lst l) [.slice A4 n c4]) :
    Calls Tryz.prog 73 #[.slice A4 n c4] w (ToA w (valD 3 0 ⟨#[]⟩ l)) := by
  subst hn
  exact specList_any l hl hwt A4 c4 w h

set_option maxHeartbeats 3200000 in
set_option maxRecDepth 100000 in
theorem specCat_any (n s : Int) (t : ByteArray) (l : List Dt) (c : List ByteArray) (r : List Dt) (n' s' : Int) (t' : ByteArray) (l' : List Dt) (c' : List ByteArray) (r' : List Dt) (A4 A5 A6 A4' A5' A6' : Option Addr) (q4 q5 q6 q4' q5' q6' : Nat) (w : World)
    (hl : ∀ x ∈ l, IsVal x) (hl' : ∀ x ∈ l', IsVal x) (hwt : Dt.wt (.lst (l ++ l')) ≤ 1048576) (r4 : Rd w w.heap.size (.lst l) [.slice A4 l.length q4]) (r4' : Rd w w.heap.size (.lst l') [.slice A4' l'.length q4']) (hc : ¬ 8 < l.length + l'.length) :
    Calls Tryz.prog 52 #[.agg #[.int .i64 3, .int .i64 n, .int .i64 s, .string t, .slice A4 l.length q4, .slice A5 c.length q5, .slice A6 r.length q6], .agg #[.int .i64 3, .int .i64 n', .int .i64 s', .string t', .slice A4' l'.length q4', .slice A5' c'.length q5', .slice A6' r'.length q6']] w (ToA w (valD 3 0 ⟨#[]⟩ (l ++ l'))) := by
  have l1 : l.length ≤ 1048576 := by simp [Dt.wt] at hwt; omega
  have l2 : l'.length ≤ 1048576 := by simp [Dt.wt] at hwt; omega
  have hg : decide ((8 : Int) < (l.length : Int) + (l'.length : Int)) = false := by simp; omega
  obtain ⟨cx, rx, lx, hlx, -⟩ := r4.cells (k := 7) fun x hm => (hl x hm).width
  obtain ⟨cy, ry, ly, hly, -⟩ := r4'.cells (k := 7) fun x hm => (hl' x hm).width
  have HX := Lib.hid (And.intro rx (And.intro lx (And.intro hlx lx.one)))
  have HY := Lib.hid (And.intro ry (And.intro ly (And.intro hly ly.one)))
  have HL := Lib.hid (And.intro hl (And.intro hl' hwt))
  clear rx lx hlx ry ly hly r4 r4' hl hl' hwt
  have h0 := (((MSt.start w).new 28 7 #[.int .i64 3, .int .i64 n, .int .i64 s, .string t, .slice A4 l.length q4, .slice A5 c.length q5, .slice A6 r.length q6] rfl).new 28 7 #[.int .i64 3, .int .i64 n', .int .i64 s', .string t', .slice A4' l'.length q4', .slice A5' c'.length q5', .slice A6' r'.length q6'] rfl).new 28 7 #[.int .i64 0, .int .i64 0, .int .i64 0, .string ⟨#[]⟩, .slice none 0 0, .slice none 0 0, .slice none 0 0] rfl
  simp only [World.size_alloc] at h0
  have H0 := Lib.hid h0
  clear h0
  have hlit := H0.out.drew.lit 28 7
  simp only [World.size_alloc, heap_drew] at hlit
  have HI := Lib.hid hlit
  clear hlit
  go_enter Tryz.func52, Tryz.ntmps52
  go_wp2_with fail
  go_region_law (first
    | (refine stepV _ (by rfl) (.tmp 62) (.tmp 64) (by rfl) w.heap.size (.slice (some ⟨w.heap.size + 1 + 1 + 1, 0, none⟩) 0 0) 0 [] (by rfl) (by exact HI.out.row) A4 l.length q4 w.heap.size cx (by rfl) HX.out.2.2.1 (HX.out.1.keep (fun j hj => HI.out.bel.block j hj)) HX.out.2.2.2 (by omega) (by exact HI.out.size) ?_
       intro v2 w2 hown2 hgr2 hn2
       obtain ⟨A2, q2, rfl, hownB⟩ := own_slice0 hown2
       have hC2 := HI.out.app hgr2 hownB hn2.2
       have hby := (MSt.nth (L1 := [_, _]) hC2).box
       have b4 := hby.cellAt 4 (by simp)
       simp at b4
       have hb2 := (hby.lt _ rfl).2
       have HC2 := Lib.hid hC2
       clear hC2 hown2 hownB hgr2 hn2 hby)
    | (refine stepV _ (by rfl) (.tmp 65) (.tmp 67) (by rfl) w.heap.size (.slice A2 l.length q2) l.length cx (by rfl) (by exact HC2.out.row) A4' l'.length q4' w.heap.size cy (by rfl) HY.out.2.2.1 (HY.out.1.keep (fun j hj => HC2.out.bel.block j hj)) HY.out.2.2.2 (by omega) (by exact HC2.out.size) ?_
       intro v3 w3 hown3 hgr3 hn3
       obtain ⟨A3, q3, rfl⟩ := own_slice hown3
       have HC3 := Lib.hid (HC2.out.app hgr3 hown3 hn3.2)
       have HN := Lib.hid (rd_own (l := l ++ l') hown3 (by simp) (((HX.out.2.1.below HC3.out.bel).more HC3.out.size).app ((HY.out.2.1.below HC3.out.bel).more HC3.out.size)))
       clear hown3 hgr3 hn3)
    | (go_simp
       go_at_call 73
       refine (specListN_any (l ++ l') (l.length + l'.length) (by simp) (mem_cat HL.out.1 HL.out.2.1) HL.out.2.2 A3 q3 w3 HN.out).mono ?_
       rintro e w4 ⟨cs, fp, rfl, how, hnf, hb⟩
       obtain ⟨y0, y1, y2, y3, y4, m4, q4y, y5, m5, q5y, y6, m6, q6y, rfl⟩ := IsVal.form (isVal_valD 3 0 ⟨#[]⟩ _ (mem_cat HL.out.1 HL.out.2.1)) how.read
       have HZ := Lib.hid (HC3.out.add hb (owA_at how hnf))
       clear how hnf hb HC3
       have hbx := (MSt.nth (L1 := [_, _]) HZ.out).box
       obtain ⟨x0, x1, x2, x3, x4, x5, x6, hlx⟩ := box7 hbx
       obtain ⟨xz0, xz1, xz2, xz3, xz4, xz5, xz6⟩ := box7z hbx
       clear hbx)
    | fail)
  all_goals
    go_wp2_with fail
    have hg := (MSt.nth (L1 := [_, _]) HZ.out).set7 [.int .i64 y0, .int .i64 y1, .int .i64 y2, .string y3, .slice y4 m4 q4y, .slice y5 m5 q5y, .slice y6 m6 q6y] rfl
    simp only [World.setCells, Nat.zero_add, Nat.reduceAdd] at hg
    generalize (((((((w4.setCell ⟨w.heap.size + 1 + 1, 0, none⟩ (.int .i64 y0)).setCell ⟨w.heap.size + 1 + 1, 1, none⟩ (.int .i64 y1)).setCell ⟨w.heap.size + 1 + 1, 2, none⟩ (.int .i64 y2)).setCell ⟨w.heap.size + 1 + 1, 3, none⟩ (.string y3)).setCell ⟨w.heap.size + 1 + 1, 4, none⟩ (.slice y4 m4 q4y)).setCell ⟨w.heap.size + 1 + 1, 5, none⟩ (.slice y5 m5 q5y)).setCell ⟨w.heap.size + 1 + 1, 6, none⟩ (.slice y6 m6 q6y)) = W7 at hg ⊢
    obtain ⟨z0, z1, z2, z3, z4, z5, z6, hlz⟩ := box7 hg.box
    refine bodyPost_ret (v := .agg #[.int .i64 y0, .int .i64 y1, .int .i64 y2, .string y3, .slice y4 m4 q4y, .slice y5 m5 q5y, .slice y6 m6 q6y]) (by simp [results, Tryz.results52, go_sem, z0, z1, z2, z3, z4, z5, z6]) rfl ⟨[.int .i64 y0, .int .i64 y1, .int .i64 y2, .string y3, .slice y4 m4 q4y, .slice y5 m5 q5y, .slice y6 m6 q6y], _, rfl, (MSt.nth (L1 := [_]) hg).objs.out.1, (MSt.nth (L1 := [_]) hg).objs.out.2, hg.bel⟩

end Go.Proofs.YtabcmnlmmpbmnaaGreat
