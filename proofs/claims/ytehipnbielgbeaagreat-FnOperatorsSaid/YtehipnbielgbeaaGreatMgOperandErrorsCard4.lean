/-
  Texts that the proof rests on, put together: DrawV1, DrawV2.
-/
import Derived.Test.YtehipnbielgbeaaGreatMgExactApplyOperatorCard5
import Derived.Test.YtehipnbielgbeaaGreatMgOperandErrorsCard1
import Derived.Test.YtehipnbielgbeaaGreatMgExactApplyOperatorCard9
import Derived.Test.YtehipnbielgbeaaGreatMgExactApplyOperatorCard8
/-
  Draws of numbers, texts and origins.
-/

namespace Go.Proofs.YtehipnbielgbeaaGreat
open Go.RowKit
set_option linter.unusedVariables false

set_option maxHeartbeats 400000 in
set_option maxRecDepth 100000 in
theorem drawNum_any (w : World) (B blk : Nat) (h : Cur w B blk) :
    Calls Tryz.prog 56 #[.pointer (some ⟨blk, 0, none⟩)] w (Drawn (-1000000000) 1000000000 B blk w) := by
  have H := Lib.hid h
  clear h
  go_enter Tryz.func56, Tryz.ntmps56
  go_wp2_with fail
  refine (once_any _ B blk 12 H.out (by omega) (by omega)).mono ?_
  rintro e w1 ⟨b, rfl, hg1, hc1⟩
  have H1 := Lib.hid (And.intro hg1 hc1)
  clear hg1 hc1
  cases b with
  | true =>
    go_wp2_with fail
    refine (pickInt_lit _ B blk 5 5 _ _ H1.out.2 rfl (by omega) (by omega)).mono ?_
    rintro e w2 ⟨k, v, hv, rfl, hg2, hc2⟩
    obtain ⟨x, h1, h2, rfl⟩ := ints_mem [1000000000, -1000000000, 999999999, 500000000, 40000] (-1000000000) 1000000000 (by decide) hv
    have H2 := Lib.hid (And.intro (grown_trans H1.out.1 hg2) hc2)
    clear hg2 hc2 hv
    go_wp2_with fail
    go_ret
    exact ⟨x, h1, h2, rfl, H2.out.1, H2.out.2⟩
  | false =>
    go_wp2_with fail
    refine (below_pos _ B blk 12 H1.out.2 (by omega) (by omega)).mono ?_
    rintro e w2 ⟨x, h1, h2, rfl, hg2, hc2⟩
    have H2 := Lib.hid (And.intro (grown_trans H1.out.1 hg2) hc2)
    clear hg2 hc2
    go_wp2_with fail
    go_ret
    exact ⟨x - 3, by omega, by omega, rfl, H2.out.1, H2.out.2⟩

def txtWords : List (List UInt8) := [[], [97], [98], [97, 98], [104, 101, 108, 108, 111], [116, 119, 101, 110, 116, 121, 32, 99, 104, 97, 114, 97, 99, 116, 101, 114, 115, 32, 111, 107], [110, 105, 110, 101, 116, 101, 101, 110, 32, 99, 104, 97, 114, 97, 99, 116, 101, 114, 46]]
set_option maxHeartbeats 400000 in
set_option maxRecDepth 100000 in
theorem drawText_any (w : World) (B blk : Nat) (h : Cur w B blk) :
    Calls Tryz.prog 58 #[.pointer (some ⟨blk, 0, none⟩)] w fun e w' => ∃ s : ByteArray, s.size ≤ 20 ∧ e = .returned (.string s) ∧ w.grownBy w' (some blk) ∧ Cur w' B blk := by
  have H := Lib.hid h
  clear h
  go_enter Tryz.func58, Tryz.ntmps58
  go_wp2_with fail
  refine (pick_lit _ B blk 7 7 _ _ H.out rfl (by omega) (by omega)).mono ?_
  rintro e w2 ⟨k, v, hv, rfl, hg2, hc2⟩
  obtain ⟨l, _, hl, rfl⟩ := strs_mem txtWords 20 (by decide) hv
  have H2 := Lib.hid (And.intro hg2 hc2)
  clear hg2 hc2 hv
  go_wp2_with fail
  go_ret
  exact ⟨⟨l.toArray⟩, hl, rfl, H2.out.1, H2.out.2⟩

/-- Origins as cells. -/
def orgV (ps : List (Int × Int)) : List Value := ps.flatMap fun p => [.int .i64 p.1, .int .i64 p.2]
def orgD (ps : List (Int × Int)) : List Dt := ps.map fun p => .agg [.int p.1, .int p.2]
theorem orgV_app (ps : List (Int × Int)) (a b : Int) : orgV ps ++ [.int .i64 a, .int .i64 b] = orgV (ps ++ [(a, b)]) := by simp [orgV]
theorem ow_org (w : World) : ∀ ps : List (Int × Int), OwL w (orgD ps) (orgV ps) []
  | [] => by simp [OwL, orgV, orgD]
  | p :: ps => by
    have h1 := ow_org w ps
    simp only [orgD, List.map_cons, OwL] at h1 ⊢
    exact ⟨[.int .i64 p.1, .int .i64 p.2], orgV ps, [], [], by simp [orgV], rfl, by simp only [Ow, OwL]; exact ⟨[_], _, [], [], rfl, rfl, ⟨rfl, rfl⟩, [_], _, [], [], rfl, rfl, ⟨rfl, rfl⟩, rfl, rfl⟩, h1⟩
theorem orgD_org (ps : List (Int × Int)) : ∀ x ∈ orgD ps, IsOrg x := by
  intro x hx
  obtain ⟨p, _, rfl⟩ := List.mem_map.1 hx
  exact ⟨p.1, p.2, rfl⟩

/-- Origins are drawn, in memory of their own. -/
def DrawnF (B blk : Nat) (w : World) (e : Ending) (w' : World) : Prop := ∃ (ps : List (Int × Int)) (v : Value) (fp : List Nat), ps.length ≤ 2 ∧ e = .returned v ∧ DrSt w B blk [owA (.lst (orgD ps)) [v] fp] w'
set_option maxHeartbeats 1600000 in
set_option maxRecDepth 100000 in
theorem drawFrom_any (w : World) (B blk : Nat) (h : Cur w B blk) :
    Calls Tryz.prog 129 #[.pointer (some ⟨blk, 0, none⟩)] w (DrawnF B blk w) := by
  have H := Lib.hid ((DrSt.start h).lit 107 2)
  clear h
  go_enter Tryz.func129, Tryz.ntmps129
  go_wp2_with fail
  refine (below_pos _ B blk 3 H.out.cur (by omega) (by omega)).mono ?_
  rintro e w1 ⟨n, hn0, hn1, rfl, hg1, hc1⟩
  have H1 := Lib.hid (H.out.draw hg1 hc1)
  clear hg1 hc1 H
  go_wp2_with fail
  go_loopw [3, 4, 6] (fun v cl i wr => ∃ (k : Nat) (ps : List (Int × Int)) (cell : Int), (k : Int) ≤ n ∧ i = .int .i64 k ∧ cl = .int .i64 cell ∧ ps.length = k ∧ 0 ≤ cell ∧ cell ≤ 1 + 2 * (k : Int) ∧ DrSt w B blk [rowA 107 2 v k (orgV ps)] wr) (fun _ _ i _ => n.toNat - (intOf i).toNat)
  case atStart => exact ⟨0, [], 1, by omega, rfl, rfl, rfl, by omega, by omega, H1.out⟩
  case round =>
    obtain ⟨k, ps, cell, hk, rfl, rfl, hps, hc0, hc1, hS⟩ := hrel
    by_cases hlt : (k : Int) < n
    · have HS := Lib.hid hS
      clear hS
      go_wp2_with fail
      refine (below_pos _ B blk 2 HS.out.cur (by omega) (by omega)).mono ?_
      rintro e w2 ⟨a, ha0, ha1, rfl, hg2, hc2⟩
      have HS2 := Lib.hid (HS.out.draw hg2 hc2)
      have hs2 := HS2.out.size
      clear hg2 hc2 HS
      go_wp2_with (at_builtin; refine appO _ rfl (.tmp 15) (.tmp 23) rfl w.heap.size _ k (orgV ps) rfl (HS2.out.row.alloc _) (some ⟨w2.heap.size, 0, none⟩) 1 1 (w2.heap.size + 1) [.int .i64 cell, .int .i64 (k + a * 2)] rfl rfl (row_new w2 #[.int .i64 cell, .int .i64 (k + a * 2)] 107) (fun u hu => by simp at hu; rcases hu with rfl | rfl <;> rfl) (by omega) (by simp; omega) ?_; intro v3 w3 hown3 hgr3 hn3)
      have h3 := (HS2.out.alloc (.cells #[.int .i64 cell, .int .i64 (k + a * 2)] 107)).app hgr3 hown3 hn3.2
      rw [orgV_app] at h3
      have HS3 := Lib.hid h3
      clear h3 hown3 hgr3 hn3 HS2
      refine (below_pos _ B blk 2 HS3.out.cur (by omega) (by omega)).mono ?_
      rintro e w4 ⟨b, hb0, hb1, rfl, hg4, hc4⟩
      have HS4 := Lib.hid (HS3.out.draw hg4 hc4)
      clear hg4 hc4 HS3
      go_wp2_with fail
      exact ⟨⟨k + 1, ps ++ [(cell, k + a * 2)], cell + 1 + b, by omega, by simp, rfl, by simp; omega, by omega, by omega, HS4.out⟩, by simp [intOf]; omega⟩
    · obtain ⟨A, c, rfl⟩ := own_slice hS.row
      have h1 := hS.alter fun o => o.close0 (xs := orgD ps) (fun w' => ow_org w' ps) (by simp [orgD, hps])
      have HF := Lib.hid h1
      clear hS h1
      go_wp2_with fail
      go_ret
      exact ⟨ps, .slice A k c, _, (by omega), rfl, HF.out⟩
end Go.Proofs.YtehipnbielgbeaaGreat

/-
  Draws of elements. (Written by gendraw.py.)
-/

namespace Go.Proofs.YtehipnbielgbeaaGreat
open Go.RowKit
set_option linter.unusedVariables false

def KL : Nat → Nat
  | 0 => 20
  | m + 1 => 8 + 8 * KL m
theorem KL_ge (m : Nat) : 20 ≤ KL m := by
  induction m with
  | zero => simp [KL]
  | succ m ih => simp [KL]; omega
def LiC (m : Nat) : Prop := ∀ (w : World) (B blk : Nat), Cur w B blk → Calls Tryz.prog 59 #[.pointer (some ⟨blk, 0, none⟩), .int .i64 (m : Int)] w (DrawnT (KL m) B blk w)
def ElC (m : Nat) : Prop := ∀ (w : World) (B blk : Nat), Cur w B blk → Calls Tryz.prog 91 #[.pointer (some ⟨blk, 0, none⟩), .int .i64 ((m : Int) + 1)] w (DrawnV (KL m) B blk w)
theorem flatOw (k n s : Int) (t : ByteArray) (w' : World) : Ow w' (.agg [.int k, .int n, .int s, .str t, .lst [], .lst (([] : List ByteArray).map .str), .lst []]) [.int .i64 k, .int .i64 n, .int .i64 s, .string t, .slice none 0 0, .slice none 0 0, .slice none 0 0] [] := ow_flat w' k n s t
theorem flatVal (k n s : Int) (t : ByteArray) : IsVal (.agg [.int k, .int n, .int s, .str t, .lst [], .lst (([] : List ByteArray).map .str), .lst []]) := IsVal.mk k n s t [] [] [] (by simp) (by simp)
theorem flatWt (k n s : Int) (t : ByteArray) {K : Nat} (h : t.size ≤ K) : (Dt.agg [.int k, .int n, .int s, .str t, .lst [], .lst (([] : List ByteArray).map .str), .lst []]).wt ≤ K := by
  simp [Dt.wt, wts]; omega
set_option maxHeartbeats 3200000 in
set_option maxRecDepth 100000 in
theorem element_of (m : Nat) (hm : m ≤ 2) (ih : 1 ≤ m → LiC m) (w : World) (B blk : Nat) (h : Cur w B blk) :
    Calls Tryz.prog 91 #[.pointer (some ⟨blk, 0, none⟩), .int .i64 ((m : Int) + 1)] w (DrawnV (KL m) B blk w) := by
  have H := Lib.hid ((DrSt.start h).new 28 7 #[.int .i64 0, .int .i64 0, .int .i64 0, .string ⟨#[]⟩, .slice none 0 0, .slice none 0 0, .slice none 0 0] rfl)
  have IH := Lib.hid ih
  clear h ih
  by_cases hz : 1 ≤ m
  · have hgt : ((1 : Int) < (m : Int) + 1) = True := by simp; omega
    go_enter Tryz.func91, Tryz.ntmps91
    go_wp2_with fail
    refine (once_any _ B blk 4 H.out.cur (by omega) (by omega)).mono ?_
    rintro e w2 ⟨b, rfl, hg, hc⟩
    have H2 := Lib.hid (H.out.draw hg hc)
    clear hg hc H
    cases b with
    | true =>
      go_wp2_with fail
      refine ((IH.out hz w2 B blk H2.out.cur).mono fun e w' h => h.toV).mono ?_
      rintro e w3 ⟨d, cs, fp, hd, hwt, rfl, hD⟩
      obtain ⟨qy0, qy1, qy2, qy3, qy4, qn4, qc4, qy5, qn5, qc5, qy6, qn6, qc6, rfl⟩ := hd.form hD.objs.out.1.read
      have H3 := Lib.hid (H2.out.trans1 hD)
      have HV := Lib.hid (And.intro hd hwt)
      clear hD hd hwt H2
      have hbr := (DrSt.nth (L1 := [_]) H3.out).box
      have r0 := hbr.cellAt 0 (by simp)
      have z0 := hbr.frozenAt 0
      have r1 := hbr.cellAt 1 (by simp)
      have z1 := hbr.frozenAt 1
      have r2 := hbr.cellAt 2 (by simp)
      have z2 := hbr.frozenAt 2
      have r3 := hbr.cellAt 3 (by simp)
      have z3 := hbr.frozenAt 3
      have r4 := hbr.cellAt 4 (by simp)
      have z4 := hbr.frozenAt 4
      have r5 := hbr.cellAt 5 (by simp)
      have z5 := hbr.frozenAt 5
      have r6 := hbr.cellAt 6 (by simp)
      have z6 := hbr.frozenAt 6
      simp at r0 z0 r1 z1 r2 z2 r3 z3 r4 z4 r5 z5 r6 z6
      clear hbr
      go_wp2_with fail
      have hf := (DrSt.nth (L1 := [_]) H3.out).set7 [.int .i64 qy0, .int .i64 qy1, .int .i64 qy2, .string qy3, .slice qy4 qn4 qc4, .slice qy5 qn5 qc5, .slice qy6 qn6 qc6] rfl
      simp only [World.setCells, Nat.zero_add, Nat.reduceAdd] at hf
      generalize (((((((w3.setCell ⟨w.heap.size, 0, none⟩ (.int .i64 qy0)).setCell ⟨w.heap.size, 1, none⟩ (.int .i64 qy1)).setCell ⟨w.heap.size, 2, none⟩ (.int .i64 qy2)).setCell ⟨w.heap.size, 3, none⟩ (.string qy3)).setCell ⟨w.heap.size, 4, none⟩ (.slice qy4 qn4 qc4)).setCell ⟨w.heap.size, 5, none⟩ (.slice qy5 qn5 qc5)).setCell ⟨w.heap.size, 6, none⟩ (.slice qy6 qn6 qc6)) = W7 at hf ⊢
      have hq := hf.box
      have s0 := hq.cellAt 0 (by simp)
      have s1 := hq.cellAt 1 (by simp)
      have s2 := hq.cellAt 2 (by simp)
      have s3 := hq.cellAt 3 (by simp)
      have s4 := hq.cellAt 4 (by simp)
      have s5 := hq.cellAt 5 (by simp)
      have s6 := hq.cellAt 6 (by simp)
      simp at s0 s1 s2 s3 s4 s5 s6
      have HG := Lib.hid (DrSt.first hf.drop)
      clear hf hq H3 r0 z0 r1 z1 r2 z2 r3 z3 r4 z4 r5 z5 r6 z6
      refine bodyPost_ret (v := .agg #[.int .i64 qy0, .int .i64 qy1, .int .i64 qy2, .string qy3, .slice qy4 qn4 qc4, .slice qy5 qn5 qc5, .slice qy6 qn6 qc6]) (by simp [results, Tryz.results91, go_sem, s0, s1, s2, s3, s4, s5, s6]) rfl (show DrawnV _ _ _ _ _ _ from ⟨_, [.int .i64 qy0, .int .i64 qy1, .int .i64 qy2, .string qy3, .slice qy4 qn4 qc4, .slice qy5 qn5 qc5, .slice qy6 qn6 qc6], _, HV.out.1, HV.out.2, rfl, HG.out⟩)
    | false =>
      go_wp2_with fail
      refine (once_any _ B blk 4 H2.out.cur (by omega) (by omega)).mono ?_
      rintro e w3 ⟨b, rfl, hg, hc⟩
      have H3 := Lib.hid (H2.out.draw hg hc)
      clear hg hc H2
      cases b with
      | true =>
        go_wp2_with fail
        refine (drawText_any _ B blk H3.out.cur).mono ?_
        rintro e w4 ⟨t, ht, rfl, hg, hc⟩
        have H4 := Lib.hid (H3.out.draw hg hc)
        clear hg hc H3
        go_wp2_with fail
        refine (specTextValue_any t w4).mono ?_
        rintro e w5 ⟨rfl, hb⟩
        have H5 := Lib.hid ((H4.out.below hb).flat (flatOw 2 0 0 t))
        clear hb H4
        have hbr := (DrSt.nth (L1 := [_]) H5.out).box
        have r0 := hbr.cellAt 0 (by simp)
        have z0 := hbr.frozenAt 0
        have r1 := hbr.cellAt 1 (by simp)
        have z1 := hbr.frozenAt 1
        have r2 := hbr.cellAt 2 (by simp)
        have z2 := hbr.frozenAt 2
        have r3 := hbr.cellAt 3 (by simp)
        have z3 := hbr.frozenAt 3
        have r4 := hbr.cellAt 4 (by simp)
        have z4 := hbr.frozenAt 4
        have r5 := hbr.cellAt 5 (by simp)
        have z5 := hbr.frozenAt 5
        have r6 := hbr.cellAt 6 (by simp)
        have z6 := hbr.frozenAt 6
        simp at r0 z0 r1 z1 r2 z2 r3 z3 r4 z4 r5 z5 r6 z6
        clear hbr
        go_wp2_with fail
        have hf := (DrSt.nth (L1 := [_]) H5.out).set7 [.int .i64 2, .int .i64 0, .int .i64 0, .string t, .slice none 0 0, .slice none 0 0, .slice none 0 0] rfl
        simp only [World.setCells, Nat.zero_add, Nat.reduceAdd] at hf
        generalize (((((((w5.setCell ⟨w.heap.size, 0, none⟩ (.int .i64 2)).setCell ⟨w.heap.size, 1, none⟩ (.int .i64 0)).setCell ⟨w.heap.size, 2, none⟩ (.int .i64 0)).setCell ⟨w.heap.size, 3, none⟩ (.string t)).setCell ⟨w.heap.size, 4, none⟩ (.slice none 0 0)).setCell ⟨w.heap.size, 5, none⟩ (.slice none 0 0)).setCell ⟨w.heap.size, 6, none⟩ (.slice none 0 0)) = W7 at hf ⊢
        have hq := hf.box
        have s0 := hq.cellAt 0 (by simp)
        have s1 := hq.cellAt 1 (by simp)
        have s2 := hq.cellAt 2 (by simp)
        have s3 := hq.cellAt 3 (by simp)
        have s4 := hq.cellAt 4 (by simp)
        have s5 := hq.cellAt 5 (by simp)
        have s6 := hq.cellAt 6 (by simp)
        simp at s0 s1 s2 s3 s4 s5 s6
        have HG := Lib.hid (DrSt.first hf.drop)
        clear hf hq H5 r0 z0 r1 z1 r2 z2 r3 z3 r4 z4 r5 z5 r6 z6
        refine bodyPost_ret (v := .agg #[.int .i64 2, .int .i64 0, .int .i64 0, .string t, .slice none 0 0, .slice none 0 0, .slice none 0 0]) (by simp [results, Tryz.results91, go_sem, s0, s1, s2, s3, s4, s5, s6]) rfl (show DrawnV _ _ _ _ _ _ from ⟨_, [.int .i64 2, .int .i64 0, .int .i64 0, .string t, .slice none 0 0, .slice none 0 0, .slice none 0 0], _, flatVal 2 0 0 t, flatWt 2 0 0 t (Nat.le_trans ht (KL_ge _)), rfl, HG.out⟩)
      | false =>
        go_wp2_with fail
        refine (drawNum_any _ B blk H3.out.cur).mono ?_
        rintro e w4 ⟨x, hx0, hx1, rfl, hg, hc⟩
        have H4 := Lib.hid (H3.out.draw hg hc)
        clear hg hc H3
        go_wp2_with fail
        refine (specNumberValue_any x w4).mono ?_
        rintro e w5 ⟨rfl, hb⟩
        have H5 := Lib.hid ((H4.out.below hb).flat (flatOw 1 x 0 ⟨#[]⟩))
        clear hb H4
        have hbr := (DrSt.nth (L1 := [_]) H5.out).box
        have r0 := hbr.cellAt 0 (by simp)
        have z0 := hbr.frozenAt 0
        have r1 := hbr.cellAt 1 (by simp)
        have z1 := hbr.frozenAt 1
        have r2 := hbr.cellAt 2 (by simp)
        have z2 := hbr.frozenAt 2
        have r3 := hbr.cellAt 3 (by simp)
        have z3 := hbr.frozenAt 3
        have r4 := hbr.cellAt 4 (by simp)
        have z4 := hbr.frozenAt 4
        have r5 := hbr.cellAt 5 (by simp)
        have z5 := hbr.frozenAt 5
        have r6 := hbr.cellAt 6 (by simp)
        have z6 := hbr.frozenAt 6
        simp at r0 z0 r1 z1 r2 z2 r3 z3 r4 z4 r5 z5 r6 z6
        clear hbr
        go_wp2_with fail
        have hf := (DrSt.nth (L1 := [_]) H5.out).set7 [.int .i64 1, .int .i64 x, .int .i64 0, .string ⟨#[]⟩, .slice none 0 0, .slice none 0 0, .slice none 0 0] rfl
        simp only [World.setCells, Nat.zero_add, Nat.reduceAdd] at hf
        generalize (((((((w5.setCell ⟨w.heap.size, 0, none⟩ (.int .i64 1)).setCell ⟨w.heap.size, 1, none⟩ (.int .i64 x)).setCell ⟨w.heap.size, 2, none⟩ (.int .i64 0)).setCell ⟨w.heap.size, 3, none⟩ (.string ⟨#[]⟩)).setCell ⟨w.heap.size, 4, none⟩ (.slice none 0 0)).setCell ⟨w.heap.size, 5, none⟩ (.slice none 0 0)).setCell ⟨w.heap.size, 6, none⟩ (.slice none 0 0)) = W7 at hf ⊢
        have hq := hf.box
        have s0 := hq.cellAt 0 (by simp)
        have s1 := hq.cellAt 1 (by simp)
        have s2 := hq.cellAt 2 (by simp)
        have s3 := hq.cellAt 3 (by simp)
        have s4 := hq.cellAt 4 (by simp)
        have s5 := hq.cellAt 5 (by simp)
        have s6 := hq.cellAt 6 (by simp)
        simp at s0 s1 s2 s3 s4 s5 s6
        have HG := Lib.hid (DrSt.first hf.drop)
        clear hf hq H5 r0 z0 r1 z1 r2 z2 r3 z3 r4 z4 r5 z5 r6 z6
        refine bodyPost_ret (v := .agg #[.int .i64 1, .int .i64 x, .int .i64 0, .string ⟨#[]⟩, .slice none 0 0, .slice none 0 0, .slice none 0 0]) (by simp [results, Tryz.results91, go_sem, s0, s1, s2, s3, s4, s5, s6]) rfl (show DrawnV _ _ _ _ _ _ from ⟨_, [.int .i64 1, .int .i64 x, .int .i64 0, .string ⟨#[]⟩, .slice none 0 0, .slice none 0 0, .slice none 0 0], _, flatVal 1 x 0 ⟨#[]⟩, flatWt 1 x 0 ⟨#[]⟩ (Nat.zero_le _), rfl, HG.out⟩)
  · obtain rfl : m = 0 := by omega
    go_enter Tryz.func91, Tryz.ntmps91
    go_wp2_with fail
    refine (once_any _ B blk 4 H.out.cur (by omega) (by omega)).mono ?_
    rintro e w3 ⟨b, rfl, hg, hc⟩
    have H3 := Lib.hid (H.out.draw hg hc)
    clear hg hc H
    cases b with
    | true =>
      go_wp2_with fail
      refine (drawText_any _ B blk H3.out.cur).mono ?_
      rintro e w4 ⟨t, ht, rfl, hg, hc⟩
      have H4 := Lib.hid (H3.out.draw hg hc)
      clear hg hc H3
      go_wp2_with fail
      refine (specTextValue_any t w4).mono ?_
      rintro e w5 ⟨rfl, hb⟩
      have H5 := Lib.hid ((H4.out.below hb).flat (flatOw 2 0 0 t))
      clear hb H4
      have hbr := (DrSt.nth (L1 := [_]) H5.out).box
      have r0 := hbr.cellAt 0 (by simp)
      have z0 := hbr.frozenAt 0
      have r1 := hbr.cellAt 1 (by simp)
      have z1 := hbr.frozenAt 1
      have r2 := hbr.cellAt 2 (by simp)
      have z2 := hbr.frozenAt 2
      have r3 := hbr.cellAt 3 (by simp)
      have z3 := hbr.frozenAt 3
      have r4 := hbr.cellAt 4 (by simp)
      have z4 := hbr.frozenAt 4
      have r5 := hbr.cellAt 5 (by simp)
      have z5 := hbr.frozenAt 5
      have r6 := hbr.cellAt 6 (by simp)
      have z6 := hbr.frozenAt 6
      simp at r0 z0 r1 z1 r2 z2 r3 z3 r4 z4 r5 z5 r6 z6
      clear hbr
      go_wp2_with fail
      have hf := (DrSt.nth (L1 := [_]) H5.out).set7 [.int .i64 2, .int .i64 0, .int .i64 0, .string t, .slice none 0 0, .slice none 0 0, .slice none 0 0] rfl
      simp only [World.setCells, Nat.zero_add, Nat.reduceAdd] at hf
      generalize (((((((w5.setCell ⟨w.heap.size, 0, none⟩ (.int .i64 2)).setCell ⟨w.heap.size, 1, none⟩ (.int .i64 0)).setCell ⟨w.heap.size, 2, none⟩ (.int .i64 0)).setCell ⟨w.heap.size, 3, none⟩ (.string t)).setCell ⟨w.heap.size, 4, none⟩ (.slice none 0 0)).setCell ⟨w.heap.size, 5, none⟩ (.slice none 0 0)).setCell ⟨w.heap.size, 6, none⟩ (.slice none 0 0)) = W7 at hf ⊢
      have hq := hf.box
      have s0 := hq.cellAt 0 (by simp)
      have s1 := hq.cellAt 1 (by simp)
      have s2 := hq.cellAt 2 (by simp)
      have s3 := hq.cellAt 3 (by simp)
      have s4 := hq.cellAt 4 (by simp)
      have s5 := hq.cellAt 5 (by simp)
      have s6 := hq.cellAt 6 (by simp)
      simp at s0 s1 s2 s3 s4 s5 s6
      have HG := Lib.hid (DrSt.first hf.drop)
      clear hf hq H5 r0 z0 r1 z1 r2 z2 r3 z3 r4 z4 r5 z5 r6 z6
      refine bodyPost_ret (v := .agg #[.int .i64 2, .int .i64 0, .int .i64 0, .string t, .slice none 0 0, .slice none 0 0, .slice none 0 0]) (by simp [results, Tryz.results91, go_sem, s0, s1, s2, s3, s4, s5, s6]) rfl (show DrawnV _ _ _ _ _ _ from ⟨_, [.int .i64 2, .int .i64 0, .int .i64 0, .string t, .slice none 0 0, .slice none 0 0, .slice none 0 0], _, flatVal 2 0 0 t, flatWt 2 0 0 t (Nat.le_trans ht (KL_ge _)), rfl, HG.out⟩)
    | false =>
      go_wp2_with fail
      refine (drawNum_any _ B blk H3.out.cur).mono ?_
      rintro e w4 ⟨x, hx0, hx1, rfl, hg, hc⟩
      have H4 := Lib.hid (H3.out.draw hg hc)
      clear hg hc H3
      go_wp2_with fail
      refine (specNumberValue_any x w4).mono ?_
      rintro e w5 ⟨rfl, hb⟩
      have H5 := Lib.hid ((H4.out.below hb).flat (flatOw 1 x 0 ⟨#[]⟩))
      clear hb H4
      have hbr := (DrSt.nth (L1 := [_]) H5.out).box
      have r0 := hbr.cellAt 0 (by simp)
      have z0 := hbr.frozenAt 0
      have r1 := hbr.cellAt 1 (by simp)
      have z1 := hbr.frozenAt 1
      have r2 := hbr.cellAt 2 (by simp)
      have z2 := hbr.frozenAt 2
      have r3 := hbr.cellAt 3 (by simp)
      have z3 := hbr.frozenAt 3
      have r4 := hbr.cellAt 4 (by simp)
      have z4 := hbr.frozenAt 4
      have r5 := hbr.cellAt 5 (by simp)
      have z5 := hbr.frozenAt 5
      have r6 := hbr.cellAt 6 (by simp)
      have z6 := hbr.frozenAt 6
      simp at r0 z0 r1 z1 r2 z2 r3 z3 r4 z4 r5 z5 r6 z6
      clear hbr
      go_wp2_with fail
      have hf := (DrSt.nth (L1 := [_]) H5.out).set7 [.int .i64 1, .int .i64 x, .int .i64 0, .string ⟨#[]⟩, .slice none 0 0, .slice none 0 0, .slice none 0 0] rfl
      simp only [World.setCells, Nat.zero_add, Nat.reduceAdd] at hf
      generalize (((((((w5.setCell ⟨w.heap.size, 0, none⟩ (.int .i64 1)).setCell ⟨w.heap.size, 1, none⟩ (.int .i64 x)).setCell ⟨w.heap.size, 2, none⟩ (.int .i64 0)).setCell ⟨w.heap.size, 3, none⟩ (.string ⟨#[]⟩)).setCell ⟨w.heap.size, 4, none⟩ (.slice none 0 0)).setCell ⟨w.heap.size, 5, none⟩ (.slice none 0 0)).setCell ⟨w.heap.size, 6, none⟩ (.slice none 0 0)) = W7 at hf ⊢
      have hq := hf.box
      have s0 := hq.cellAt 0 (by simp)
      have s1 := hq.cellAt 1 (by simp)
      have s2 := hq.cellAt 2 (by simp)
      have s3 := hq.cellAt 3 (by simp)
      have s4 := hq.cellAt 4 (by simp)
      have s5 := hq.cellAt 5 (by simp)
      have s6 := hq.cellAt 6 (by simp)
      simp at s0 s1 s2 s3 s4 s5 s6
      have HG := Lib.hid (DrSt.first hf.drop)
      clear hf hq H5 r0 z0 r1 z1 r2 z2 r3 z3 r4 z4 r5 z5 r6 z6
      refine bodyPost_ret (v := .agg #[.int .i64 1, .int .i64 x, .int .i64 0, .string ⟨#[]⟩, .slice none 0 0, .slice none 0 0, .slice none 0 0]) (by simp [results, Tryz.results91, go_sem, s0, s1, s2, s3, s4, s5, s6]) rfl (show DrawnV _ _ _ _ _ _ from ⟨_, [.int .i64 1, .int .i64 x, .int .i64 0, .string ⟨#[]⟩, .slice none 0 0, .slice none 0 0, .slice none 0 0], _, flatVal 1 x 0 ⟨#[]⟩, flatWt 1 x 0 ⟨#[]⟩ (Nat.zero_le _), rfl, HG.out⟩)
end Go.Proofs.YtehipnbielgbeaaGreat
