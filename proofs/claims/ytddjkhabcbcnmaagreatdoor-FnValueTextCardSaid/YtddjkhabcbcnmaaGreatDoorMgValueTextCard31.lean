/-
  Texts that the proof rests on, put together: PvS4, FmtRows, Err, FmtSpec.
-/
import Derived.Test.YtddjkhabcbcnmaaGreatDoorMgValueTextCard30
import Derived.Test.YtddjkhabcbcnmaaGreatDoorMgValueTextCard23
import Derived.Deep.RegionLaw
import Derived.Test.YtddjkhabcbcnmaaGreatDoorMgValueTextCard11
import Derived.Test.YtddjkhabcbcnmaaGreatDoorMgValueTextCard27
import Derived.Test.YtddjkhabcbcnmaaGreatDoorMgValueTextCard19
import Derived.Test.YtddjkhabcbcnmaaGreatDoorMgValueTextCard26
import Derived.Test.YtddjkhabcbcnmaaGreatDoorMgValueTextCard10
import Derived.Test.YtddjkhabcbcnmaaGreatDoorMgValueTextCard12
import Derived.Test.YtddjkhabcbcnmaaGreatDoorMgValueTextCard16
import Derived.Test.YtddjkhabcbcnmaaGreatDoorMgValueTextCard9
/-
  The model reads a table. (Written by genpvs2.py.)
-/

namespace Go.Proofs.YtddjkhabcbcnmaaGreatDoor
open Go.RowKit
set_option linter.unusedVariables false

theorem wt_memL : ∀ {xs : List Dt} {x : Dt}, x ∈ xs → x.wt ≤ wts xs
  | y :: ys, x, h => by
    simp only [wts]
    rcases List.mem_cons.1 h with rfl | h
    · omega
    · have := wt_memL h; omega
theorem lst_le_wt (k n s : Int) (t : ByteArray) (l c r : List Dt) : l.length ≤ (Dt.agg [.int k, .int n, .int s, .str t, .lst l, .lst c, .lst r]).wt := by
  simp only [Dt.wt, wts]; omega
theorem MSt.asRow {w wx : World} {L : List Asn} {l : List Dt} {v : Value} {f : List Nat} (h : MSt w (owA (.lst l) [v] f :: L) wx) : MSt w (owA (.agg [.lst l, .lst []]) [v, .slice none 0 0] (f ++ []) :: L) wx :=
  (MSt.noLst h).swap.alter fun o => (Objs.pair ((Objs.single o).swap.single.swap)).agg
theorem l4Quote_no {L : List UInt8} {i : Nat} {t : List UInt8} (h : pQuote (L.drop i) = (t, none)) (hi : i ≤ L.length) (hL : L.length ≤ 1048576) (w : World) : Calls Tryz.prog 94 #[.string ⟨L.toArray⟩, .int .i64 (i : Int)] w fun e w' => e = .returned (.tuple #[.string ⟨t.toArray⟩, .int .i64 (-1)]) ∧ w = w' := by
  have := l4Quote_any L i w hi hL; rw [h] at this; exact this
theorem l4Quote_at {L : List UInt8} {i j : Nat} {t : List UInt8} (h : pQuote (L.drop i) = (t, some (L.drop j))) (hj : j ≤ L.length) (hi : i ≤ L.length) (hL : L.length ≤ 1048576) (w : World) : Calls Tryz.prog 94 #[.string ⟨L.toArray⟩, .int .i64 (i : Int)] w fun e w' => e = .returned (.tuple #[.string ⟨t.toArray⟩, .int .i64 (j : Int)]) ∧ w = w' := by
  have := l4Quote_any L i w hi hL; rw [h] at this; rw [show posOf L.length (t, some (L.drop j)).2 = (j : Int) from posOf_drop hj] at this; exact this
def ItC (f : Nat) (L : List UInt8) (i : Nat) : Prop := ∀ w : World, Calls Tryz.prog 96 #[.string ⟨L.toArray⟩, .int .i64 (i : Int)] w (ItAns w L.length (pItems (pParse f) (L.drop i)))
theorem ItC.no {f : Nat} {L : List UInt8} {i : Nat} {xs : List Dt} (h : ItC f L i) (he : pItems (pParse f) (L.drop i) = (xs, none)) (w : World) : Calls Tryz.prog 96 #[.string ⟨L.toArray⟩, .int .i64 (i : Int)] w fun e w' => ∃ v fp, e = .returned (.tuple #[v, .int .i64 (-1)]) ∧ MSt w [owA (.lst xs) [v] fp] w' := by
  have := h w; rw [he] at this; exact this
theorem ItC.at {f : Nat} {L : List UInt8} {i j : Nat} {xs : List Dt} (h : ItC f L i) (he : pItems (pParse f) (L.drop i) = (xs, some (L.drop j))) (hj : j ≤ L.length) (w : World) : Calls Tryz.prog 96 #[.string ⟨L.toArray⟩, .int .i64 (i : Int)] w fun e w' => ∃ v fp, e = .returned (.tuple #[v, .int .i64 (j : Int)]) ∧ MSt w [owA (.lst xs) [v] fp] w' := by
  have := h w; rw [he] at this
  refine this.mono ?_
  rintro e w' ⟨v, fp, rfl, hM⟩
  exact ⟨v, fp, by rw [show posOf L.length (xs, some (L.drop j)).2 = (j : Int) from posOf_drop hj], hM⟩
theorem toRow_val (k n s : Int) (t : ByteArray) (l c r : List Dt) : toRow (.agg [.int k, .int n, .int s, .str t, .lst l, .lst c, .lst r]) = .agg [.lst (l.map cellN), .lst []] := rfl
theorem intV_take (ns : List Int) (k : Nat) (h : k < ns.length) : intV (ns.take k) ++ [.int .i64 ns[k]] = intV (ns.take (k + 1)) := by
  unfold intV; rw [List.take_succ_eq_append_getElem h, List.map_append]; rfl
set_option maxHeartbeats 6400000 in
set_option maxRecDepth 100000 in
theorem l4Table_of (f : Nat) (L : List UInt8) (i : Nat) (hi : i ≤ L.length) (hL : L.length ≤ 1048576) (hP : ∀ j, i ≤ j → j ≤ L.length → ItC f L j) (w : World) :
    Calls Tryz.prog 98 #[.string ⟨L.toArray⟩, .int .i64 (i : Int)] w (PvAns w L.length (pTable (pParse f) (L.drop i))) := by
  have HP := Lib.hid hP
  clear hP
  have H := Lib.hid ((MSt.start w).new 28 7 #[.int .i64 0, .int .i64 0, .int .i64 0, .string ⟨#[]⟩, .slice none 0 0, .slice none 0 0, .slice none 0 0] rfl)
  obtain ⟨nm, o1, h1⟩ : ∃ n o, pQuote (L.drop i) = (n, o) := ⟨_, _, rfl⟩
  have hnm : nm.length ≤ 1048576 := by have := pQuote_len (L.drop i); rw [h1, List.length_drop] at this; simp only at this; omega
  have hs1 := pQuote_sf (L.drop i)
  rw [h1] at hs1
  rcases posCase hs1 hi with rfl | ⟨j1, hj1, hj1L, rfl⟩
  · have HO := Lib.hid (table_1 (P := pParse f) h1)
    have HQ := Lib.hid (fun W => l4Quote_no h1 hi hL W)
    clear h1 hs1
    go_enter Tryz.func98, Tryz.ntmps98
    go_wp2_with fail
    refine (HQ.out _).mono ?_
    rintro e w1 ⟨rfl, rfl⟩
    generalize w.alloc (.cells #[.int .i64 0, .int .i64 0, .int .i64 0, .string ⟨#[]⟩, .slice none 0 0, .slice none 0 0, .slice none 0 0] 28) = w1 at H ⊢
    have hbr := (MSt.nth (L1 := []) H.out).box
    have r0 := hbr.cellAt 0 (by simp)
    have rz0 := hbr.frozenAt 0
    have r1 := hbr.cellAt 1 (by simp)
    have rz1 := hbr.frozenAt 1
    have r2 := hbr.cellAt 2 (by simp)
    have rz2 := hbr.frozenAt 2
    have r3 := hbr.cellAt 3 (by simp)
    have rz3 := hbr.frozenAt 3
    have r4 := hbr.cellAt 4 (by simp)
    have rz4 := hbr.frozenAt 4
    have r5 := hbr.cellAt 5 (by simp)
    have rz5 := hbr.frozenAt 5
    have r6 := hbr.cellAt 6 (by simp)
    have rz6 := hbr.frozenAt 6
    have hlr := (hbr.lt _ rfl).2
    simp at r0 rz0 r1 rz1 r2 rz2 r3 rz3 r4 rz4 r5 rz5 r6 rz6
    clear hbr
    go_wp2_with fail
    have HZ := Lib.hid (MSt.flat H.out ow_vZero)
    clear H
    have hf := (MSt.nth (L1 := [_]) HZ.out).set7 [.int .i64 0, .int .i64 0, .int .i64 0, .string ⟨#[]⟩, .slice none 0 0, .slice none 0 0, .slice none 0 0] rfl
    simp only [World.setCells, Nat.zero_add, Nat.reduceAdd] at hf
    generalize (((((((w1.setCell ⟨w.heap.size, 0, none⟩ (.int .i64 0)).setCell ⟨w.heap.size, 1, none⟩ (.int .i64 0)).setCell ⟨w.heap.size, 2, none⟩ (.int .i64 0)).setCell ⟨w.heap.size, 3, none⟩ (.string ⟨#[]⟩)).setCell ⟨w.heap.size, 4, none⟩ (.slice none 0 0)).setCell ⟨w.heap.size, 5, none⟩ (.slice none 0 0)).setCell ⟨w.heap.size, 6, none⟩ (.slice none 0 0)) = W7 at hf ⊢
    have hq := hf.box
    have s0 := hq.cellAt 0 (by simp)
    have s1 := hq.cellAt 1 (by simp)
    have s2 := hq.cellAt 2 (by simp)
    have s3 := hq.cellAt 3 (by simp)
    have s4 := hq.cellAt 4 (by simp)
    have s5 := hq.cellAt 5 (by simp)
    have s6 := hq.cellAt 6 (by simp)
    simp at s0 s1 s2 s3 s4 s5 s6
    have HG := Lib.hid (MSt.first hf.drop)
    clear hf hq HZ r0 rz0 r1 rz1 r2 rz2 r3 rz3 r4 rz4 r5 rz5 r6 rz6 hlr
    refine bodyPost_ret (v := .tuple #[.agg #[.int .i64 0, .int .i64 0, .int .i64 0, .string ⟨#[]⟩, .slice none 0 0, .slice none 0 0, .slice none 0 0], .int .i64 (-1)]) (by simp [results, Tryz.results98, go_sem, s0, s1, s2, s3, s4, s5, s6]) rfl (pvAns_no (HO.out) HG.out)
  · have HQ := Lib.hid (fun W => l4Quote_at h1 hj1L hi hL W)
    cases h2 : [44, 32, 91].isPrefixOf (L.drop j1) with
    | false =>
      have HO := Lib.hid (table_2 (P := pParse f) h1 h2)
      have HS := Lib.hid (fun W => starts_is [44, 32, 91] h2 hj1L hL (by decide) W)
      clear h1 hs1 h2
      go_enter Tryz.func98, Tryz.ntmps98
      go_wp2_with fail
      refine (HQ.out _).mono ?_
      rintro e w1 ⟨rfl, rfl⟩
      generalize w.alloc (.cells #[.int .i64 0, .int .i64 0, .int .i64 0, .string ⟨#[]⟩, .slice none 0 0, .slice none 0 0, .slice none 0 0] 28) = w1 at H ⊢
      go_wp2_with fail
      refine (HS.out _).mono ?_
      rintro e w1 ⟨rfl, rfl⟩
      have hbr := (MSt.nth (L1 := []) H.out).box
      have r0 := hbr.cellAt 0 (by simp)
      have rz0 := hbr.frozenAt 0
      have r1 := hbr.cellAt 1 (by simp)
      have rz1 := hbr.frozenAt 1
      have r2 := hbr.cellAt 2 (by simp)
      have rz2 := hbr.frozenAt 2
      have r3 := hbr.cellAt 3 (by simp)
      have rz3 := hbr.frozenAt 3
      have r4 := hbr.cellAt 4 (by simp)
      have rz4 := hbr.frozenAt 4
      have r5 := hbr.cellAt 5 (by simp)
      have rz5 := hbr.frozenAt 5
      have r6 := hbr.cellAt 6 (by simp)
      have rz6 := hbr.frozenAt 6
      have hlr := (hbr.lt _ rfl).2
      simp at r0 rz0 r1 rz1 r2 rz2 r3 rz3 r4 rz4 r5 rz5 r6 rz6
      clear hbr
      go_wp2_with fail
      have HZ := Lib.hid (MSt.flat H.out ow_vZero)
      clear H
      have hf := (MSt.nth (L1 := [_]) HZ.out).set7 [.int .i64 0, .int .i64 0, .int .i64 0, .string ⟨#[]⟩, .slice none 0 0, .slice none 0 0, .slice none 0 0] rfl
      simp only [World.setCells, Nat.zero_add, Nat.reduceAdd] at hf
      generalize (((((((w1.setCell ⟨w.heap.size, 0, none⟩ (.int .i64 0)).setCell ⟨w.heap.size, 1, none⟩ (.int .i64 0)).setCell ⟨w.heap.size, 2, none⟩ (.int .i64 0)).setCell ⟨w.heap.size, 3, none⟩ (.string ⟨#[]⟩)).setCell ⟨w.heap.size, 4, none⟩ (.slice none 0 0)).setCell ⟨w.heap.size, 5, none⟩ (.slice none 0 0)).setCell ⟨w.heap.size, 6, none⟩ (.slice none 0 0)) = W7 at hf ⊢
      have hq := hf.box
      have s0 := hq.cellAt 0 (by simp)
      have s1 := hq.cellAt 1 (by simp)
      have s2 := hq.cellAt 2 (by simp)
      have s3 := hq.cellAt 3 (by simp)
      have s4 := hq.cellAt 4 (by simp)
      have s5 := hq.cellAt 5 (by simp)
      have s6 := hq.cellAt 6 (by simp)
      simp at s0 s1 s2 s3 s4 s5 s6
      have HG := Lib.hid (MSt.first hf.drop)
      clear hf hq HZ r0 rz0 r1 rz1 r2 rz2 r3 rz3 r4 rz4 r5 rz5 r6 rz6 hlr
      refine bodyPost_ret (v := .tuple #[.agg #[.int .i64 0, .int .i64 0, .int .i64 0, .string ⟨#[]⟩, .slice none 0 0, .slice none 0 0, .slice none 0 0], .int .i64 (-1)]) (by simp [results, Tryz.results98, go_sem, s0, s1, s2, s3, s4, s5, s6]) rfl (pvAns_no (HO.out) HG.out)
    | true =>
      have hj2 : j1 + 3 ≤ L.length := by have := pre_le h2; simp at this; omega
      have HS := Lib.hid (fun W => starts_is [44, 32, 91] h2 hj1L hL (by decide) W)
      obtain ⟨xs, o2, h3⟩ : ∃ n o, pItems (pParse f) (L.drop (j1 + 3)) = (n, o) := ⟨_, _, rfl⟩
      have hs2 := pItems_sf (pParse_sf f) (L.drop (j1 + 3))
      rw [h3] at hs2
      have h3d : pItems (pParse f) ((L.drop j1).drop 3) = (xs, o2) := by rw [List.drop_drop]; exact h3
      have hxv := pItems_val (fun l => (pParse_val f l).1) (L.drop (j1 + 3))
      rw [h3] at hxv
      rcases posCase hs2 hj2 with rfl | ⟨j2, hj2a, hj2L, rfl⟩
      · have HO := Lib.hid (table_3 h1 h2 h3d)
        have HI2 := Lib.hid (fun W => (HP.out (j1 + 3) (by omega) hj2).no h3 W)
        clear h1 hs1 h2 h3 h3d hs2 hxv
        go_enter Tryz.func98, Tryz.ntmps98
        go_wp2_with fail
        refine (HQ.out _).mono ?_
        rintro e w1 ⟨rfl, rfl⟩
        generalize w.alloc (.cells #[.int .i64 0, .int .i64 0, .int .i64 0, .string ⟨#[]⟩, .slice none 0 0, .slice none 0 0, .slice none 0 0] 28) = w1 at H ⊢
        go_wp2_with fail
        refine (HS.out _).mono ?_
        rintro e w1 ⟨rfl, rfl⟩
        go_wp2_with fail
        refine (HI2.out _).mono ?_
        rintro e w2 ⟨v8, f8, rfl, hM⟩
        have H2 := Lib.hid (H.out.trans hM)
        clear hM H
        have hbr := (MSt.nth (L1 := [_]) H2.out).box
        have r0 := hbr.cellAt 0 (by simp)
        have rz0 := hbr.frozenAt 0
        have r1 := hbr.cellAt 1 (by simp)
        have rz1 := hbr.frozenAt 1
        have r2 := hbr.cellAt 2 (by simp)
        have rz2 := hbr.frozenAt 2
        have r3 := hbr.cellAt 3 (by simp)
        have rz3 := hbr.frozenAt 3
        have r4 := hbr.cellAt 4 (by simp)
        have rz4 := hbr.frozenAt 4
        have r5 := hbr.cellAt 5 (by simp)
        have rz5 := hbr.frozenAt 5
        have r6 := hbr.cellAt 6 (by simp)
        have rz6 := hbr.frozenAt 6
        have hlr := (hbr.lt _ rfl).2
        simp at r0 rz0 r1 rz1 r2 rz2 r3 rz3 r4 rz4 r5 rz5 r6 rz6
        clear hbr
        go_wp2_with fail
        have HZ := Lib.hid (MSt.flat H2.out ow_vZero)
        clear H2
        have hf := (MSt.nth (L1 := [_, _]) HZ.out).set7 [.int .i64 0, .int .i64 0, .int .i64 0, .string ⟨#[]⟩, .slice none 0 0, .slice none 0 0, .slice none 0 0] rfl
        simp only [World.setCells, Nat.zero_add, Nat.reduceAdd] at hf
        generalize (((((((w2.setCell ⟨w.heap.size, 0, none⟩ (.int .i64 0)).setCell ⟨w.heap.size, 1, none⟩ (.int .i64 0)).setCell ⟨w.heap.size, 2, none⟩ (.int .i64 0)).setCell ⟨w.heap.size, 3, none⟩ (.string ⟨#[]⟩)).setCell ⟨w.heap.size, 4, none⟩ (.slice none 0 0)).setCell ⟨w.heap.size, 5, none⟩ (.slice none 0 0)).setCell ⟨w.heap.size, 6, none⟩ (.slice none 0 0)) = W7 at hf ⊢
        have hq := hf.box
        have s0 := hq.cellAt 0 (by simp)
        have s1 := hq.cellAt 1 (by simp)
        have s2 := hq.cellAt 2 (by simp)
        have s3 := hq.cellAt 3 (by simp)
        have s4 := hq.cellAt 4 (by simp)
        have s5 := hq.cellAt 5 (by simp)
        have s6 := hq.cellAt 6 (by simp)
        simp at s0 s1 s2 s3 s4 s5 s6
        have HG := Lib.hid (MSt.first hf.drop)
        clear hf hq HZ r0 rz0 r1 rz1 r2 rz2 r3 rz3 r4 rz4 r5 rz5 r6 rz6 hlr
        refine bodyPost_ret (v := .tuple #[.agg #[.int .i64 0, .int .i64 0, .int .i64 0, .string ⟨#[]⟩, .slice none 0 0, .slice none 0 0, .slice none 0 0], .int .i64 (-1)]) (by simp [results, Tryz.results98, go_sem, s0, s1, s2, s3, s4, s5, s6]) rfl (pvAns_no (HO.out) HG.out)
      · have HI2 := Lib.hid (fun W => (HP.out (j1 + 3) (by omega) hj2).at h3 hj2L W)
        cases h4 : [41].isPrefixOf (L.drop j2) with
        | false =>
          have HO := Lib.hid (table_4 h1 h2 h3d h4)
          have HS2 := Lib.hid (fun W => starts_is [41] h4 hj2L hL (by decide) W)
          clear h1 hs1 h2 h3 h3d hs2 h4 hxv
          go_enter Tryz.func98, Tryz.ntmps98
          go_wp2_with fail
          refine (HQ.out _).mono ?_
          rintro e w1 ⟨rfl, rfl⟩
          generalize w.alloc (.cells #[.int .i64 0, .int .i64 0, .int .i64 0, .string ⟨#[]⟩, .slice none 0 0, .slice none 0 0, .slice none 0 0] 28) = w1 at H ⊢
          go_wp2_with fail
          refine (HS.out _).mono ?_
          rintro e w1 ⟨rfl, rfl⟩
          go_wp2_with fail
          refine (HI2.out _).mono ?_
          rintro e w2 ⟨v8, f8, rfl, hM⟩
          obtain ⟨A8, c8, e8, hrd⟩ := hM.read.lst_form
          injection e8 with e8 _
          subst e8
          have HRD := Lib.hid hrd
          have H2 := Lib.hid (H.out.trans hM)
          clear hM H hrd
          go_wp2_with fail
          refine (HS2.out _).mono ?_
          rintro e w2 ⟨rfl, rfl⟩
          have hbr := (MSt.nth (L1 := [_]) H2.out).box
          have r0 := hbr.cellAt 0 (by simp)
          have rz0 := hbr.frozenAt 0
          have r1 := hbr.cellAt 1 (by simp)
          have rz1 := hbr.frozenAt 1
          have r2 := hbr.cellAt 2 (by simp)
          have rz2 := hbr.frozenAt 2
          have r3 := hbr.cellAt 3 (by simp)
          have rz3 := hbr.frozenAt 3
          have r4 := hbr.cellAt 4 (by simp)
          have rz4 := hbr.frozenAt 4
          have r5 := hbr.cellAt 5 (by simp)
          have rz5 := hbr.frozenAt 5
          have r6 := hbr.cellAt 6 (by simp)
          have rz6 := hbr.frozenAt 6
          have hlr := (hbr.lt _ rfl).2
          simp at r0 rz0 r1 rz1 r2 rz2 r3 rz3 r4 rz4 r5 rz5 r6 rz6
          clear hbr
          go_wp2_with fail
          have HZ := Lib.hid (MSt.flat H2.out ow_vZero)
          clear H2
          have hf := (MSt.nth (L1 := [_, _]) HZ.out).set7 [.int .i64 0, .int .i64 0, .int .i64 0, .string ⟨#[]⟩, .slice none 0 0, .slice none 0 0, .slice none 0 0] rfl
          simp only [World.setCells, Nat.zero_add, Nat.reduceAdd] at hf
          generalize (((((((w2.setCell ⟨w.heap.size, 0, none⟩ (.int .i64 0)).setCell ⟨w.heap.size, 1, none⟩ (.int .i64 0)).setCell ⟨w.heap.size, 2, none⟩ (.int .i64 0)).setCell ⟨w.heap.size, 3, none⟩ (.string ⟨#[]⟩)).setCell ⟨w.heap.size, 4, none⟩ (.slice none 0 0)).setCell ⟨w.heap.size, 5, none⟩ (.slice none 0 0)).setCell ⟨w.heap.size, 6, none⟩ (.slice none 0 0)) = W7 at hf ⊢
          have hq := hf.box
          have s0 := hq.cellAt 0 (by simp)
          have s1 := hq.cellAt 1 (by simp)
          have s2 := hq.cellAt 2 (by simp)
          have s3 := hq.cellAt 3 (by simp)
          have s4 := hq.cellAt 4 (by simp)
          have s5 := hq.cellAt 5 (by simp)
          have s6 := hq.cellAt 6 (by simp)
          simp at s0 s1 s2 s3 s4 s5 s6
          have HG := Lib.hid (MSt.first hf.drop)
          clear hf hq HZ r0 rz0 r1 rz1 r2 rz2 r3 rz3 r4 rz4 r5 rz5 r6 rz6 hlr
          refine bodyPost_ret (v := .tuple #[.agg #[.int .i64 0, .int .i64 0, .int .i64 0, .string ⟨#[]⟩, .slice none 0 0, .slice none 0 0, .slice none 0 0], .int .i64 (-1)]) (by simp [results, Tryz.results98, go_sem, s0, s1, s2, s3, s4, s5, s6]) rfl (pvAns_no (HO.out) HG.out)
        | true =>
          have hj3 : j2 + 1 ≤ L.length := by have := pre_le h4; simp at this; omega
          have hwt : xs.length + wts xs ≤ 1048576 := by have := pItems_wt (pParse_wt f) h3; simp only [List.length_drop] at this; omega
          have HO := Lib.hid (table_5 h1 h2 h3d h4)
          have HS2 := Lib.hid (fun W => starts_is [41] h4 hj2L hL (by decide) W)
          have HXV := Lib.hid hxv
          clear h1 hs1 h2 h3 h3d hs2 h4 hxv
          go_enter Tryz.func98, Tryz.ntmps98
          go_wp2_with fail
          refine (HQ.out _).mono ?_
          rintro e w1 ⟨rfl, rfl⟩
          generalize w.alloc (.cells #[.int .i64 0, .int .i64 0, .int .i64 0, .string ⟨#[]⟩, .slice none 0 0, .slice none 0 0, .slice none 0 0] 28) = w1 at H ⊢
          go_wp2_with fail
          refine (HS.out _).mono ?_
          rintro e w1 ⟨rfl, rfl⟩
          go_wp2_with fail
          refine (HI2.out _).mono ?_
          rintro e w2 ⟨v8, f8, rfl, hM⟩
          obtain ⟨A8, c8, e8, hrd⟩ := hM.read.lst_form
          injection e8 with e8 _
          subst e8
          have HRD := Lib.hid hrd
          have H2 := Lib.hid (H.out.trans hM)
          clear hM H hrd
          go_wp2_with fail
          refine (HS2.out _).mono ?_
          rintro e w2 ⟨rfl, rfl⟩
          have hsp := specSplit_any nm 32 w2 hnm
          rw [show ((32 : UInt8).toNat : Int) = 32 from rfl] at hsp
          have HSP := Lib.hid hsp
          clear hsp
          go_wp2_with fail
          refine HSP.out.mono ?_
          rintro e w3 ⟨v5, rfl, hown, hb⟩
          obtain ⟨A5, c5, rfl⟩ := own_slice hown
          obtain ⟨cc, hcc⟩ : ∃ cc, cc = pcsB 32 nm := ⟨_, rfl⟩
          rw [← hcc] at hown
          have h5 := ((MSt.start w2).add hb (rowA_at hown)).new 28 7 #[.int .i64 5, .int .i64 0, .int .i64 0, .string ⟨#[]⟩, .slice none 0 0, .slice A5 cc.length c5, .slice none 0 0] rfl
          have H5 := Lib.hid (h5.nilRow 65 2)
          clear hown hb h5
          rw [← hcc]
          have HCC := Lib.hid hcc
          clear hcc
          go_wp2_with fail
          generalize w3.alloc (.cells #[.int .i64 5, .int .i64 0, .int .i64 0, .string ⟨#[]⟩, .slice none 0 0, .slice A5 cc.length c5, .slice none 0 0] 28) = w5 at H5 ⊢
          generalize w3.heap.size = bv at H5 ⊢
          go_loopw [11] (fun t wr => ∃ (j q6 : Nat) (A6 : Option Addr) (cl : List Value) (fp : List Nat), j ≤ xs.length ∧ t = .int .i64 (j : Int) ∧ MSt w2 [rowA 65 2 (.slice A6 j q6) j cl, owLA ((xs.take j).map toRow) cl fp, boxA 28 7 bv [.int .i64 5, .int .i64 0, .int .i64 0, .string ⟨#[]⟩, .slice none 0 0, .slice A5 cc.length c5, .slice A6 j q6], rowA 9 1 (.slice A5 cc.length c5) cc.length (strV cc)] wr) (fun t _ => xs.length - (intOf t).toNat)
          case atStart => exact ⟨0, 0, none, [], [], Nat.zero_le _, rfl, H5.out⟩
          case round =>
            obtain ⟨j, q6, A6, cl, fp, hj, rfl, hS⟩ := hrel
            obtain ⟨wo, rfl⟩ : ∃ wo, wo = wr := ⟨_, rfl⟩
            by_cases hlt : j < xs.length
            · obtain ⟨b, o, cs, rfl, hbB, hrd, hlen, hcell⟩ := HRD.out.at (k := 7) (fun x hx => (HXV.out x hx).width) (by omega) j hlt
              have hxj := HXV.out _ (List.getElem_mem hlt)
              have hwj := wt_memL (List.getElem_mem hlt)
              have hnx : (xs.take (j + 1)).map toRow = (xs.take j).map toRow ++ [toRow xs[j]] := by rw [List.take_succ_eq_append_getElem hlt, List.map_append]; rfl
              generalize xs[j] = xj at hrd hxj hwj hnx
              obtain ⟨k4, n4, s4, t4, l, c4, r4, hl4, -⟩ := hxj
              obtain ⟨B4, d4, B5, d5, B6, d6, rfl, g4, -, -⟩ := Rd.ofValue hrd
              rw [toRow_val] at hnx
              obtain ⟨ns, hns, hnsl⟩ := cells_ints l
              have hll : l.length ≤ 1048576 := by have := lst_le_wt k4 n4 s4 t4 l (c4.map .str) r4; omega
              have h04 := (hS.bel.cell (p := ⟨b, o + j * 7 + 4, none⟩) hbB).trans (hcell 4 (by omega))
              simp only [List.getElem?_cons_succ, List.getElem?_cons_zero] at h04
              have HX := Lib.hid (And.intro g4 (And.intro hns (And.intro hnx hl4)))
              have hsz := hS.size
              have HS0 := Lib.hid hS
              have H04 := Lib.hid h04
              clear g4 hns hnx hl4 hrd hlen hcell hwj hS
              go_wp2_with fail
              have h6 := (HS0.out.new 65 2 #[.slice none 0 0, .slice none 0 0] rfl).nilRow0 3 1
              have H6 := Lib.hid h6
              clear h6
              go_loopw [13] (fun t wr => ∃ (k q9 : Nat) (A9 : Option Addr), k ≤ l.length ∧ t = .int .i64 (k : Int) ∧ wo.heap.size < wr.heap.size ∧ wr.cell? ⟨b, o + j * 7 + 4, none⟩ = some (.slice B4 l.length d4) ∧ MSt w2 [rowA 3 1 (.slice A9 k q9) k (intV (ns.take k)), boxA 65 2 wo.heap.size [.slice A9 k q9, .slice none 0 0], rowA 65 2 (.slice A6 j q6) j cl, owLA ((xs.take j).map toRow) cl fp, boxA 28 7 bv [.int .i64 5, .int .i64 0, .int .i64 0, .string ⟨#[]⟩, .slice none 0 0, .slice A5 cc.length c5, .slice A6 j q6], rowA 9 1 (.slice A5 cc.length c5) cc.length (strV cc)] wr) (fun t _ => l.length - (intOf t).toNat)
              case atStart => exact ⟨0, 0, none, Nat.zero_le _, rfl, by simp, (((Below.refl _ _).alloc (Nat.le_refl _) _).cell (p := ⟨b, o + j * 7 + 4, none⟩) (by show b < _; omega)).trans h04, H6.out⟩
              case round =>
                clear h04
                obtain ⟨k, q9, A9, hk, rfl, hwo, h04, hS1⟩ := hrel
                have hbx := hS1.swap.box
                have x0 := hbx.cellAt 0 (by simp)
                have x1 := hbx.cellAt 1 (by simp)
                simp at x0 x1
                have hs1 := hS1.size
                have HS1 := Lib.hid hS1
                clear hbx
                by_cases hlt1 : k < l.length
                · obtain ⟨b1, o1, cs1, rfl, hb1, hrd1, hlen1, hcell1⟩ := HX.out.1.at (k := 7) (fun x hx => (HX.out.2.2.2 x hx).width) (by omega) k hlt1
                  have hlk := HX.out.2.2.2 _ (List.getElem_mem hlt1)
                  have hck : cellN l[k] = .int ns[k] := by have h9 := congrArg (fun z => z[k]?) HX.out.2.1; simp only [List.getElem?_map, List.getElem?_eq_getElem hlt1, List.getElem?_eq_getElem (show k < ns.length by omega), Option.map_some] at h9; exact Option.some.inj h9
                  have hnx1 := intV_take ns k (by omega)
                  generalize hnk : ns[k] = nk at hck hnx1
                  clear hnk
                  generalize l[k] = lk at hrd1 hlk hck
                  obtain ⟨k7, n7, s7, t7, l7, c7, r7, -, -⟩ := hlk
                  obtain ⟨C4, e4, C5, e5, C6, e6, rfl, -, -, -⟩ := Rd.ofValue hrd1
                  obtain rfl : n7 = nk := by simpa [cellN] using hck
                  have h17 := (hS1.bel.cell (p := ⟨b1, o1 + k * 7 + 1, none⟩) hb1).trans (hcell1 1 (by omega))
                  simp only [List.getElem?_cons_succ, List.getElem?_cons_zero] at h17
                  have HN := Lib.hid hnx1
                  clear hS1 hnx1 hrd1 hlen1 hcell1 hck
                  go_wp2_with fail
                  go_region_law (first
                    | (refine stepI _ (by rfl) (.tmp 66) (.tmp 76) (by rfl) w2.heap.size (.slice A9 k q9) k (intV (ns.take k)) (by rfl) (by exact (HS1.out.drew.alloc _).row) (some ⟨wr.heap.size, 0, none⟩) 1 1 (wr.heap.size + 1) [.int .i64 n7] (by rfl) rfl (row_new wr.drew #[.int .i64 n7] 3) (fun u hu => by simp at hu; subst hu; rfl) (by omega) (by simp; omega) ?_
                       intro v2 w7 hown2 hgr2 hn2
                       obtain ⟨A2, q2, rfl⟩ := own_slice hown2
                       have hC2 := (HS1.out.drew.alloc (.cells #[.int .i64 n7] 3)).app hgr2 hown2 hn2.2
                       have hbz := hC2.swap.box
                       have z0 := hbz.cellAt 0 (by simp)
                       have f0 := hbz.frozenAt 0
                       simp at z0 f0
                       have HC2 := Lib.hid hC2
                       clear hC2 hown2 hgr2 hn2 hbz)
                    | fail)
                  all_goals
                    have h3 := (HC2.out.swap.set1 0 (.slice A2 (k + 1) q2)).swap
                    rw [HN.out] at h3
                    have H3 := Lib.hid h3
                    clear HC2 h3 HS1
                    go_wp2_with fail
                    have hbq := HRD.out.lst_len
                    refine ⟨⟨k + 1, q2, A2, by omega, by go_num, ?_, ?_, H3.out⟩, by simp [intOf]; omega⟩
                    · have := (H3.out.swap.box.lt _ rfl).2; exact this
                    · exact (H3.out.bel.cell (p := ⟨b, o + j * 7 + 4, none⟩) hbB).trans ((HS0.out.bel.cell (p := ⟨b, o + j * 7 + 4, none⟩) hbB).symm.trans H04.out)
                · obtain rfl : k = l.length := by omega
                  have h7 := (HS1.out.close0 (xs := ns.map .int) (fun w' => by rw [List.take_of_length_le (by omega)]; exact OwL.ints w' ns) (by simpa using hnsl.symm)).asRow
                  have H8 := Lib.hid h7.swap.drop.swap
                  have hmy := (MSt.nth (L1 := [_, _, _]) H8.out).box
                  have y6 := hmy.cellAt 6 (by simp)
                  have yz6 := hmy.frozenAt 6
                  simp at y6 yz6
                  have hly := (hmy.lt _ rfl).2
                  clear hmy
                  clear h7 hS1 HS1
                  go_wp2_with (at_builtin; refine appR _ rfl (.tmp 80) (.tmp 82) rfl w2.heap.size (.slice A6 j q6) j cl rfl (H8.out.row.alloc _) (some ⟨wr.heap.size, 0, none⟩) 1 1 (wr.heap.size + 1) [.slice A9 l.length q9, .slice none 0 0] rfl rfl (row_new wr #[.slice A9 l.length q9, .slice none 0 0] 65) (fun u hu => by simp at hu; rcases hu with rfl | rfl <;> rfl) (by omega) (by simp; omega) ?_; intro v2 w7 hown2 hgr2 hn2; obtain ⟨A2, q2, rfl⟩ := own_slice hown2; have hp3 := ((H8.out.alloc (.cells #[.slice A9 l.length q9, .slice none 0 0] 65)).app hgr2 hown2 hn2.2).push; have hm2 := (MSt.nth (L1 := [_, _]) hp3).box; have y7 := hm2.cellAt 6 (by simp); have z7 := hm2.frozenAt 6; simp at y7 z7; have HP3 := Lib.hid hp3; clear hp3 hm2)
                  have h8 := (MSt.nth (L1 := [_, _]) HP3.out).set1 6 (.slice A2 (j + 1) q2)
                  have h9 := h8.perm (List.perm_middle (l₁ := [_, _]) (l₂ := [_])).symm
                  rw [← HX.out.2.1, ← HX.out.2.2.1] at h9
                  have H9 := Lib.hid h9
                  clear h8 h9 HP3 H8
                  exact ⟨⟨j + 1, q2, A2, _, _, by omega, by go_num, H9.out⟩, by simp [intOf]; omega⟩
            · obtain rfl : j = xs.length := by omega
              rw [List.take_length] at hS
              have h6 := (hS.close (by simp))
              have h7 := (h6.perm (List.reverse_perm [_, _, _]).symm).close0 (xs := cc.map .str) (fun w' => OwL.strs w' cc) (by simp)
              have h8 := (h7.perm (List.Perm.cons _ (List.Perm.swap _ _ _))).noLst.value 5 0 0 ⟨#[]⟩
              have h9 := H2.out.trans h8
              have H9 := Lib.hid h9
              clear h6 h7 h8 h9 hS
              have hbb := (MSt.nth (L1 := [_]) H9.out).box
              have b0 := hbb.cellAt 0 (by simp)
              have b1 := hbb.cellAt 1 (by simp)
              have b2 := hbb.cellAt 2 (by simp)
              have b3 := hbb.cellAt 3 (by simp)
              have b4 := hbb.cellAt 4 (by simp)
              have b5 := hbb.cellAt 5 (by simp)
              have b6 := hbb.cellAt 6 (by simp)
              have hlb := (hbb.lt _ rfl).2
              simp at b0 b1 b2 b3 b4 b5 b6
              clear hbb
              have hbr := (MSt.nth (L1 := [_, _, _]) H9.out).box
              have r0 := hbr.cellAt 0 (by simp)
              have rz0 := hbr.frozenAt 0
              have r1 := hbr.cellAt 1 (by simp)
              have rz1 := hbr.frozenAt 1
              have r2 := hbr.cellAt 2 (by simp)
              have rz2 := hbr.frozenAt 2
              have r3 := hbr.cellAt 3 (by simp)
              have rz3 := hbr.frozenAt 3
              have r4 := hbr.cellAt 4 (by simp)
              have rz4 := hbr.frozenAt 4
              have r5 := hbr.cellAt 5 (by simp)
              have rz5 := hbr.frozenAt 5
              have r6 := hbr.cellAt 6 (by simp)
              have rz6 := hbr.frozenAt 6
              have hlr := (hbr.lt _ rfl).2
              simp at r0 rz0 r1 rz1 r2 rz2 r3 rz3 r4 rz4 r5 rz5 r6 rz6
              clear hbr
              go_wp2_with fail
              clear b0 b1 b2 b3 b4 b5 b6 hlb
              have hf := (MSt.nth (L1 := [_, _, _]) H9.out).set7 [.int .i64 5, .int .i64 0, .int .i64 0, .string ⟨#[]⟩, .slice none 0 0, .slice A5 cc.length c5, .slice A6 xs.length q6] rfl
              simp only [World.setCells, Nat.zero_add, Nat.reduceAdd] at hf
              generalize (((((((wo.setCell ⟨w.heap.size, 0, none⟩ (.int .i64 5)).setCell ⟨w.heap.size, 1, none⟩ (.int .i64 0)).setCell ⟨w.heap.size, 2, none⟩ (.int .i64 0)).setCell ⟨w.heap.size, 3, none⟩ (.string ⟨#[]⟩)).setCell ⟨w.heap.size, 4, none⟩ (.slice none 0 0)).setCell ⟨w.heap.size, 5, none⟩ (.slice A5 cc.length c5)).setCell ⟨w.heap.size, 6, none⟩ (.slice A6 xs.length q6)) = W7 at hf ⊢
              have hq := hf.box
              have s0 := hq.cellAt 0 (by simp)
              have s1 := hq.cellAt 1 (by simp)
              have s2 := hq.cellAt 2 (by simp)
              have s3 := hq.cellAt 3 (by simp)
              have s4 := hq.cellAt 4 (by simp)
              have s5 := hq.cellAt 5 (by simp)
              have s6 := hq.cellAt 6 (by simp)
              simp at s0 s1 s2 s3 s4 s5 s6
              have HG := Lib.hid (MSt.first hf.drop)
              clear hf hq H9 r0 rz0 r1 rz1 r2 rz2 r3 rz3 r4 rz4 r5 rz5 r6 rz6 hlr
              refine bodyPost_ret (v := .tuple #[.agg #[.int .i64 5, .int .i64 0, .int .i64 0, .string ⟨#[]⟩, .slice none 0 0, .slice A5 cc.length c5, .slice A6 xs.length q6], .int .i64 ((j2 : Int) + 1)]) (by simp [results, Tryz.results98, go_sem, s0, s1, s2, s3, s4, s5, s6]) rfl (pvAns_at (j := j2 + 1) (by rw [HO.out, List.drop_drop, HCC.out]; rfl) hj3 (by omega) HG.out)
end Go.Proofs.YtddjkhabcbcnmaaGreatDoor

/-
  impl.listsOfRows: rows as lists of numbers.
-/

namespace Go.Proofs.YtddjkhabcbcnmaaGreatDoor
open Go.RowKit
set_option linter.unusedVariables false

set_option maxHeartbeats 1600000 in
set_option maxRecDepth 100000 in
theorem listsOfRows_any (A : Option Addr) (c : Nat) (r : List Dt) (m : Nat) (hm : m ≤ 4) (hr : ∀ x ∈ r, RowOk m x) (hl : r.length ≤ 12) (w : World) (h : Rd w w.heap.size (.lst r) [.slice A r.length c]) :
    Calls Tryz.prog 65 #[.slice A r.length c] w fun e w' => ∃ A' c', e = .returned (.slice A' r.length c') ∧ Rd w' w'.heap.size (.lst (r.map asLst)) [.slice A' r.length c'] ∧ Below w.heap.size w w' := by
  have hw : ∀ x ∈ r, x.width = 2 := fun x hx => by obtain ⟨ns, os, rfl, _⟩ := hr x hx; rfl
  have H := Lib.hid (And.intro h (And.intro hr hw))
  have HS0 := Lib.hid ((MSt.start w).nilRow 28 7)
  clear h hr hw
  go_enter Tryz.func65, Tryz.ntmps65
  go_wp2_with fail
  go_loopw [3, 11] (fun v i wr => ∃ (j : Nat) (cells : List Value) (fp : List Nat), j ≤ r.length ∧ i = .int .i64 j ∧ MSt w [rowA 28 7 v j cells, owLA ((r.take j).map asLst) cells fp] wr) (fun _ i _ => r.length - (intOf i).toNat)
  case atStart => exact ⟨0, [], [], Nat.zero_le _, rfl, by simpa using HS0.out⟩
  case round =>
    obtain ⟨j, cells, fp, hj, rfl, hS⟩ := hrel
    obtain ⟨wo, rfl⟩ : ∃ wo, wo = wr := ⟨_, rfl⟩
    by_cases hlt : j < r.length
    · obtain ⟨b, o, cs, rfl, hbB, hrd, hlen, hcell⟩ := H.out.1.at (k := 2) (fun x hx' => H.out.2.2 x hx') (by omega) j hlt
      obtain ⟨ns, os, hp, hns, hos, hnum⟩ := H.out.2.1 _ (List.getElem_mem hlt)
      have hnx := (by rw [List.take_succ_eq_append_getElem hlt, List.map_append]; rfl : (r.take (j + 1)).map asLst = (r.take j).map asLst ++ [asLst r[j]])
      rw [hp] at hrd hnx
      obtain ⟨A1, c1, A2, c2, rfl, t1, t2⟩ := Rd.ofRow hrd
      rw [List.length_map] at t1 hcell
      have h00 := (hS.bel.cell (p := ⟨b, o + j * 2 + 0, none⟩) hbB).trans (hcell 0 (by omega))
      have h01 := (hS.bel.cell (p := ⟨b, o + j * 2 + 1, none⟩) hbB).trans (hcell 1 (by omega))
      simp only [List.getElem?_cons_zero, List.getElem?_cons_succ, Nat.add_zero] at h00 h01
      have hsz := hS.bel.size
      have HX := Lib.hid (And.intro hS (And.intro t1.ints (And.intro hnum hnx)))
      have hns4 : ns.length ≤ 4 := by omega
      clear hS t1 t2 hrd hcell hlen hnum hos hp hnx hns
      go_wp2_with fail
      have HB := Lib.hid (((HX.out.1.alloc (.cells #[Value.slice A1 ns.length c1, .slice A2 os.length c2] 65)).nilRow0 28 7))
      go_loopw [6, 18] (fun v1 k wr => ∃ (i : Nat), i ≤ ns.length ∧ k = .int .i64 i ∧ MSt w [rowA 28 7 v1 i (numV (ns.take i)), rowA 28 7 u3 j cells, owLA ((r.take j).map asLst) cells fp] wr) (fun _ i _ => ns.length - (intOf i).toNat)
      case atStart => exact ⟨0, Nat.zero_le _, rfl, by simpa [numV] using HB.out⟩
      case round =>
        obtain ⟨i, hi, rfl, hS1⟩ := hrel
        have hs1 := hS1.bel.size
        obtain ⟨A3, c3, rfl⟩ := own_slice hS1.row
        by_cases hlt1 : i < ns.length
        · have hbl : RowOf wr w.heap.size A1 (intV ns) := HX.out.2.1.below hS1.bel
          have HY := Lib.hid hS1
          obtain ⟨b1, o1, rfl, hb1, hc1⟩ := hbl i _ (intV_get ns i hlt1)
          have hnx1 := numV_next ns i hlt1
          generalize ns[i] = n at hc1 hnx1
          have HN := Lib.hid hnx1
          clear hS1 hbl hnx1
          go_wp2_with fail
          refine (implNumberValue_any n wr).mono ?_
          rintro e w2 ⟨rfl, hb2⟩
          have HY2 := Lib.hid (HY.out.later hb2)
          have hs2 := HY2.out.size
          clear hb2 HY
          go_wp2_with (at_builtin; refine appV _ rfl (.tmp 22) (.tmp 25) rfl w.heap.size _ i (numV (ns.take i)) rfl (HY2.out.row.alloc _) (some ⟨w2.heap.size, 0, none⟩) 1 1 (w2.heap.size + 1) (flatV 1 n 0 ⟨#[]⟩) rfl rfl (row_new w2 (flatV 1 n 0 ⟨#[]⟩).toArray 28) (flat_one _ _ _ _) (by omega) (by simp; omega) ?_; intro v3 w3 hown3 hgr3 hn3)
          have h3 := (HY2.out.alloc (.cells (flatV 1 n 0 ⟨#[]⟩).toArray 28)).app hgr3 hown3 hn3.2
          rw [HN.out] at h3
          have H3 := Lib.hid h3
          clear h3 hown3 hgr3 hn3
          exact ⟨⟨i + 1, by omega, by simp, H3.out⟩, by simp [intOf]; omega⟩
        · obtain rfl : i = ns.length := by omega
          rw [List.take_length] at hS1
          have hv := hS1.close0 (xs := ns.map vNum) (fun w' => ow_numV w' ns) (by simp)
          have HV := Lib.hid (hv.alter fun o => owA_weak o fun w' => ow_lst)
          clear hS1 hv
          go_wp2_with fail
          refine (value3_any 0 0 ⟨#[]⟩ A3 none none ns.length c3 0 0 0 0 wr).mono ?_
          rintro e w2 ⟨rfl, hb2⟩
          have HY2 := Lib.hid (HV.out.later hb2)
          have hs2 := HY2.out.size
          clear hb2 HV
          go_wp2_with (at_builtin; refine appV _ rfl (.tmp 28) (.tmp 32) rfl w.heap.size _ j cells rfl (HY2.out.swap.row.alloc _) (some ⟨w2.heap.size, 0, none⟩) 1 1 (w2.heap.size + 1) [.int .i64 3, .int .i64 0, .int .i64 0, .string ⟨#[]⟩, .slice A3 ns.length c3, .slice none 0 0, .slice none 0 0] rfl rfl (row_new w2 #[.int .i64 3, .int .i64 0, .int .i64 0, .string ⟨#[]⟩, .slice A3 ns.length c3, .slice none 0 0, .slice none 0 0] 28) (fun u hu => by simp at hu; rcases hu with rfl | rfl | rfl | rfl | rfl | rfl | rfl <;> rfl) (by omega) (by simp; omega) ?_; intro v3 w3 hown3 hgr3 hn3)
          have h3 := ((HY2.out.swap.alloc (.cells #[.int .i64 3, .int .i64 0, .int .i64 0, .string ⟨#[]⟩, .slice A3 ns.length c3, .slice none 0 0, .slice none 0 0] 28)).app hgr3 hown3 hn3.2).push
          rw [show (Dt.agg [.int 3, .int 0, .int 0, .str ⟨#[]⟩, .lst (ns.map vNum), .lst [], .lst []]) = asLst (.agg [.lst (ns.map .int), .lst os]) from (asLst_row ns os).symm, ← HX.out.2.2.2] at h3
          have H3 := Lib.hid h3
          clear h3 hown3 hgr3 hn3
          exact ⟨⟨j + 1, _, _, by omega, by simp, H3.out⟩, by simp [intOf]; omega⟩
    · obtain rfl : j = r.length := by omega
      rw [List.take_length] at hS
      obtain ⟨A3, c3, rfl⟩ := own_slice hS.row
      have h1 := hS.close (by simp)
      have HF := Lib.hid (And.intro h1.objs.out.1.read h1.bel)
      clear hS h1
      go_wp2_with fail
      go_ret
      refine ⟨A3, c3, rfl, ?_, HF.out.2⟩
      have := HF.out.1
      exact this
end Go.Proofs.YtddjkhabcbcnmaaGreatDoor

/-
  The errors' names and codes, the model's and the program's.
-/

namespace Go.Proofs.YtddjkhabcbcnmaaGreatDoor
open Go.RowKit
set_option linter.unusedVariables false

theorem eName_none {n : Int} (h : ¬ (1 ≤ n ∧ n ≤ 8)) : eName n = [63] := by unfold eName; rw [if_neg h]
theorem eName_ne (n : Int) : eName n ≠ [] := by
  by_cases h : 1 ≤ n ∧ n ≤ 8
  · have : n = 1 ∨ n = 2 ∨ n = 3 ∨ n = 4 ∨ n = 5 ∨ n = 6 ∨ n = 7 ∨ n = 8 := by omega
    rcases this with rfl | rfl | rfl | rfl | rfl | rfl | rfl | rfl <;> decide
  · rw [eName_none h]; simp
theorem eCode_none {s : List UInt8} (h : ∀ n : Int, 1 ≤ n → n ≤ 8 → eName n ≠ s) : eCode s = 0 := by
  unfold eCode
  rw [if_neg]
  intro hm
  simp only [eNames, List.mem_cons, List.not_mem_nil, or_false] at hm
  rcases hm with rfl | rfl | rfl | rfl | rfl | rfl | rfl | rfl
  · exact h 1 (by omega) (by omega) rfl
  · exact h 2 (by omega) (by omega) rfl
  · exact h 3 (by omega) (by omega) rfl
  · exact h 4 (by omega) (by omega) rfl
  · exact h 5 (by omega) (by omega) rfl
  · exact h 6 (by omega) (by omega) rfl
  · exact h 7 (by omega) (by omega) rfl
  · exact h 8 (by omega) (by omega) rfl

set_option maxHeartbeats 400000 in
set_option maxRecDepth 100000 in
theorem implErrName_any (n : Int) (w : World) : Calls Tryz.prog 66 #[.int .i64 n] w fun e w' => e = .returned (.string ⟨(eName n).toArray⟩) ∧ w' = w := by
  by_cases h : 1 ≤ n ∧ n ≤ 8
  · have : n = 1 ∨ n = 2 ∨ n = 3 ∨ n = 4 ∨ n = 5 ∨ n = 6 ∨ n = 7 ∨ n = 8 := by omega
    rcases this with rfl | rfl | rfl | rfl | rfl | rfl | rfl | rfl
    all_goals
      clear h
      go_enter Tryz.func66, Tryz.ntmps66
      go_wp2_with fail
      go_ret
      exact ⟨rfl, rfl⟩
  · rw [eName_none h]
    have h1 : (n == 1) = false := by rw [beq_eq_false_iff_ne]; omega
    have h2 : (n == 2) = false := by rw [beq_eq_false_iff_ne]; omega
    have h3 : (n == 3) = false := by rw [beq_eq_false_iff_ne]; omega
    have h4 : (n == 4) = false := by rw [beq_eq_false_iff_ne]; omega
    have h5 : (n == 5) = false := by rw [beq_eq_false_iff_ne]; omega
    have h6 : (n == 6) = false := by rw [beq_eq_false_iff_ne]; omega
    have h7 : (n == 7) = false := by rw [beq_eq_false_iff_ne]; omega
    have h8 : (n == 8) = false := by rw [beq_eq_false_iff_ne]; omega
    clear h
    go_enter Tryz.func66, Tryz.ntmps66
    go_wp2_with fail
    go_ret
    exact ⟨rfl, rfl⟩

/-- The model's list of names. -/
def errL : List ByteArray := [] :: eNames |>.map fun l => ⟨l.toArray⟩
set_option maxHeartbeats 400000 in
theorem l4Errors_any (w : World) : Calls Tryz.prog 138 #[] w fun e w' => e = .returned (.slice (some ⟨w.heap.size, 0, none⟩) 9 9) ∧ w.alloc (.cells (strV errL).toArray 9) = w' := by
  go_enter Tryz.func138, Tryz.ntmps138
  go_wp2_with fail
  go_ret
  exact ⟨rfl, rfl⟩
theorem errL_row (w : World) : RowOf (w.alloc (.cells (strV errL).toArray 9)) (w.alloc (.cells (strV errL).toArray 9)).heap.size (some ⟨w.heap.size, 0, none⟩) (strV errL) := by
  intro k v hv
  refine ⟨w.heap.size, 0, rfl, by simp, ?_⟩
  rw [World.cell?_alloc_mark]
  simpa using hv

set_option maxHeartbeats 800000 in
set_option maxRecDepth 100000 in
theorem specErrName_any (n : Int) (w : World) : Calls Tryz.prog 83 #[.int .i64 n] w fun e w' => e = .returned (.string ⟨(eName n).toArray⟩) ∧ Below w.heap.size w w' := by
  by_cases h : 1 ≤ n ∧ n ≤ 8
  · obtain ⟨m, rfl⟩ : ∃ m : Nat, n = m := ⟨n.toNat, by omega⟩
    have hg : (strV errL)[m]? = some (.string ⟨(eName (m : Int)).toArray⟩) := by
      have : m = 1 ∨ m = 2 ∨ m = 3 ∨ m = 4 ∨ m = 5 ∨ m = 6 ∨ m = 7 ∨ m = 8 := by omega
      rcases this with rfl | rfl | rfl | rfl | rfl | rfl | rfl | rfl <;> rfl
    obtain ⟨r, hr⟩ : ∃ r, r = (⟨(eName (m : Int)).toArray⟩ : ByteArray) := ⟨_, rfl⟩
    rw [← hr] at hg ⊢
    have hm : m < 9 := by omega
    have HG := Lib.hid hg
    have HH := Lib.hid h
    clear hr hg h
    go_enter Tryz.func83, Tryz.ntmps83
    go_wp2_with fail
    refine (l1In_any _ 1 8 w).mono ?_
    rintro e w1 ⟨b, rfl, hb, rfl⟩
    obtain rfl : b = true := hb.2 ⟨by have := HH.out; omega, by have := HH.out; omega⟩
    clear hb
    go_wp2_with fail
    refine (l4Errors_any w1).mono ?_
    rintro e w2 ⟨rfl, hw⟩
    have hc : w2.cell? ⟨w1.heap.size, m, none⟩ = some (.string r) := by
      rw [← hw, World.cell?_alloc_mark]
      simpa using HG.out
    have hb : Below w1.heap.size w1 w2 := by rw [← hw]; exact (Below.refl _ _).alloc (Nat.le_refl _) _
    clear hw
    have HB := Lib.hid hb
    clear hb
    go_wp2_with fail
    go_ret
    exact ⟨rfl, HB.out⟩
  · rw [eName_none h]
    go_enter Tryz.func83, Tryz.ntmps83
    go_wp2_with fail
    refine (l1In_any _ 1 8 w).mono ?_
    rintro e w1 ⟨b, rfl, hb, rfl⟩
    obtain rfl : b = false := by
      cases b
      · rfl
      · exact absurd (hb.1 rfl) h
    clear hb h
    go_wp2_with fail
    go_ret
    exact ⟨rfl, Below.refl _ _⟩

set_option maxHeartbeats 800000 in
set_option maxRecDepth 100000 in
theorem implErrCode_any (s : List UInt8) (w : World) : Calls Tryz.prog 72 #[.string ⟨s.toArray⟩] w fun e w' => e = .returned (.int .i64 (eCode s)) ∧ Below w.heap.size w w' := by
  go_enter Tryz.func72, Tryz.ntmps72
  go_wp2_with fail
  go_loopw [3] (fun i wr => ∃ k : Nat, 1 ≤ k ∧ k ≤ 9 ∧ i = .int .i64 k ∧ Hid (∀ n : Int, 1 ≤ n → n < k → eName n ≠ s) ∧ wr = w) (fun i _ => 9 - (intOf i).toNat)
  case atStart => exact ⟨1, Nat.le_refl _, by omega, rfl, Lib.hid (fun n h1 h2 => by omega), rfl⟩
  case round =>
    obtain ⟨k, h1, h9, rfl, hn, rfl⟩ := hrel
    by_cases hlt : k ≤ 8
    · go_wp2_with fail
      refine (implErrName_any (k : Int) wr).mono ?_
      rintro e w1 ⟨rfl, rfl⟩
      by_cases he : eName (k : Int) = s
      · rw [he]
        go_wp2_with fail
        go_ret
        refine ⟨?_, Below.refl _ _⟩
        rw [← he, eCode_name _ (by omega) (by omega)]
        rfl
      · have hb : ((eName (k : Int)) == s) = false := by rw [beq_eq_false_iff_ne]; exact he
        have HE := Lib.hid he
        clear he
        go_wp2_with fail
        refine ⟨⟨k + 1, by omega, by omega, by simp, Lib.hid (fun n h3 h4 => ?_), trivial⟩, by simp [intOf]; omega⟩
        by_cases hk : n = k
        · rw [hk]; exact HE.out
        · exact hn.out n h3 (by omega)
    · go_wp2_with fail
      go_ret
      exact ⟨by rw [eCode_none (fun n h3 h4 => hn.out n h3 (by omega))]; rfl, Below.refl _ _⟩

theorem errL_mem (s : List UInt8) : (⟨s.toArray⟩ : ByteArray) ∈ errL ↔ s = [] ∨ s ∈ eNames := by
  unfold errL
  simp only [List.map_cons, List.mem_cons, List.mem_map]
  constructor
  · rintro (h | ⟨l, hl, h⟩)
    · left
      have := congrArg (fun b : ByteArray => b.data.toList) h
      simpa using this
    · right
      have := congrArg (fun b : ByteArray => b.data.toList) h
      have e : l = s := by simpa using this
      rwa [← e]
  · rintro (rfl | h)
    · exact .inl rfl
    · exact .inr ⟨s, h, rfl⟩
theorem idx_hit : ∀ n : Int, 1 ≤ n → n ≤ 8 → Lib.idxOfS errL ⟨(eName n).toArray⟩ = n := by
  intro n h1 h8
  have : n = 1 ∨ n = 2 ∨ n = 3 ∨ n = 4 ∨ n = 5 ∨ n = 6 ∨ n = 7 ∨ n = 8 := by omega
  rcases this with rfl | rfl | rfl | rfl | rfl | rfl | rfl | rfl <;> decide +kernel
theorem idx_err (s : List UInt8) (hs : s ≠ []) : (0 < Lib.idxOfS errL ⟨s.toArray⟩ ∧ Lib.idxOfS errL ⟨s.toArray⟩ = eCode s) ∨ (Lib.idxOfS errL ⟨s.toArray⟩ < 0 ∧ eCode s = 0) := by
  by_cases h : ∃ n : Int, 1 ≤ n ∧ n ≤ 8 ∧ eName n = s
  · obtain ⟨n, h1, h8, rfl⟩ := h
    rw [idx_hit n h1 h8, eCode_name n h1 h8]
    exact .inl ⟨by omega, rfl⟩
  · have hc := eCode_none (s := s) fun n h1 h8 e => h ⟨n, h1, h8, e⟩
    refine .inr ⟨?_, hc⟩
    have hm : (⟨s.toArray⟩ : ByteArray) ∉ errL := fun hm => by
      rcases (errL_mem s).1 hm with h2 | h2
      · exact hs h2
      · have : eCode s ≠ 0 := by unfold eCode; rw [if_pos h2]; omega
        exact this hc
    have := mt (Lib.idxOfS_nonneg_iff errL ⟨s.toArray⟩).1 hm
    omega
set_option maxHeartbeats 400000 in
theorem l1Max0_any (b : Int) (w : World) : Calls Tryz.prog 139 #[.int .i64 0, .int .i64 b] w fun e w' => e = .returned (.int .i64 (if b < 0 then 0 else b)) ∧ w' = w := by
  by_cases h : b < 0
  · rw [if_pos h]
    go_enter Tryz.func139, Tryz.ntmps139
    go_wp2_with fail
    go_ret
    exact ⟨rfl, rfl⟩
  · rw [if_neg h]
    go_enter Tryz.func139, Tryz.ntmps139
    go_wp2_with fail
    go_ret
    exact ⟨rfl, rfl⟩
set_option maxHeartbeats 800000 in
set_option maxRecDepth 100000 in
theorem specErrCode_any (s : List UInt8) (w : World) : Calls Tryz.prog 100 #[.string ⟨s.toArray⟩] w fun e w' => e = .returned (.int .i64 (eCode s)) ∧ Below w.heap.size w w' := by
  by_cases hs : s = []
  · subst hs
    go_enter Tryz.func100, Tryz.ntmps100
    go_wp2_with fail
    go_ret
    exact ⟨rfl, Below.refl _ _⟩
  · have hb : s.isEmpty = false := by cases s; exact absurd rfl hs; rfl
    have hi := idx_err s hs
    have hE : s ≠ [] := hs
    obtain ⟨x, hx⟩ : ∃ x, x = Lib.idxOfS errL ⟨s.toArray⟩ := ⟨_, rfl⟩
    rw [← hx] at hi
    have HX := Lib.hid (And.intro hx hi)
    clear hx hi
    go_enter Tryz.func100, Tryz.ntmps100
    go_wp2_with fail
    refine (l4Errors_any w).mono ?_
    rintro e w2 ⟨rfl, hw⟩
    have hrow := errL_row w
    rw [hw] at hrow
    have hbel : Below w.heap.size w w2 := by rw [← hw]; exact (Below.refl _ _).alloc (Nat.le_refl _) _
    have HR := Lib.hid (And.intro hrow hbel)
    clear hw hrow hbel
    go_wp2_with fail
    refine (specIndex_any (some ⟨w.heap.size, 0, none⟩) 9 errL ⟨s.toArray⟩ w2.heap.size w2 HR.out.1 (by decide)).mono ?_
    rintro e w3 ⟨rfl, rfl⟩
    rw [← HX.out.1]
    go_wp2_with fail
    refine (l1Max0_any x w3).mono ?_
    rintro e w4 ⟨rfl, rfl⟩
    have hfin : (if x < 0 then 0 else x) = eCode s := by
      rcases HX.out.2 with h | h
      · rw [if_neg (by omega)]; exact h.2
      · rw [if_pos h.1]; exact h.2.symm
    rw [hfin]
    clear hfin
    go_wp2_with fail
    go_ret
    exact ⟨rfl, HR.out.2⟩

end Go.Proofs.YtddjkhabcbcnmaaGreatDoor

/-
  spec.FormatValue: the representation of a value.
-/

namespace Go.Proofs.YtddjkhabcbcnmaaGreatDoor
open Go.RowKit
open Go.Lib (itoa join)
set_option linter.unusedVariables false

theorem take_map_next {α β : Type} (f : α → β) (xs : List α) (j : Nat) (h : j < xs.length) : (xs.take j).map f ++ [f xs[j]] = (xs.take (j + 1)).map f := by
  rw [List.take_succ_eq_append_getElem h, List.map_append]
  rfl
theorem i64_of_ok {n : Int} (h : NumOk n) : -9223372036854775808 ≤ n ∧ n ≤ 9223372036854775807 := by unfold NumOk at h; omega
theorem brk_tb (xs : List (List UInt8)) : (⟨#[91]⟩ : ByteArray) ++ tb (join xs sepC) ++ ⟨#[93]⟩ = tb (brk xs) := by
  apply bytes_inj
  simp [ByteArray.toList_eq, tb, brk]

theorem specFmtT (n : Int) (w : World) (h : NumOk n) : Calls Tryz.prog 80 #[.int .i64 n] w fun e w' => e = .returned (.string (tb (itoa n))) ∧ Below w.heap.size w w' := specFmt_any n w (i64_of_ok h).1 (i64_of_ok h).2
theorem rowTxt_ints (ns : List Int) (os : List Dt) : rowTxt (.agg [.lst (ns.map .int), .lst os]) = brk (ns.map itoa) := by
  simp [rowTxt, List.map_map, Function.comp_def, numTxt]
/-- Join of texts that are few and short. -/
theorem specJoinT {w wr : World} {v : Value} {xs : List (List UInt8)} (sep : List UInt8) (h : RowS w v (xs.map tb) wr) (hk : xs.length ≤ 12) (hx : ∀ x ∈ xs, x.length ≤ 13000) (hs : sep.length ≤ 4) :
    Calls Tryz.prog 81 #[v, .string (tb sep)] wr fun e w' => ∃ q, e = .returned (.string q) ∧ q = tb (join xs sep) ∧ q.size ≤ 1099512676352 ∧ Below wr.heap.size wr w' := by
  obtain ⟨A, c, rfl, _, hr⟩ := h.form
  have hf := fits 13000 xs hk hx (Nat.le_refl _)
  have hl := pt_small (xs.map tb) (tb sep) hf (by rw [tb_size]; omega) _ (Nat.le_refl _)
  have h1 := specJoin_any A c (xs.map tb) (tb sep) wr.heap.size wr (Nat.le_refl _) hr hf (by rw [tb_size]; omega)
  rw [pt_tb xs sep _ (by simp)] at h1 hl
  refine h1.mono ?_
  rintro e w' ⟨rfl, hb⟩
  exact ⟨_, rfl, rfl, by show (join xs sep).length ≤ _; exact hl, hb⟩
theorem map_tb {α : Type} (f : α → List UInt8) (xs : List α) : (xs.map fun x => tb (f x)) = (xs.map f).map tb := by rw [List.map_map]; rfl

set_option maxHeartbeats 1600000 in
set_option maxRecDepth 100000 in
theorem l4Rows_any (A : Option Addr) (c : Nat) (r : List Dt) (m : Nat) (hm : m ≤ 4) (hr : ∀ x ∈ r, RowOk m x) (hl : r.length ≤ 12) (w : World) (h : Rd w w.heap.size (.lst r) [.slice A r.length c]) :
    Calls Tryz.prog 82 #[.slice A r.length c] w fun e w' => e = .returned (.string (tb (brk (r.map rowTxt)))) ∧ Below w.heap.size w w' := by
  have hw : ∀ x ∈ r, x.width = 2 := fun x hx => by obtain ⟨ns, os, rfl, _⟩ := hr x hx; rfl
  have H := Lib.hid (And.intro h (And.intro hr hw))
  clear h hr hw
  go_enter Tryz.func82, Tryz.ntmps82
  go_wp2_with fail
  have HS0 := Lib.hid (RowS.lit (Below.refl w.heap.size w))
  go_loopw [3, 4] (fun v i wr => ∃ (j : Nat), j ≤ r.length ∧ i = .int .i64 j ∧ RowS w v ((r.take j).map fun x => tb (rowTxt x)) wr) (fun _ i _ => r.length - (intOf i).toNat)
  case atStart => exact ⟨0, Nat.zero_le _, rfl, by simpa using HS0.out⟩
  case round =>
    obtain ⟨j, hj, rfl, hS⟩ := hrel
    obtain ⟨wo, rfl⟩ : ∃ wo, wo = wr := ⟨_, rfl⟩
    by_cases hlt : j < r.length
    · obtain ⟨b, o, cs, rfl, hbB, hrd, hlen, hcell⟩ := (H.out.1.below hS.bel).at (k := 2) (fun x hx' => H.out.2.2 x hx') (by omega) j hlt
      obtain ⟨ns, os, hp, hns, hos, hnum⟩ := H.out.2.1 _ (List.getElem_mem hlt)
      have hnx := take_map_next (fun x => tb (rowTxt x)) r j hlt
      rw [hp] at hrd hnx
      obtain ⟨A1, c1, A2, c2, rfl, t1, t2⟩ := Rd.ofRow hrd
      rw [List.length_map] at t1 hcell
      have h00 := hcell 0 (by omega)
      simp only [List.getElem?_cons_zero, Nat.add_zero] at h00
      have hsz := hS.bel.size
      have HX := Lib.hid (And.intro hS (And.intro t1.ints (And.intro hnum hnx)))
      clear hS t1 t2 hrd hcell hlen hnum hos hp hnx
      go_wp2_with fail
      have HS1 := Lib.hid (RowS.lit (Below.refl wo.heap.size wo))
      go_loopw [5, 6] (fun v k wr => ∃ (i : Nat), i ≤ ns.length ∧ k = .int .i64 i ∧ RowS wo v ((ns.take i).map fun n => tb (itoa n)) wr) (fun _ i _ => ns.length - (intOf i).toNat)
      case atStart => exact ⟨0, Nat.zero_le _, rfl, by simpa using HS1.out⟩
      case round =>
        obtain ⟨i, hi, rfl, hS1⟩ := hrel
        have hs1 := hS1.bel.size
        have g00 := (hS1.bel.cell (p := ⟨b, o + j * 2, none⟩) (by show b < wo.heap.size; omega)).trans h00
        by_cases hlt1 : i < ns.length
        · have hbl : RowOf wr wo.heap.size A1 (intV ns) := (HX.out.2.1.more hsz).below hS1.bel
          have HY := Lib.hid hS1
          obtain ⟨b1, o1, rfl, hb1, hc1⟩ := hbl i _ (intV_get ns i hlt1)
          have hnum := HX.out.2.2.1 _ (List.getElem_mem hlt1)
          have hnx1 := take_map_next (fun n => tb (itoa n)) ns i hlt1
          generalize ns[i] = n at hc1 hnum hnx1
          have HN := Lib.hid (And.intro hnx1 hnum)
          clear hS1 hbl hnum hnx1
          go_wp2_with fail
          refine (specFmtT n wr HN.out.2).mono ?_
          rintro e w2 ⟨rfl, hb2⟩
          have HY2 := Lib.hid (HY.out.later hb2)
          have hs2 := HY2.out.bel.size
          have hl1 : ((ns.take i).map fun n => tb (itoa n)).length = i := by simp; omega
          clear hb2 HY
          go_wp2_with (at_builtin; refine appS _ rfl (.tmp 25) (.tmp 35) rfl wo.heap.size _ _ (strV ((ns.take i).map fun n => tb (itoa n))) rfl (HY2.out.own.alloc _) ⟨_, 0, none⟩ 1 1 [.string (tb (itoa n))] rfl rfl (cell_one_new _ _ _) (fun u hu => by simp at hu; subst hu; rfl) (by omega) (by simp; omega) ?_; intro v3 w3 hown3 hgr3 _)
          have h3 := HY2.out.app hown3 hgr3
          rw [HN.out.1] at h3
          refine ⟨⟨i + 1, by omega, by simp, h3⟩, by simp [intOf]; omega⟩
        · obtain rfl : i = ns.length := by omega
          rw [List.take_length, map_tb] at hS1
          have HY := Lib.hid hS1
          clear hS1
          have hnl : ns.length ≤ 12 := by omega
          go_wp2_with fail
          refine (specJoinT sepC HY.out (by simpa using hnl) (fun x hx => ?_) (by decide)).mono ?_
          · obtain ⟨n, hn, rfl⟩ := List.mem_map.1 hx
            have := itoa_len (HX.out.2.2.1 n hn)
            omega
          rintro e w2 ⟨q, rfl, hq, hql, hb2⟩
          have hb3 := HY.out.bel.trans (hb2.mono HY.out.bel.size)
          have HZ := Lib.hid (HX.out.1.later hb3)
          have hs2 := HZ.out.bel.size
          have hl1 : ((r.take j).map fun x => tb (rowTxt x)).length = j := by simp; omega
          have hbr := brk_tb (ns.map itoa)
          rw [← hq] at hbr
          rw [rowTxt_ints] at HX
          have HBR := Lib.hid hbr
          clear hb2 hb3 HY hbr hq g00
          go_wp2_with (at_builtin; refine appS _ rfl (.tmp 37) (.tmp 42) rfl w.heap.size _ _ (strV ((r.take j).map fun x => tb (rowTxt x))) rfl (HZ.out.own.alloc _) ⟨_, 0, none⟩ 1 1 [.string (⟨#[91]⟩ ++ q ++ ⟨#[93]⟩)] rfl rfl (cell_one_new _ _ _) (fun u hu => by simp at hu; subst hu; rfl) (by omega) (by simp; omega) ?_; intro v3 w3 hown3 hgr3 _)
          have h3 := HZ.out.app hown3 hgr3
          rw [HBR.out, HX.out.2.2.2] at h3
          refine ⟨⟨j + 1, by omega, by simp, h3⟩, by simp [intOf]; omega⟩
    · obtain rfl : j = r.length := by omega
      rw [List.take_length, map_tb] at hS
      have HY := Lib.hid hS
      clear hS
      go_wp2_with fail
      refine (specJoinT sepC HY.out (by simpa using hl) (fun x hx => ?_) (by decide)).mono ?_
      · obtain ⟨d, hd, rfl⟩ := List.mem_map.1 hx
        exact rowTxt_len hm (H.out.2.1 d hd)
      rintro e w2 ⟨q, rfl, hq, hql, hb2⟩
      have hbr := brk_tb (r.map rowTxt)
      rw [← hq] at hbr
      have HBR := Lib.hid hbr
      have HB := Lib.hid (HY.out.bel.trans (hb2.mono HY.out.bel.size))
      clear hb2 HY hq hbr
      go_wp2_with fail
      go_ret
      exact ⟨by rw [HBR.out]; rfl, HB.out⟩

def TextC (d : Dt) : Prop := ∀ (cs : List Value) (w : World), Rd w w.heap.size d cs → Calls Tryz.prog 30 #[.agg cs.toArray] w fun e w' => e = .returned (.string (tb d.txt)) ∧ Below w.heap.size w w'
theorem specFmtQ (n : Int) (w : World) (h : NumOk n) : Calls Tryz.prog 80 #[.int .i64 n] w fun e w' => ∃ q, e = .returned (.string q) ∧ q = tb (itoa n) ∧ q.size ≤ 11 ∧ Below w.heap.size w w' :=
  (specFmtT n w h).mono fun e w' ⟨h1, h2⟩ => ⟨_, h1, rfl, by rw [tb_size]; exact itoa_len h, h2⟩
/-- The names of a table, joined. -/
theorem cols_small {cc : List ByteArray} (h : ColsOk cc) : cc.length + tot cc ≤ 1048576 := by
  have h1 := tot_leB 8 cc fun s hs => by
    have h8 := (h.2.2 s hs).1.2
    unfold nb at h8
    rw [Array.length_toList] at h8
    exact h8
  have := h.1.2
  omega
theorem specJoinC (A : Option Addr) (c : Nat) (cc : List ByteArray) (w : World) (h : RowOf w w.heap.size A (strV cc)) (hc : ColsOk cc) :
    Calls Tryz.prog 81 #[.slice A cc.length c, .string ⟨#[32]⟩] w fun e w' => ∃ q, e = .returned (.string q) ∧ q = tb (join (cc.map (·.data.toList)) [32]) ∧ q.size ≤ 1099512676352 ∧ Below w.heap.size w w' := by
  have hf := cols_small hc
  have hl := pt_small cc ⟨#[32]⟩ hf (by decide) _ (Nat.le_refl _)
  refine (specJoin_any A c cc ⟨#[32]⟩ w.heap.size w (Nat.le_refl _) h hf (by decide)).mono ?_
  rintro e w' ⟨rfl, hb⟩
  exact ⟨_, rfl, by rw [← pt_eq]; rfl, hl, hb⟩
theorem tbE (a b : List UInt8) : (⟨a.toArray⟩ : ByteArray) ++ tb b = tb (a ++ b) := by
  apply bytes_inj
  simp [ByteArray.toList_eq, tb]
theorem tbR (a b : List UInt8) : tb a ++ (⟨b.toArray⟩ : ByteArray) = tb (a ++ b) := by
  apply bytes_inj
  simp [ByteArray.toList_eq, tb]
theorem tbT (a b : List UInt8) : tb a ++ tb b = tb (a ++ b) := tbR a b

set_option maxHeartbeats 800000 in
set_option maxRecDepth 100000 in
theorem text1 (n : Int) (hn : NumOk n) : TextC (.agg [.int 1, .int n, .int 0, .str ⟨#[]⟩, .lst [], .lst (([] : List ByteArray).map .str), .lst []]) := by
  intro cs w h
  obtain ⟨A4, c4, A5, c5, A6, c6, rfl, -, -, -⟩ := Rd.ofValue h
  clear h
  go_enter Tryz.func30, Tryz.ntmps30
  go_wp2_with fail
  refine (specFmtT n _ hn).mono ?_
  rintro e w2 ⟨rfl, hb⟩
  have HB := Lib.hid (Below.trans ((Below.refl w.heap.size w).alloc (Nat.le_refl _) _) (hb.mono (by simp)))
  clear hb
  go_wp2_with fail
  go_ret
  exact ⟨congrArg (fun x => Ending.returned (Value.string (tb x))) (txt_num n).symm, HB.out⟩
set_option maxHeartbeats 800000 in
set_option maxRecDepth 100000 in
theorem text2 (t : ByteArray) (ht : VT t) : TextC (.agg [.int 2, .int 0, .int 0, .str t, .lst [], .lst (([] : List ByteArray).map .str), .lst []]) := by
  intro cs w h
  obtain ⟨A4, c4, A5, c5, A6, c6, rfl, -, -, -⟩ := Rd.ofValue h
  clear h
  have hts := ht.1
  go_enter Tryz.func30, Tryz.ntmps30
  go_wp2_with fail
  go_ret
  refine ⟨?_, (Below.refl w.heap.size w).alloc (Nat.le_refl _) _⟩
  have e : Dt.txt (.agg [.int 2, .int 0, .int 0, .str t, .lst [], .lst (([] : List ByteArray).map .str), .lst []]) = 34 :: (t.data.toList ++ [34]) := by simp [Dt.txt]
  rw [e]
  congr 2
set_option maxHeartbeats 800000 in
set_option maxRecDepth 100000 in
theorem text4 (n s : Int) (hn : NumOk n) (hs : NumOk s) : TextC (.agg [.int 4, .int n, .int s, .str ⟨#[]⟩, .lst [], .lst (([] : List ByteArray).map .str), .lst []]) := by
  intro cs w h
  obtain ⟨A4, c4, A5, c5, A6, c6, rfl, -, -, -⟩ := Rd.ofValue h
  clear h
  go_enter Tryz.func30, Tryz.ntmps30
  go_wp2_with fail
  generalize hW : w.alloc (.cells #[Value.int .i64 4, .int .i64 n, .int .i64 s, .string ⟨#[]⟩, .slice A4 0 c4, .slice A5 0 c5, .slice A6 0 c6] 28) = w1
  have k1 : w1.cell? ⟨w.heap.size, 1, none⟩ = some (.int .i64 n) := by rw [← hW]; simp
  have k2 : w1.cell? ⟨w.heap.size, 2, none⟩ = some (.int .i64 s) := by rw [← hW]; simp
  have hb1 : Below w.heap.size w w1 := by rw [← hW]; exact (Below.refl _ _).alloc (Nat.le_refl _) _
  have hs1 : w1.heap.size = w.heap.size + 1 := by rw [← hW]; simp
  have mk : ∀ W', Below w1.heap.size w1 W' → W'.cell? ⟨w.heap.size, 1, none⟩ = some (.int .i64 n) ∧ W'.cell? ⟨w.heap.size, 2, none⟩ = some (.int .i64 s) := fun W' hb =>
    ⟨(hb.cell (p := ⟨w.heap.size, 1, none⟩) (by show w.heap.size < w1.heap.size; omega)).trans k1, (hb.cell (p := ⟨w.heap.size, 2, none⟩) (by show w.heap.size < w1.heap.size; omega)).trans k2⟩
  have MK := Lib.hid mk
  have HB1 := Lib.hid hb1
  have HS1 := Lib.hid hs1
  clear hW hb1 mk hs1
  go_region_held3 (fun w' => w'.cell? ⟨w.heap.size, 1, none⟩ = some (.int .i64 n) ∧ w'.cell? ⟨w.heap.size, 2, none⟩ = some (.int .i64 s)) (first | exact ⟨k1, k2⟩ | exact MK.out _ (Below.refl _ _).drew | exact MK.out _ hs3 | exact MK.out _ hs2)
    (first
      | (go_at_call_of 80 (Value.int .i64 n); refine (specFmtQ n _ hn).mono ?_; rintro e w2 ⟨q1, rfl, hq1, hl1, hb2⟩; have hs2 : Below w1.heap.size w1 w2 := Below.trans (Below.refl _ _).drew hb2; have HQ1 := Lib.hid hq1; have hc1 : ¬ 9223372036854775807 < 6 + q1.size := (by omega); have hc2 : ¬ 9223372036854775807 < 6 + q1.size + 2 := (by omega); clear hq1)
      | (go_at_call_of 80 (Value.int .i64 s); refine (specFmtQ s _ hs).mono ?_; rintro e w3 ⟨q2, rfl, hq2, hl2, hb3⟩; have hs3 := hs2.trans (hb3.mono hs2.size); have HQ2 := Lib.hid hq2; have hc3 : ¬ 9223372036854775807 < 6 + q1.size + 2 + q2.size := (by omega); have hc4 : ¬ 9223372036854775807 < 6 + q1.size + 2 + q2.size + 1 := (by omega); clear hq2))
  have HF := Lib.hid (HB1.out.trans (hs3.mono (by have := HS1.out; omega)))
  clear hs2 hs3 hb2 hb3 MK HB1
  go_wp2_with fail
  go_ret
  refine ⟨?_, HF.out⟩
  have e : Dt.txt (.agg [.int 4, .int n, .int s, .str ⟨#[]⟩, .lst [], .lst (([] : List ByteArray).map .str), .lst []]) = wRange ++ (itoa n ++ (sepC ++ (itoa s ++ [41]))) := by simp [Dt.txt]
  refine congrArg (fun x => Ending.returned (Value.string x)) ?_
  rw [e, HQ1.out, HQ2.out]
  apply bytes_inj
  simp [ByteArray.toList_eq, tb, wRange, sepC]
set_option maxHeartbeats 800000 in
set_option maxRecDepth 100000 in
theorem text6 (n : Int) (h1 : 1 ≤ n) (h8 : n ≤ 8) : TextC (.agg [.int 6, .int n, .int 0, .str ⟨#[]⟩, .lst [], .lst (([] : List ByteArray).map .str), .lst []]) := by
  intro cs w h
  obtain ⟨A4, c4, A5, c5, A6, c6, rfl, -, -, -⟩ := Rd.ofValue h
  clear h
  go_enter Tryz.func30, Tryz.ntmps30
  go_wp2_with fail
  refine (specErrName_any n _).mono ?_
  rintro e w2 ⟨rfl, hb⟩
  have HB := Lib.hid (Below.trans ((Below.refl w.heap.size w).alloc (Nat.le_refl _) _) (hb.mono (by simp)))
  have hl : (⟨(eName n).toArray⟩ : ByteArray).size ≤ 9 := eName_len n
  generalize hq : (⟨(eName n).toArray⟩ : ByteArray) = q at hl
  have HQ := Lib.hid hq
  clear hb hq
  go_wp2_with fail
  go_ret
  refine ⟨?_, HB.out⟩
  have e : Dt.txt (.agg [.int 6, .int n, .int 0, .str ⟨#[]⟩, .lst [], .lst (([] : List ByteArray).map .str), .lst []]) = wError ++ eName n := by simp [Dt.txt]
  rw [e, ← HQ.out]
  congr 2
theorem brk_size {xs : List (List UInt8)} (hk : xs.length ≤ 12) (hx : ∀ x ∈ xs, x.length ≤ 13000) : (brk xs).length ≤ 200000 := by
  have := brk_le 13000 12 xs hk hx
  omega
theorem l4RowsQ (A : Option Addr) (c : Nat) (r : List Dt) (m : Nat) (hm : m ≤ 4) (hr : ∀ x ∈ r, RowOk m x) (hl : r.length ≤ 12) (w : World) (h : Rd w w.heap.size (.lst r) [.slice A r.length c]) :
    Calls Tryz.prog 82 #[.slice A r.length c] w fun e w' => ∃ q, e = .returned (.string q) ∧ q = tb (brk (r.map rowTxt)) ∧ q.size ≤ 200000 ∧ Below w.heap.size w w' :=
  (l4Rows_any A c r m hm hr hl w h).mono fun e w' ⟨h1, h2⟩ => ⟨_, h1, rfl, by
    rw [tb_size]
    exact brk_size (by simpa using hl) fun x hx => by
      obtain ⟨d, hd, rfl⟩ := List.mem_map.1 hx
      exact rowTxt_len hm (hr d hd), h2⟩
set_option maxHeartbeats 1600000 in
set_option maxRecDepth 100000 in
theorem text5 (cc : List ByteArray) (r : List Dt) (h : TblOk cc r) : TextC (.agg [.int 5, .int 0, .int 0, .str ⟨#[]⟩, .lst [], .lst (cc.map .str), .lst r]) := by
  intro cs w hrd
  obtain ⟨A4, c4, A5, c5, A6, c6, rfl, -, r5, r6⟩ := Rd.ofValue hrd
  have r5' := r5.strs
  rw [List.length_map]
  have H := Lib.hid (And.intro h (And.intro r5' r6))
  clear hrd h r5 r5' r6
  go_enter Tryz.func30, Tryz.ntmps30
  go_wp2_with fail
  generalize hW : w.alloc (.cells #[Value.int .i64 5, .int .i64 0, .int .i64 0, .string ⟨#[]⟩, .slice A4 0 c4, .slice A5 cc.length c5, .slice A6 r.length c6] 28) = w1
  have k1 : w1.cell? ⟨w.heap.size, 5, none⟩ = some (.slice A5 cc.length c5) := by rw [← hW]; simp
  have k2 : w1.cell? ⟨w.heap.size, 6, none⟩ = some (.slice A6 r.length c6) := by rw [← hW]; simp
  have hb1 : Below w.heap.size w w1 := by rw [← hW]; exact (Below.refl _ _).alloc (Nat.le_refl _) _
  have hs1 : w1.heap.size = w.heap.size + 1 := by rw [← hW]; simp
  have mk : ∀ W', Below w1.heap.size w1 W' → W'.cell? ⟨w.heap.size, 5, none⟩ = some (.slice A5 cc.length c5) ∧ W'.cell? ⟨w.heap.size, 6, none⟩ = some (.slice A6 r.length c6) := fun W' hb =>
    ⟨(hb.cell (p := ⟨w.heap.size, 5, none⟩) (by show w.heap.size < w1.heap.size; omega)).trans k1, (hb.cell (p := ⟨w.heap.size, 6, none⟩) (by show w.heap.size < w1.heap.size; omega)).trans k2⟩
  have rd : ∀ W', Below w1.heap.size w1 W' → RowOf W' W'.heap.size A5 (strV cc) ∧ Rd W' W'.heap.size (.lst r) [.slice A6 r.length c6] := fun W' hb => by
    have hb2 := hb1.trans (hb.mono hb1.size)
    exact ⟨(H.out.2.1.below hb2).more hb2.size, (H.out.2.2.below hb2).more hb2.size⟩
  have MK := Lib.hid mk
  have RD := Lib.hid rd
  have HB1 := Lib.hid hb1
  have HS1 := Lib.hid hs1
  clear hW hb1 mk hs1 rd
  go_region_held3 (fun w' => w'.cell? ⟨w.heap.size, 5, none⟩ = some (.slice A5 cc.length c5) ∧ w'.cell? ⟨w.heap.size, 6, none⟩ = some (.slice A6 r.length c6)) (first | exact ⟨k1, k2⟩ | exact MK.out _ (Below.refl _ _).drew | exact MK.out _ hs3 | exact MK.out _ hs2)
    (first
      | (go_at_call 81; refine (specJoinC A5 c5 cc _ (RD.out _ (Below.refl _ _).drew).1 H.out.1.1).mono ?_; rintro e w2 ⟨q1, rfl, hq1, hl1, hb2⟩; have hs2 : Below w1.heap.size w1 w2 := Below.trans (Below.refl _ _).drew hb2; have HQ1 := Lib.hid hq1; have hc1 : ¬ 9223372036854775807 < 7 + q1.size := (by omega); have hc2 : ¬ 9223372036854775807 < 7 + q1.size + 3 := (by omega); clear hq1)
      | (go_at_call 82; refine (l4RowsQ A6 c6 r cc.length H.out.1.1.1.2 H.out.1.2.2 H.out.1.2.1 _ (RD.out _ hs2).2).mono ?_; rintro e w3 ⟨q2, rfl, hq2, hl2, hb3⟩; have hs3 := hs2.trans (hb3.mono hs2.size); have HQ2 := Lib.hid hq2; have hc3 : ¬ 9223372036854775807 < 7 + q1.size + 3 + q2.size := (by omega); have hc4 : ¬ 9223372036854775807 < 7 + q1.size + 3 + q2.size + 1 := (by omega); clear hq2))
  have HF := Lib.hid (HB1.out.trans (hs3.mono (by have := HS1.out; omega)))
  clear hs2 hs3 hb2 hb3 MK HB1 RD
  go_wp2_with fail
  go_ret
  refine ⟨?_, HF.out⟩
  refine congrArg (fun x => Ending.returned (Value.string x)) ?_
  have e : Dt.txt (.agg [.int 5, .int 0, .int 0, .str ⟨#[]⟩, .lst [], .lst (cc.map .str), .lst r]) = _ := txt_tab cc r
  rw [e, HQ1.out, HQ2.out]
  apply bytes_inj
  simp [ByteArray.toList_eq, tb, wTable, sepC]
set_option maxHeartbeats 1600000 in
set_option maxRecDepth 100000 in
theorem text3 (m : Nat) (hm : m ≤ 2) (l : List Dt) (hl : ∀ x ∈ l, IsVal x) (h : l.length ≤ 8 ∧ (l = [] ∨ 1 ≤ m) ∧ ∀ x ∈ l, isEl x ∧ W m x) (ih : ∀ x ∈ l, TextC x) : TextC (.agg [.int 3, .int 0, .int 0, .str ⟨#[]⟩, .lst l, .lst (([] : List ByteArray).map .str), .lst []]) := by
  intro cs w hrd
  obtain ⟨A4, c4, A5, c5, A6, c6, rfl, r4, -, -⟩ := Rd.ofValue hrd
  have hlen : l.length ≤ 12 := by omega
  have hsm : ∀ x ∈ l.map Dt.txt, x.length ≤ 13000 := fun x hx => by
    obtain ⟨d, hd, rfl⟩ := List.mem_map.1 hx
    exact W_len (by omega) (hl d hd) (h.2.2 d hd).1 (h.2.2 d hd).2
  have H := Lib.hid (And.intro r4 (And.intro hl (And.intro ih hsm)))
  clear hrd h r4 hl ih hsm
  show Calls Tryz.prog 30 #[.agg #[.int .i64 3, .int .i64 0, .int .i64 0, .string ⟨#[]⟩, .slice A4 l.length c4, .slice A5 0 c5, .slice A6 0 c6]] w _
  go_enter Tryz.func30, Tryz.ntmps30
  go_wp2_with fail
  generalize hW : w.alloc (.cells #[Value.int .i64 3, .int .i64 0, .int .i64 0, .string ⟨#[]⟩, .slice A4 l.length c4, .slice A5 0 c5, .slice A6 0 c6] 28) = w1
  have k1 : w1.cell? ⟨w.heap.size, 4, none⟩ = some (.slice A4 l.length c4) := by rw [← hW]; simp
  have hb1 : Below w.heap.size w w1 := by rw [← hW]; exact (Below.refl _ _).alloc (Nat.le_refl _) _
  have hs1 : w1.heap.size = w.heap.size + 1 := by rw [← hW]; simp
  have HS1 := Lib.hid hs1
  rw [← hs1]
  have MK := Lib.hid (show ∀ W', Below w1.heap.size w1 W' → W'.cell? ⟨w.heap.size, 4, none⟩ = some (.slice A4 l.length c4) from fun W' hb => (hb.cell (p := ⟨w.heap.size, 4, none⟩) (by show w.heap.size < w1.heap.size; omega)).trans k1)
  have HB1 := Lib.hid hb1
  have HS0 := Lib.hid (RowS.lit (Below.refl w1.heap.size w1))
  clear hW hb1 hs1
  go_loopw [3, 4] (fun v i wr => ∃ (j : Nat), j ≤ l.length ∧ i = .int .i64 j ∧ RowS w1 v ((l.take j).map fun x => tb x.txt) wr) (fun _ i _ => l.length - (intOf i).toNat)
  case atStart => exact ⟨0, Nat.zero_le _, rfl, by simpa using HS0.out⟩
  case round =>
    obtain ⟨j, hj, rfl, hS⟩ := hrel
    have v4 := MK.out wr hS.bel
    have hsz := hS.bel.size
    by_cases hlt : j < l.length
    · have hbw := HB1.out.trans (hS.bel.mono (by have := HS1.out; omega))
      obtain ⟨b, o, cs, rfl, hbB, hrd, hlen1, hcell⟩ := (H.out.1.below hbw).at (k := 7) (fun x hx' => (H.out.2.1 x hx').width) (by omega) j hlt
      obtain ⟨py0, py1, py2, py3, py4, pn4, pc4, py5, pn5, pc5, py6, pn6, pc6, rfl⟩ := (H.out.2.1 _ (List.getElem_mem hlt)).form hrd
      have h00 := hcell 0 (by omega)
      have h01 := hcell 1 (by omega)
      have h02 := hcell 2 (by omega)
      have h03 := hcell 3 (by omega)
      have h04 := hcell 4 (by omega)
      have h05 := hcell 5 (by omega)
      have h06 := hcell 6 (by omega)
      simp only [List.getElem?_cons_zero, List.getElem?_cons_succ, Nat.add_zero] at h00 h01 h02 h03 h04 h05 h06
      have hnx := take_map_next (fun x => tb x.txt) l j hlt
      have HX := Lib.hid (And.intro hS (And.intro (hrd.more (B' := wr.heap.size) (by have := hbw.size; omega)) hnx))
      have hc := H.out.2.2.1 _ (List.getElem_mem hlt) _ wr HX.out.2.1
      have hl1 : ((l.take j).map fun x => tb x.txt).length = j := by simp; omega
      clear hS hrd hcell hnx hbw
      go_wp2_with fail
      refine hc.mono ?_
      rintro e w2 ⟨rfl, hb2⟩
      have HY := Lib.hid (HX.out.1.later hb2)
      have hs2 := HY.out.bel.size
      clear hb2 hc v4
      go_wp2_with (at_builtin; refine appS _ rfl (.tmp 56) (.tmp 63) rfl w1.heap.size _ _ (strV ((l.take j).map fun x => tb x.txt)) rfl (HY.out.own.alloc _) ⟨_, 0, none⟩ 1 1 [.string (tb l[j].txt)] rfl rfl (cell_one_new _ _ _) (fun u hu => by simp at hu; subst hu; rfl) (by omega) (by simp; omega) ?_; intro v3 w3 hown3 hgr3 _)
      have h3 := HY.out.app hown3 hgr3
      rw [HX.out.2.2] at h3
      have H3 := Lib.hid h3
      clear h3 hown3 hgr3
      exact ⟨⟨j + 1, by omega, by simp, H3.out⟩, by simp [intOf]; omega⟩
    · obtain rfl : j = l.length := by omega
      rw [List.take_length, map_tb] at hS
      have HY := Lib.hid hS
      clear hS
      go_wp2_with fail
      refine (specJoinT sepC HY.out (by simpa using hlen) H.out.2.2.2 (by decide)).mono ?_
      rintro e w2 ⟨q, rfl, hq, hql, hb2⟩
      have hbr := brk_tb (l.map Dt.txt)
      rw [← hq] at hbr
      have HBR := Lib.hid hbr
      have HB := Lib.hid (HB1.out.trans ((HY.out.bel.trans (hb2.mono HY.out.bel.size)).mono (by have := HS1.out; omega)))
      clear hb2 HY hq hbr v4
      go_wp2_with fail
      go_ret
      refine ⟨congrArg (fun x => Ending.returned (Value.string x)) ?_, HB.out⟩
      have e : Dt.txt (.agg [.int 3, .int 0, .int 0, .str ⟨#[]⟩, .lst l, .lst (([] : List ByteArray).map .str), .lst []]) = _ := txt_lst l
      rw [e]
      exact HBR.out
theorem text_of (m : Nat) (hm : m ≤ 2) (ih : ∀ d, IsVal d → W m d → TextC d) (d : Dt) (hd : IsVal d) (hw : W (m + 1) d) : TextC d := by
  obtain ⟨k, n, s, t, l, c, r, hl, hr⟩ := hd
  rw [W_mk] at hw
  rcases hw with ⟨rfl, h, rfl, rfl, rfl, rfl, rfl⟩ | ⟨rfl, h, rfl, rfl, rfl, rfl, rfl⟩ | ⟨rfl, h, rfl, rfl, rfl, rfl, rfl⟩ | ⟨rfl, h, rfl, rfl, rfl, rfl⟩ | ⟨rfl, h, rfl, rfl, rfl, rfl⟩ | ⟨rfl, h, rfl, rfl, rfl, rfl, rfl⟩
  · exact text1 n h
  · exact text2 t h
  · exact text3 m hm l hl h fun x hx => ih x (hl x hx) (h.2.2 x hx).2
  · exact text4 n s h.1 h.2
  · exact text5 c r h
  · exact text6 n h.1 h.2
theorem text_any : ∀ m, m ≤ 3 → ∀ d, IsVal d → W m d → TextC d
  | 0, _, d, _, h => by simp [W] at h
  | m + 1, hm, d, hd, h => text_of m (by omega) (text_any m (by omega)) d hd h
end Go.Proofs.YtddjkhabcbcnmaaGreatDoor
