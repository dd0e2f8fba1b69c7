/-
  Texts that the proof rests on, put together: Rd3, Rd4, PvLaw.
-/
import Derived.Test.YtddjkhabcbcnmaaGreatDoorMgExactParseValueCard31
import Derived.Test.YtddjkhabcbcnmaaGreatDoorMgExactParseValueCard21
import Derived.Test.YtddjkhabcbcnmaaGreatDoorMgExactParseValueCard29
import Derived.Test.YtddjkhabcbcnmaaGreatDoorMgExactParseValueCard11
import Derived.Test.YtddjkhabcbcnmaaGreatDoorMgExactParseValueCard30
import Derived.Test.YtddjkhabcbcnmaaGreatDoorMgExactParseValueCard16
import Derived.Test.YtddjkhabcbcnmaaGreatDoorMgExactParseValueCard10
/-
  Streams, tables and values of the program's reader. (Written by genrd.py.)
-/

namespace Go.Proofs.YtddjkhabcbcnmaaGreatDoor
open Go.RowKit
set_option linter.unusedVariables false

theorem iVal_1 (d : Nat) (l : List UInt8) : iVal (d + 1) [91] l = (vLst (iElems (iVal d) (d != 0) 12 [] l).1, (iElems (iVal d) (d != 0) 12 [] l).2) := by
  conv => lhs; unfold iVal
  rw [if_pos rfl]
theorem iVal_2 (d : Nat) (l : List UInt8) : iVal (d + 1) [114, 97, 110, 103, 101] l = iStream l := by
  conv => lhs; unfold iVal
  rw [if_neg (by decide), if_pos (by rfl)]
theorem iVal_3 (d : Nat) (l : List UInt8) : iVal (d + 1) [116, 97, 98, 108, 101] l = iTable (iVal d) (d != 0) l := by
  conv => lhs; unfold iVal
  rw [if_neg (by decide), if_neg (by decide), if_pos (by rfl)]
theorem iVal_4 (d : Nat) {l wd l1 : List UInt8} (h : nextW l = (wd, l1)) : iVal (d + 1) [101, 114, 114, 111, 114] l = (vErr (eCode wd), l1) := by
  conv => lhs; unfold iVal
  rw [if_neg (by decide), if_neg (by decide), if_neg (by decide), if_pos (by rfl), h]
theorem iVal_5 (d : Nat) {l word : List UInt8} (h1 : word ≠ [91]) (h2 : word ≠ [114, 97, 110, 103, 101]) (h3 : word ≠ [116, 97, 98, 108, 101]) (h4 : word ≠ [101, 114, 114, 111, 114]) :
    iVal (d + 1) word l = if [34].isPrefixOf word then (vTxt (trim34 word), l) else (vNum (rdNum word), l) := by
  conv => lhs; unfold iVal
  rw [if_neg h1, if_neg (show word ≠ sRange from h2), if_neg (show word ≠ sTable from h3), if_neg (show word ≠ sError from h4)]
theorem iStream_is {l wd1 l1 wd2 l2 : List UInt8} (h1 : nextW l = (wd1, l1)) (h2 : nextW l1 = (wd2, l2)) : iStream l = (vStr (rdNum wd1) (rdNum wd2), l2) := by
  unfold iStream; rw [h1]; simp only; rw [h2]
theorem iTable_is {V : List UInt8 → List UInt8 → Dt × List UInt8} {deep : Bool} {l wd1 l1 wd2 l2 : List UInt8} (h1 : nextW l = (wd1, l1)) (h2 : nextW l1 = (wd2, l2)) :
    iTable V deep l = (vTab ((pcs 32 (trim34 wd1)).map fun x => ⟨x.toArray⟩) ((iElems V deep 12 [] l2).1.map toRow), (iElems V deep 12 [] l2).2) := by
  unfold iTable; rw [h1]; simp only; rw [h2]
set_option maxHeartbeats 1600000 in
set_option maxRecDepth 100000 in
theorem stream_any (w0 : World) (b : Nat) (w : World) (l : List UInt8) (hE : EnvAll w0) (h : Rest w0 b l w) (hl : l.length ≤ 1048576) :
    Calls Tryz.prog 69 #[.pointer (some ⟨b, 0, none⟩)] w (ReAns w0 b w (iStream l)) := by
  have HE := Lib.hid hE
  have H := Lib.hid ((ReSt.start h).new 28 7 #[.int .i64 0, .int .i64 0, .int .i64 0, .string ⟨#[]⟩, .slice none 0 0, .slice none 0 0, .slice none 0 0] rfl)
  clear hE h
  obtain ⟨wd1, l1, hn1⟩ : ∃ a c, nextW l = (a, c) := ⟨_, _, rfl⟩
  have hw1 := nextW_wt l
  have HM1 := fun (W : World) (hR : Rest w0 b l W) => next_any w0 b l W hR (hl)
  unfold NextQ at HM1
  rw [hn1] at HM1 hw1
  simp only at HM1 hw1
  have HN1 := Lib.hid HM1
  clear HM1
  obtain ⟨wd2, l2, hn2⟩ : ∃ a c, nextW l1 = (a, c) := ⟨_, _, rfl⟩
  have hw2 := nextW_wt l1
  have HM2 := fun (W : World) (hR : Rest w0 b l1 W) => next_any w0 b l1 W hR (by omega)
  unfold NextQ at HM2
  rw [hn2] at HM2 hw2
  simp only at HM2 hw2
  have HN2 := Lib.hid HM2
  clear HM2
  have HO := Lib.hid (iStream_is hn1 hn2)
  clear hn1 hn2
  go_enter Tryz.func69, Tryz.ntmps69
  go_wp2_with fail
  refine (HN1.out _ H.out.rest).mono ?_
  rintro e w1 ⟨rfl, hg, hr⟩
  have H1 := Lib.hid (H.out.read hg hr)
  clear hg hr H
  go_wp2_with fail
  refine (readNumber_any wd1 _ (by omega) (HE.out.below (H1.out.rest.2.1))).mono ?_
  rintro e w2 ⟨rfl, hb⟩
  have H2 := Lib.hid (H1.out.below hb)
  clear hb H1
  go_wp2_with fail
  refine (HN2.out _ H2.out.rest).mono ?_
  rintro e w3 ⟨rfl, hg, hr⟩
  have H3 := Lib.hid (H2.out.read hg hr)
  clear hg hr H2
  go_wp2_with fail
  refine (readNumber_any wd2 _ (by omega) (HE.out.below (H3.out.rest.2.1))).mono ?_
  rintro e w4 ⟨rfl, hb⟩
  have H4 := Lib.hid (H3.out.below hb)
  clear hb H3
  go_wp2_with fail
  refine (implStreamValue_any (rdNum wd1) (rdNum wd2) w4).mono ?_
  rintro e w5 ⟨rfl, hb⟩
  have H5 := Lib.hid ((H4.out.below hb).flat (ow_vStr (rdNum wd1) (rdNum wd2)))
  clear hb H4
  have hbr := (ReSt.nth (L1 := [_]) H5.out).box
  have r0 := hbr.cellAt 0 (by simp)
  have rz0 := hbr.frozenAt 0
  have r1 := hbr.cellAt 1 (by simp)
  have rz1 := hbr.frozenAt 1
  have r2 := hbr.cellAt 2 (by simp)
  have rz2 := hbr.frozenAt 2
  have r3 := hbr.cellAt 3 (by simp)
  have rz3 := hbr.frozenAt 3
  have r4 := hbr.cellAt 4 (by simp)
  have rz4 := hbr.frozenAt 4
  have r5 := hbr.cellAt 5 (by simp)
  have rz5 := hbr.frozenAt 5
  have r6 := hbr.cellAt 6 (by simp)
  have rz6 := hbr.frozenAt 6
  have hlr := (hbr.lt _ rfl).2
  simp at r0 rz0 r1 rz1 r2 rz2 r3 rz3 r4 rz4 r5 rz5 r6 rz6
  clear hbr
  go_wp2_with fail
  have hf := (ReSt.nth (L1 := [_]) H5.out).set7 [.int .i64 4, .int .i64 (rdNum wd1), .int .i64 (rdNum wd2), .string ⟨#[]⟩, .slice none 0 0, .slice none 0 0, .slice none 0 0] rfl
  simp only [World.setCells, Nat.zero_add, Nat.reduceAdd] at hf
  generalize (((((((w5.setCell ⟨w.heap.size, 0, none⟩ (.int .i64 4)).setCell ⟨w.heap.size, 1, none⟩ (.int .i64 (rdNum wd1))).setCell ⟨w.heap.size, 2, none⟩ (.int .i64 (rdNum wd2))).setCell ⟨w.heap.size, 3, none⟩ (.string ⟨#[]⟩)).setCell ⟨w.heap.size, 4, none⟩ (.slice none 0 0)).setCell ⟨w.heap.size, 5, none⟩ (.slice none 0 0)).setCell ⟨w.heap.size, 6, none⟩ (.slice none 0 0)) = W7 at hf ⊢
  have hq := hf.box
  have s0 := hq.cellAt 0 (by simp)
  have s1 := hq.cellAt 1 (by simp)
  have s2 := hq.cellAt 2 (by simp)
  have s3 := hq.cellAt 3 (by simp)
  have s4 := hq.cellAt 4 (by simp)
  have s5 := hq.cellAt 5 (by simp)
  have s6 := hq.cellAt 6 (by simp)
  simp at s0 s1 s2 s3 s4 s5 s6
  have HG := Lib.hid (ReSt.first hf.drop)
  clear hf hq H5 r0 rz0 r1 rz1 r2 rz2 r3 rz3 r4 rz4 r5 rz5 r6 rz6 hlr
  refine bodyPost_ret (v := .agg #[.int .i64 4, .int .i64 (rdNum wd1), .int .i64 (rdNum wd2), .string ⟨#[]⟩, .slice none 0 0, .slice none 0 0, .slice none 0 0]) (by simp [results, Tryz.results69, go_sem, s0, s1, s2, s3, s4, s5, s6]) rfl (reAns_is HO.out HG.out)
set_option maxHeartbeats 3200000 in
set_option maxRecDepth 100000 in
theorem table_of (d : Nat) (hC : ElemC d) (w0 : World) (b : Nat) (w : World) (l : List UInt8) (hE : EnvAll w0) (h : Rest w0 b l w) (hl : l.length ≤ 1048576) :
    Calls Tryz.prog 70 #[.pointer (some ⟨b, 0, none⟩), .int .i64 ((d : Int) + 1)] w (ReAns w0 b w (iTable (iVal d) (d != 0) l)) := by
  have HE := Lib.hid hE
  have H := Lib.hid ((ReSt.start h).new 28 7 #[.int .i64 0, .int .i64 0, .int .i64 0, .string ⟨#[]⟩, .slice none 0 0, .slice none 0 0, .slice none 0 0] rfl)
  clear hE h
  obtain ⟨wd1, l1, hn1⟩ : ∃ a c, nextW l = (a, c) := ⟨_, _, rfl⟩
  have hw1 := nextW_wt l
  have HM1 := fun (W : World) (hR : Rest w0 b l W) => next_any w0 b l W hR (hl)
  unfold NextQ at HM1
  rw [hn1] at HM1 hw1
  simp only at HM1 hw1
  have HN1 := Lib.hid HM1
  clear HM1
  obtain ⟨wd2, l2, hn2⟩ : ∃ a c, nextW l1 = (a, c) := ⟨_, _, rfl⟩
  have hw2 := nextW_wt l1
  have HM2 := fun (W : World) (hR : Rest w0 b l1 W) => next_any w0 b l1 W hR (by omega)
  unfold NextQ at HM2
  rw [hn2] at HM2 hw2
  simp only at HM2 hw2
  have HN2 := Lib.hid HM2
  clear HM2
  have hxv := iElems_val (fun w l => (iVal_val d w l).1) (d != 0) 12 [] l2 (by simp)
  have hxw := iElems_wt (iVal_wt d) (d != 0) 12 [] l2
  have HO := iTable_is (V := iVal d) (deep := d != 0) hn1 hn2
  have HEL := fun (W : World) (hR : Rest w0 b l2 W) => hC w0 b W l2 HE.out hR (by omega)
  unfold ElAns at HEL
  generalize iElems (iVal d) (d != 0) 12 [] l2 = o at hxv hxw HO HEL
  obtain ⟨xs, l3⟩ := o
  simp only [List.length_nil, wts] at hxv hxw HO HEL
  have HO2 := Lib.hid HO
  have HL2 := Lib.hid HEL
  have HXV := Lib.hid hxv
  have htr := trim34_le wd1
  clear HO HEL hxv hn1 hn2 hC
  go_enter Tryz.func70, Tryz.ntmps70
  go_wp2_with fail
  refine (HN1.out _ H.out.rest).mono ?_
  rintro e w1 ⟨rfl, hg, hr⟩
  have H1 := Lib.hid (H.out.read hg hr)
  clear hg hr H
  go_wp2_with fail
  refine (unquoted_any wd1 _ (by omega)).mono ?_
  rintro e w2 ⟨rfl, hb⟩
  have H2 := Lib.hid (H1.out.below hb)
  clear hb H1
  have hsp := implSplit_any (trim34 wd1) 32 w2 (by omega) ((HE.out.below (H2.out.rest.2.1))).2.1
  rw [show ((32 : UInt8).toNat : Int) = 32 from rfl] at hsp
  have HSP := Lib.hid hsp
  clear hsp
  go_wp2_with fail
  refine HSP.out.mono ?_
  rintro e w3 ⟨g5, rfl, hown, hb⟩
  obtain ⟨cc, hcc⟩ : ∃ cc, cc = pcsB 32 (trim34 wd1) := ⟨_, rfl⟩
  rw [← hcc] at hown ⊢
  have HCC := Lib.hid hcc
  have H3 := Lib.hid (H2.out.belowAdd hb (rowA_at hown))
  clear hown hb hcc H2 HSP
  go_wp2_with fail
  refine (HN2.out _ H3.out.rest).mono ?_
  rintro e w4 ⟨rfl, hg, hr⟩
  have H4 := Lib.hid (H3.out.read hg hr)
  clear hg hr H3
  go_wp2_with fail
  refine (HL2.out _ H4.out.rest).mono ?_
  rintro e w5 ⟨v8, f8, rfl, hM⟩
  obtain ⟨A8, c8, e8, hrd⟩ := hM.objs.out.1.read.lst_form
  injection e8 with e8 _
  subst e8
  have HRO := Lib.hid (rowsOfLists_any A8 c8 xs HXV.out (by omega) w5 hrd)
  have H5 := Lib.hid (H4.out.trans1 hM)
  clear hM hrd H4
  go_wp2_with fail
  refine HRO.out.mono ?_
  rintro e w6 ⟨v9, f9, rfl, hM⟩
  obtain ⟨A9, c9, e9, -⟩ := hM.read.lst_form
  injection e9 with e9 _
  subst e9
  rw [List.length_map] at hM ⊢
  have H6 := Lib.hid (H5.out.plus hM)
  clear hM H5 HRO
  go_wp2_with fail
  refine (value5_any 0 0 ⟨#[]⟩ none (some ⟨g5, 0, none⟩) A9 0 0 cc.length cc.length xs.length c9 w6).mono ?_
  rintro e w7 ⟨rfl, hb⟩
  have h7 := H6.out.below hb
  have h8 := (ReSt.nth (L1 := [_, _]) h7).alter fun o => o.close0 (xs := cc.map .str) (fun w' => OwL.strs w' cc) (by simp)
  have H8 := Lib.hid (h8.noLst.value 5 0 0 ⟨#[]⟩)
  clear hb h7 h8 H6
  have hbr := (ReSt.nth (L1 := [_, _]) H8.out).box
  have r0 := hbr.cellAt 0 (by simp)
  have rz0 := hbr.frozenAt 0
  have r1 := hbr.cellAt 1 (by simp)
  have rz1 := hbr.frozenAt 1
  have r2 := hbr.cellAt 2 (by simp)
  have rz2 := hbr.frozenAt 2
  have r3 := hbr.cellAt 3 (by simp)
  have rz3 := hbr.frozenAt 3
  have r4 := hbr.cellAt 4 (by simp)
  have rz4 := hbr.frozenAt 4
  have r5 := hbr.cellAt 5 (by simp)
  have rz5 := hbr.frozenAt 5
  have r6 := hbr.cellAt 6 (by simp)
  have rz6 := hbr.frozenAt 6
  have hlr := (hbr.lt _ rfl).2
  simp at r0 rz0 r1 rz1 r2 rz2 r3 rz3 r4 rz4 r5 rz5 r6 rz6
  clear hbr
  go_wp2_with fail
  have hf := (ReSt.nth (L1 := [_, _]) H8.out).set7 [.int .i64 5, .int .i64 0, .int .i64 0, .string ⟨#[]⟩, .slice none 0 0, .slice (some ⟨g5, 0, none⟩) cc.length cc.length, .slice A9 xs.length c9] rfl
  simp only [World.setCells, Nat.zero_add, Nat.reduceAdd] at hf
  generalize (((((((w7.setCell ⟨w.heap.size, 0, none⟩ (.int .i64 5)).setCell ⟨w.heap.size, 1, none⟩ (.int .i64 0)).setCell ⟨w.heap.size, 2, none⟩ (.int .i64 0)).setCell ⟨w.heap.size, 3, none⟩ (.string ⟨#[]⟩)).setCell ⟨w.heap.size, 4, none⟩ (.slice none 0 0)).setCell ⟨w.heap.size, 5, none⟩ (.slice (some ⟨g5, 0, none⟩) cc.length cc.length)).setCell ⟨w.heap.size, 6, none⟩ (.slice A9 xs.length c9)) = W7 at hf ⊢
  have hq := hf.box
  have s0 := hq.cellAt 0 (by simp)
  have s1 := hq.cellAt 1 (by simp)
  have s2 := hq.cellAt 2 (by simp)
  have s3 := hq.cellAt 3 (by simp)
  have s4 := hq.cellAt 4 (by simp)
  have s5 := hq.cellAt 5 (by simp)
  have s6 := hq.cellAt 6 (by simp)
  simp at s0 s1 s2 s3 s4 s5 s6
  have HG := Lib.hid (ReSt.first hf.drop)
  clear hf hq H8 r0 rz0 r1 rz1 r2 rz2 r3 rz3 r4 rz4 r5 rz5 r6 rz6 hlr
  refine bodyPost_ret (v := .agg #[.int .i64 5, .int .i64 0, .int .i64 0, .string ⟨#[]⟩, .slice none 0 0, .slice (some ⟨g5, 0, none⟩) cc.length cc.length, .slice A9 xs.length c9]) (by simp [results, Tryz.results70, go_sem, s0, s1, s2, s3, s4, s5, s6]) rfl (reAns_is (by rw [HO2.out, HCC.out]; rfl) HG.out)
set_option maxHeartbeats 3200000 in
set_option maxRecDepth 100000 in
theorem value_of (d : Nat) (hC : ElemC d) : ValC (d + 1) := by
  intro w0 b w l word hE h hl hwl
  rw [show (((d + 1 : Nat)) : Int) = (d : Int) + 1 from by omega]
  have HC := Lib.hid hC
  clear hC
  have HE := Lib.hid hE
  have H := Lib.hid ((ReSt.start h).new 28 7 #[.int .i64 0, .int .i64 0, .int .i64 0, .string ⟨#[]⟩, .slice none 0 0, .slice none 0 0, .slice none 0 0] rfl)
  clear hE h
  by_cases k1 : word = [91]
  · subst k1
    have HO := iVal_1 d l
    have HEL := fun (W : World) (hR : Rest w0 b l W) => HC.out w0 b W l HE.out hR hl
    unfold ElAns at HEL
    generalize iElems (iVal d) (d != 0) 12 [] l = o at HO HEL
    obtain ⟨xs, l3⟩ := o
    simp only at HO HEL
    have HO2 := Lib.hid HO
    have HL2 := Lib.hid HEL
    clear HO HEL
    go_enter Tryz.func28, Tryz.ntmps28
    go_wp2_with fail
    refine (HL2.out _ H.out.rest).mono ?_
    rintro e w5 ⟨v8, f8, rfl, hM⟩
    obtain ⟨A8, c8, e8, -⟩ := hM.objs.out.1.read.lst_form
    injection e8 with e8 _
    subst e8
    have H5 := Lib.hid (H.out.trans1 hM).list
    clear hM H
    go_wp2_with fail
    refine (value3_any 0 0 ⟨#[]⟩ A8 none none xs.length c8 0 0 0 0 w5).mono ?_
    rintro e w6 ⟨rfl, hb⟩
    have H6 := Lib.hid (H5.out.below hb)
    clear hb H5
    have hbr := (ReSt.nth (L1 := [_]) H6.out).box
    have r0 := hbr.cellAt 0 (by simp)
    have rz0 := hbr.frozenAt 0
    have r1 := hbr.cellAt 1 (by simp)
    have rz1 := hbr.frozenAt 1
    have r2 := hbr.cellAt 2 (by simp)
    have rz2 := hbr.frozenAt 2
    have r3 := hbr.cellAt 3 (by simp)
    have rz3 := hbr.frozenAt 3
    have r4 := hbr.cellAt 4 (by simp)
    have rz4 := hbr.frozenAt 4
    have r5 := hbr.cellAt 5 (by simp)
    have rz5 := hbr.frozenAt 5
    have r6 := hbr.cellAt 6 (by simp)
    have rz6 := hbr.frozenAt 6
    have hlr := (hbr.lt _ rfl).2
    simp at r0 rz0 r1 rz1 r2 rz2 r3 rz3 r4 rz4 r5 rz5 r6 rz6
    clear hbr
    go_wp2_with fail
    have hf := (ReSt.nth (L1 := [_]) H6.out).set7 [.int .i64 3, .int .i64 0, .int .i64 0, .string ⟨#[]⟩, .slice A8 xs.length c8, .slice none 0 0, .slice none 0 0] rfl
    simp only [World.setCells, Nat.zero_add, Nat.reduceAdd] at hf
    generalize (((((((w6.setCell ⟨w.heap.size, 0, none⟩ (.int .i64 3)).setCell ⟨w.heap.size, 1, none⟩ (.int .i64 0)).setCell ⟨w.heap.size, 2, none⟩ (.int .i64 0)).setCell ⟨w.heap.size, 3, none⟩ (.string ⟨#[]⟩)).setCell ⟨w.heap.size, 4, none⟩ (.slice A8 xs.length c8)).setCell ⟨w.heap.size, 5, none⟩ (.slice none 0 0)).setCell ⟨w.heap.size, 6, none⟩ (.slice none 0 0)) = W7 at hf ⊢
    have hq := hf.box
    have s0 := hq.cellAt 0 (by simp)
    have s1 := hq.cellAt 1 (by simp)
    have s2 := hq.cellAt 2 (by simp)
    have s3 := hq.cellAt 3 (by simp)
    have s4 := hq.cellAt 4 (by simp)
    have s5 := hq.cellAt 5 (by simp)
    have s6 := hq.cellAt 6 (by simp)
    simp at s0 s1 s2 s3 s4 s5 s6
    have HG := Lib.hid (ReSt.first hf.drop)
    clear hf hq H6 r0 rz0 r1 rz1 r2 rz2 r3 rz3 r4 rz4 r5 rz5 r6 rz6 hlr
    refine bodyPost_ret (v := .agg #[.int .i64 3, .int .i64 0, .int .i64 0, .string ⟨#[]⟩, .slice A8 xs.length c8, .slice none 0 0, .slice none 0 0]) (by simp [results, Tryz.results28, go_sem, s0, s1, s2, s3, s4, s5, s6]) rfl (reAns_is HO2.out HG.out)
  · have e1 : (word == [91]) = false := by simpa using k1
    by_cases k2 : word = [114, 97, 110, 103, 101]
    · subst k2
      have HO := iVal_2 d l
      have HEL := fun (W : World) (hR : Rest w0 b l W) => stream_any w0 b W l HE.out hR hl
      have hv : IsVal (iStream l).1 := by have := (iVal_val (d + 1) [114, 97, 110, 103, 101] l).1; rw [HO] at this; exact this
      unfold ReAns at HEL
      generalize iStream l = o at HO HEL hv
      obtain ⟨v, l3⟩ := o
      simp only at HO HEL hv
      have HO2 := Lib.hid HO
      have HL2 := Lib.hid HEL
      have HV := Lib.hid hv
      clear HO HEL hv e1
      go_enter Tryz.func28, Tryz.ntmps28
      go_wp2_with fail
      refine (HL2.out _ H.out.rest).mono ?_
      rintro e w5 ⟨cs, f8, rfl, hM⟩
      obtain ⟨yy0, yy1, yy2, yy3, yy4, yn4, yc4, yy5, yn5, yc5, yy6, yn6, yc6, rfl⟩ := HV.out.form hM.objs.out.1.read
      have H6 := Lib.hid (H.out.trans1 hM)
      clear hM H
      have hbr := (ReSt.nth (L1 := [_]) H6.out).box
      have r0 := hbr.cellAt 0 (by simp)
      have rz0 := hbr.frozenAt 0
      have r1 := hbr.cellAt 1 (by simp)
      have rz1 := hbr.frozenAt 1
      have r2 := hbr.cellAt 2 (by simp)
      have rz2 := hbr.frozenAt 2
      have r3 := hbr.cellAt 3 (by simp)
      have rz3 := hbr.frozenAt 3
      have r4 := hbr.cellAt 4 (by simp)
      have rz4 := hbr.frozenAt 4
      have r5 := hbr.cellAt 5 (by simp)
      have rz5 := hbr.frozenAt 5
      have r6 := hbr.cellAt 6 (by simp)
      have rz6 := hbr.frozenAt 6
      have hlr := (hbr.lt _ rfl).2
      simp at r0 rz0 r1 rz1 r2 rz2 r3 rz3 r4 rz4 r5 rz5 r6 rz6
      clear hbr
      go_wp2_with fail
      have hf := (ReSt.nth (L1 := [_]) H6.out).set7 [.int .i64 yy0, .int .i64 yy1, .int .i64 yy2, .string yy3, .slice yy4 yn4 yc4, .slice yy5 yn5 yc5, .slice yy6 yn6 yc6] rfl
      simp only [World.setCells, Nat.zero_add, Nat.reduceAdd] at hf
      generalize (((((((w5.setCell ⟨w.heap.size, 0, none⟩ (.int .i64 yy0)).setCell ⟨w.heap.size, 1, none⟩ (.int .i64 yy1)).setCell ⟨w.heap.size, 2, none⟩ (.int .i64 yy2)).setCell ⟨w.heap.size, 3, none⟩ (.string yy3)).setCell ⟨w.heap.size, 4, none⟩ (.slice yy4 yn4 yc4)).setCell ⟨w.heap.size, 5, none⟩ (.slice yy5 yn5 yc5)).setCell ⟨w.heap.size, 6, none⟩ (.slice yy6 yn6 yc6)) = W7 at hf ⊢
      have hq := hf.box
      have s0 := hq.cellAt 0 (by simp)
      have s1 := hq.cellAt 1 (by simp)
      have s2 := hq.cellAt 2 (by simp)
      have s3 := hq.cellAt 3 (by simp)
      have s4 := hq.cellAt 4 (by simp)
      have s5 := hq.cellAt 5 (by simp)
      have s6 := hq.cellAt 6 (by simp)
      simp at s0 s1 s2 s3 s4 s5 s6
      have HG := Lib.hid (ReSt.first hf.drop)
      clear hf hq H6 r0 rz0 r1 rz1 r2 rz2 r3 rz3 r4 rz4 r5 rz5 r6 rz6 hlr
      refine bodyPost_ret (v := .agg #[.int .i64 yy0, .int .i64 yy1, .int .i64 yy2, .string yy3, .slice yy4 yn4 yc4, .slice yy5 yn5 yc5, .slice yy6 yn6 yc6]) (by simp [results, Tryz.results28, go_sem, s0, s1, s2, s3, s4, s5, s6]) rfl (reAns_is HO2.out HG.out)
    have e2 : (word == [114, 97, 110, 103, 101]) = false := by simpa using k2
    by_cases k3 : word = [116, 97, 98, 108, 101]
    · subst k3
      have HO := iVal_3 d l
      have HEL := fun (W : World) (hR : Rest w0 b l W) => table_of d HC.out w0 b W l HE.out hR hl
      have hv : IsVal (iTable (iVal d) (d != 0) l).1 := by have := (iVal_val (d + 1) [116, 97, 98, 108, 101] l).1; rw [HO] at this; exact this
      unfold ReAns at HEL
      generalize iTable (iVal d) (d != 0) l = o at HO HEL hv
      obtain ⟨v, l3⟩ := o
      simp only at HO HEL hv
      have HO2 := Lib.hid HO
      have HL2 := Lib.hid HEL
      have HV := Lib.hid hv
      clear HO HEL hv e1
      go_enter Tryz.func28, Tryz.ntmps28
      go_wp2_with fail
      refine (HL2.out _ H.out.rest).mono ?_
      rintro e w5 ⟨cs, f8, rfl, hM⟩
      obtain ⟨yy0, yy1, yy2, yy3, yy4, yn4, yc4, yy5, yn5, yc5, yy6, yn6, yc6, rfl⟩ := HV.out.form hM.objs.out.1.read
      have H6 := Lib.hid (H.out.trans1 hM)
      clear hM H
      have hbr := (ReSt.nth (L1 := [_]) H6.out).box
      have r0 := hbr.cellAt 0 (by simp)
      have rz0 := hbr.frozenAt 0
      have r1 := hbr.cellAt 1 (by simp)
      have rz1 := hbr.frozenAt 1
      have r2 := hbr.cellAt 2 (by simp)
      have rz2 := hbr.frozenAt 2
      have r3 := hbr.cellAt 3 (by simp)
      have rz3 := hbr.frozenAt 3
      have r4 := hbr.cellAt 4 (by simp)
      have rz4 := hbr.frozenAt 4
      have r5 := hbr.cellAt 5 (by simp)
      have rz5 := hbr.frozenAt 5
      have r6 := hbr.cellAt 6 (by simp)
      have rz6 := hbr.frozenAt 6
      have hlr := (hbr.lt _ rfl).2
      simp at r0 rz0 r1 rz1 r2 rz2 r3 rz3 r4 rz4 r5 rz5 r6 rz6
      clear hbr
      go_wp2_with fail
      have hf := (ReSt.nth (L1 := [_]) H6.out).set7 [.int .i64 yy0, .int .i64 yy1, .int .i64 yy2, .string yy3, .slice yy4 yn4 yc4, .slice yy5 yn5 yc5, .slice yy6 yn6 yc6] rfl
      simp only [World.setCells, Nat.zero_add, Nat.reduceAdd] at hf
      generalize (((((((w5.setCell ⟨w.heap.size, 0, none⟩ (.int .i64 yy0)).setCell ⟨w.heap.size, 1, none⟩ (.int .i64 yy1)).setCell ⟨w.heap.size, 2, none⟩ (.int .i64 yy2)).setCell ⟨w.heap.size, 3, none⟩ (.string yy3)).setCell ⟨w.heap.size, 4, none⟩ (.slice yy4 yn4 yc4)).setCell ⟨w.heap.size, 5, none⟩ (.slice yy5 yn5 yc5)).setCell ⟨w.heap.size, 6, none⟩ (.slice yy6 yn6 yc6)) = W7 at hf ⊢
      have hq := hf.box
      have s0 := hq.cellAt 0 (by simp)
      have s1 := hq.cellAt 1 (by simp)
      have s2 := hq.cellAt 2 (by simp)
      have s3 := hq.cellAt 3 (by simp)
      have s4 := hq.cellAt 4 (by simp)
      have s5 := hq.cellAt 5 (by simp)
      have s6 := hq.cellAt 6 (by simp)
      simp at s0 s1 s2 s3 s4 s5 s6
      have HG := Lib.hid (ReSt.first hf.drop)
      clear hf hq H6 r0 rz0 r1 rz1 r2 rz2 r3 rz3 r4 rz4 r5 rz5 r6 rz6 hlr
      refine bodyPost_ret (v := .agg #[.int .i64 yy0, .int .i64 yy1, .int .i64 yy2, .string yy3, .slice yy4 yn4 yc4, .slice yy5 yn5 yc5, .slice yy6 yn6 yc6]) (by simp [results, Tryz.results28, go_sem, s0, s1, s2, s3, s4, s5, s6]) rfl (reAns_is HO2.out HG.out)
    have e3 : (word == [116, 97, 98, 108, 101]) = false := by simpa using k3
    by_cases k4 : word = [101, 114, 114, 111, 114]
    · subst k4
      obtain ⟨wd1, l1, hn1⟩ : ∃ a c, nextW l = (a, c) := ⟨_, _, rfl⟩
      have hw1 := nextW_wt l
      have HM1 := fun (W : World) (hR : Rest w0 b l W) => next_any w0 b l W hR (hl)
      unfold NextQ at HM1
      rw [hn1] at HM1 hw1
      simp only at HM1 hw1
      have HN1 := Lib.hid HM1
      clear HM1
      have HO := Lib.hid (iVal_4 d hn1)
      clear hn1 e1 e2 e3
      go_enter Tryz.func28, Tryz.ntmps28
      go_wp2_with fail
      refine (HN1.out _ H.out.rest).mono ?_
      rintro e w1 ⟨rfl, hg, hr⟩
      have H1 := Lib.hid (H.out.read hg hr)
      clear hg hr H
      go_wp2_with fail
      refine (implErrCode_any wd1 _).mono ?_
      rintro e w2 ⟨rfl, hb⟩
      have H2 := Lib.hid (H1.out.below hb)
      clear hb H1
      go_wp2_with fail
      refine (implErrorValue_any (eCode wd1) w2).mono ?_
      rintro e w3 ⟨rfl, hb⟩
      have H3 := Lib.hid ((H2.out.below hb).flat (ow_vErr (eCode wd1)))
      clear hb H2
      have hbr := (ReSt.nth (L1 := [_]) H3.out).box
      have r0 := hbr.cellAt 0 (by simp)
      have rz0 := hbr.frozenAt 0
      have r1 := hbr.cellAt 1 (by simp)
      have rz1 := hbr.frozenAt 1
      have r2 := hbr.cellAt 2 (by simp)
      have rz2 := hbr.frozenAt 2
      have r3 := hbr.cellAt 3 (by simp)
      have rz3 := hbr.frozenAt 3
      have r4 := hbr.cellAt 4 (by simp)
      have rz4 := hbr.frozenAt 4
      have r5 := hbr.cellAt 5 (by simp)
      have rz5 := hbr.frozenAt 5
      have r6 := hbr.cellAt 6 (by simp)
      have rz6 := hbr.frozenAt 6
      have hlr := (hbr.lt _ rfl).2
      simp at r0 rz0 r1 rz1 r2 rz2 r3 rz3 r4 rz4 r5 rz5 r6 rz6
      clear hbr
      go_wp2_with fail
      have hf := (ReSt.nth (L1 := [_]) H3.out).set7 [.int .i64 6, .int .i64 (eCode wd1), .int .i64 0, .string ⟨#[]⟩, .slice none 0 0, .slice none 0 0, .slice none 0 0] rfl
      simp only [World.setCells, Nat.zero_add, Nat.reduceAdd] at hf
      generalize (((((((w3.setCell ⟨w.heap.size, 0, none⟩ (.int .i64 6)).setCell ⟨w.heap.size, 1, none⟩ (.int .i64 (eCode wd1))).setCell ⟨w.heap.size, 2, none⟩ (.int .i64 0)).setCell ⟨w.heap.size, 3, none⟩ (.string ⟨#[]⟩)).setCell ⟨w.heap.size, 4, none⟩ (.slice none 0 0)).setCell ⟨w.heap.size, 5, none⟩ (.slice none 0 0)).setCell ⟨w.heap.size, 6, none⟩ (.slice none 0 0)) = W7 at hf ⊢
      have hq := hf.box
      have s0 := hq.cellAt 0 (by simp)
      have s1 := hq.cellAt 1 (by simp)
      have s2 := hq.cellAt 2 (by simp)
      have s3 := hq.cellAt 3 (by simp)
      have s4 := hq.cellAt 4 (by simp)
      have s5 := hq.cellAt 5 (by simp)
      have s6 := hq.cellAt 6 (by simp)
      simp at s0 s1 s2 s3 s4 s5 s6
      have HG := Lib.hid (ReSt.first hf.drop)
      clear hf hq H3 r0 rz0 r1 rz1 r2 rz2 r3 rz3 r4 rz4 r5 rz5 r6 rz6 hlr
      refine bodyPost_ret (v := .agg #[.int .i64 6, .int .i64 (eCode wd1), .int .i64 0, .string ⟨#[]⟩, .slice none 0 0, .slice none 0 0, .slice none 0 0]) (by simp [results, Tryz.results28, go_sem, s0, s1, s2, s3, s4, s5, s6]) rfl (reAns_is HO.out HG.out)
    have e4 : (word == [101, 114, 114, 111, 114]) = false := by simpa using k4
    have HPF := Lib.hid (fun W => Tryz.strings_HasPrefix ⟨word.toArray⟩ ⟨#[34]⟩ W)
    have hun := iVal_5 d (l := l) k1 k2 k3 k4
    have htr := trim34_le word
    cases k5 : [34].isPrefixOf word with
    | true =>
      have HO := Lib.hid (hun.trans (if_pos k5))
      have hp5 : Lib.hasPrefix word [34] = true := k5
      have HP5 := Lib.hid hp5
      clear hun k1 k2 k3 k4 k5 hp5
      go_enter Tryz.func28, Tryz.ntmps28
      go_wp2_with fail
      refine (HPF.out _).mono ?_
      rintro e w1 ⟨rfl, hw⟩
      subst hw
      rw [show Lib.hasPrefix (⟨word.toArray⟩ : ByteArray).data.toList (⟨#[34]⟩ : ByteArray).data.toList = true from HP5.out]
      go_wp2_with fail
      refine (unquoted_any word _ (by omega)).mono ?_
      rintro e w2 ⟨rfl, hb⟩
      have H2 := Lib.hid (H.out.below hb)
      clear hb H
      go_wp2_with fail
      refine (implTextValue_any ⟨(trim34 word).toArray⟩ w2).mono ?_
      rintro e w3 ⟨rfl, hb⟩
      have H3 := Lib.hid ((H2.out.below hb).flat (ow_vTxt (trim34 word)))
      clear hb H2
      have hbr := (ReSt.nth (L1 := [_]) H3.out).box
      have r0 := hbr.cellAt 0 (by simp)
      have rz0 := hbr.frozenAt 0
      have r1 := hbr.cellAt 1 (by simp)
      have rz1 := hbr.frozenAt 1
      have r2 := hbr.cellAt 2 (by simp)
      have rz2 := hbr.frozenAt 2
      have r3 := hbr.cellAt 3 (by simp)
      have rz3 := hbr.frozenAt 3
      have r4 := hbr.cellAt 4 (by simp)
      have rz4 := hbr.frozenAt 4
      have r5 := hbr.cellAt 5 (by simp)
      have rz5 := hbr.frozenAt 5
      have r6 := hbr.cellAt 6 (by simp)
      have rz6 := hbr.frozenAt 6
      have hlr := (hbr.lt _ rfl).2
      simp at r0 rz0 r1 rz1 r2 rz2 r3 rz3 r4 rz4 r5 rz5 r6 rz6
      clear hbr
      go_wp2_with fail
      have hf := (ReSt.nth (L1 := [_]) H3.out).set7 [.int .i64 2, .int .i64 0, .int .i64 0, .string ⟨(trim34 word).toArray⟩, .slice none 0 0, .slice none 0 0, .slice none 0 0] rfl
      simp only [World.setCells, Nat.zero_add, Nat.reduceAdd] at hf
      generalize (((((((w3.setCell ⟨w.heap.size, 0, none⟩ (.int .i64 2)).setCell ⟨w.heap.size, 1, none⟩ (.int .i64 0)).setCell ⟨w.heap.size, 2, none⟩ (.int .i64 0)).setCell ⟨w.heap.size, 3, none⟩ (.string ⟨(trim34 word).toArray⟩)).setCell ⟨w.heap.size, 4, none⟩ (.slice none 0 0)).setCell ⟨w.heap.size, 5, none⟩ (.slice none 0 0)).setCell ⟨w.heap.size, 6, none⟩ (.slice none 0 0)) = W7 at hf ⊢
      have hq := hf.box
      have s0 := hq.cellAt 0 (by simp)
      have s1 := hq.cellAt 1 (by simp)
      have s2 := hq.cellAt 2 (by simp)
      have s3 := hq.cellAt 3 (by simp)
      have s4 := hq.cellAt 4 (by simp)
      have s5 := hq.cellAt 5 (by simp)
      have s6 := hq.cellAt 6 (by simp)
      simp at s0 s1 s2 s3 s4 s5 s6
      have HG := Lib.hid (ReSt.first hf.drop)
      clear hf hq H3 r0 rz0 r1 rz1 r2 rz2 r3 rz3 r4 rz4 r5 rz5 r6 rz6 hlr
      refine bodyPost_ret (v := .agg #[.int .i64 2, .int .i64 0, .int .i64 0, .string ⟨(trim34 word).toArray⟩, .slice none 0 0, .slice none 0 0, .slice none 0 0]) (by simp [results, Tryz.results28, go_sem, s0, s1, s2, s3, s4, s5, s6]) rfl (reAns_is HO.out HG.out)
    | false =>
      have HO := Lib.hid (hun.trans (if_neg (by rw [k5]; simp)))
      have hp5 : Lib.hasPrefix word [34] = false := k5
      have HP5 := Lib.hid hp5
      clear hun k1 k2 k3 k4 k5 hp5
      go_enter Tryz.func28, Tryz.ntmps28
      go_wp2_with fail
      refine (HPF.out _).mono ?_
      rintro e w1 ⟨rfl, hw⟩
      subst hw
      rw [show Lib.hasPrefix (⟨word.toArray⟩ : ByteArray).data.toList (⟨#[34]⟩ : ByteArray).data.toList = false from HP5.out]
      go_wp2_with fail
      refine (readNumber_any word _ (by omega) (HE.out.below (H.out.rest.2.1))).mono ?_
      rintro e w2 ⟨rfl, hb⟩
      have H2 := Lib.hid (H.out.below hb)
      clear hb H
      go_wp2_with fail
      refine (implNumberValue_any (rdNum word) w2).mono ?_
      rintro e w3 ⟨rfl, hb⟩
      have H3 := Lib.hid ((H2.out.below hb).flat (ow_vNum (rdNum word)))
      clear hb H2
      have hbr := (ReSt.nth (L1 := [_]) H3.out).box
      have r0 := hbr.cellAt 0 (by simp)
      have rz0 := hbr.frozenAt 0
      have r1 := hbr.cellAt 1 (by simp)
      have rz1 := hbr.frozenAt 1
      have r2 := hbr.cellAt 2 (by simp)
      have rz2 := hbr.frozenAt 2
      have r3 := hbr.cellAt 3 (by simp)
      have rz3 := hbr.frozenAt 3
      have r4 := hbr.cellAt 4 (by simp)
      have rz4 := hbr.frozenAt 4
      have r5 := hbr.cellAt 5 (by simp)
      have rz5 := hbr.frozenAt 5
      have r6 := hbr.cellAt 6 (by simp)
      have rz6 := hbr.frozenAt 6
      have hlr := (hbr.lt _ rfl).2
      simp at r0 rz0 r1 rz1 r2 rz2 r3 rz3 r4 rz4 r5 rz5 r6 rz6
      clear hbr
      go_wp2_with fail
      have hf := (ReSt.nth (L1 := [_]) H3.out).set7 [.int .i64 1, .int .i64 (rdNum word), .int .i64 0, .string ⟨#[]⟩, .slice none 0 0, .slice none 0 0, .slice none 0 0] rfl
      simp only [World.setCells, Nat.zero_add, Nat.reduceAdd] at hf
      generalize (((((((w3.setCell ⟨w.heap.size, 0, none⟩ (.int .i64 1)).setCell ⟨w.heap.size, 1, none⟩ (.int .i64 (rdNum word))).setCell ⟨w.heap.size, 2, none⟩ (.int .i64 0)).setCell ⟨w.heap.size, 3, none⟩ (.string ⟨#[]⟩)).setCell ⟨w.heap.size, 4, none⟩ (.slice none 0 0)).setCell ⟨w.heap.size, 5, none⟩ (.slice none 0 0)).setCell ⟨w.heap.size, 6, none⟩ (.slice none 0 0)) = W7 at hf ⊢
      have hq := hf.box
      have s0 := hq.cellAt 0 (by simp)
      have s1 := hq.cellAt 1 (by simp)
      have s2 := hq.cellAt 2 (by simp)
      have s3 := hq.cellAt 3 (by simp)
      have s4 := hq.cellAt 4 (by simp)
      have s5 := hq.cellAt 5 (by simp)
      have s6 := hq.cellAt 6 (by simp)
      simp at s0 s1 s2 s3 s4 s5 s6
      have HG := Lib.hid (ReSt.first hf.drop)
      clear hf hq H3 r0 rz0 r1 rz1 r2 rz2 r3 rz3 r4 rz4 r5 rz5 r6 rz6 hlr
      refine bodyPost_ret (v := .agg #[.int .i64 1, .int .i64 (rdNum word), .int .i64 0, .string ⟨#[]⟩, .slice none 0 0, .slice none 0 0, .slice none 0 0]) (by simp [results, Tryz.results28, go_sem, s0, s1, s2, s3, s4, s5, s6]) rfl (reAns_is HO.out HG.out)
theorem elemC_any : ∀ d, d ≤ 3 → ElemC d
  | 0, h => elements_of 0 h (fun h => absurd rfl h)
  | d + 1, h => elements_of (d + 1) h (fun _ => value_of d (elemC_any d (by omega)))
theorem value3C : ValC 3 := value_of 2 (elemC_any 2 (by decide))
end Go.Proofs.YtddjkhabcbcnmaaGreatDoor

/-
  The program's ParseValue. (Written by genrd.py.)
-/

namespace Go.Proofs.YtddjkhabcbcnmaaGreatDoor
open Go.RowKit
set_option linter.unusedVariables false

/-- The reader's box goes: what it built stays. -/
theorem MSt.reader {w wx wy : World} {b : Nat} {L M : List Asn} {e : TypeId} {x : List Value} {l : List UInt8} (h : MSt w (boxA e 1 b x :: L) wx) (h2 : ReSt w b wx l M wy) : MSt w (M ++ L) wy := by
  have hp := List.pairwise_cons.1 h.1.2
  have hg := h2.2.2.1
  refine ⟨⟨fun a ha => ?_, List.pairwise_append.2 ⟨h2.2.1.2, hp.2, fun a ha y hy k hk hk' => ?_⟩⟩, h2.rest.2.1⟩
  · rcases List.mem_append.1 ha with ha | ha
    · have := h2.2.1.1 a ha
      exact ⟨this.1, this.2.1, fun k hk => ⟨Nat.le_trans h.2.size (this.2.2 k hk).1, (this.2.2 k hk).2⟩⟩
    · have hat := h.1.1 a (List.mem_cons_of_mem _ ha)
      exact hat.keep hg.size fun k hf => hg.block k (hat.2.2 k hf).2 fun e => by
        have hb : b = k := by injection e with e; exact e.symm
        subst hb
        exact hp.1 a ha b (show (Value.slice (some ⟨b, 0, none⟩) 1 1).ownBlock = some b from rfl) hf
  · have e1 := ((h2.2.1.1 a ha).2.2 k hk).1
    have e2 := ((h.1.1 y (List.mem_cons_of_mem _ hy)).2.2 k hk').2
    omega
theorem pv_yesI {s : List UInt8} (hs : s ≠ []) (h : fmtB (iParse s) = tb s) : pvVal s = iParse s ∧ pvOk s = true := by
  rcases pv_i hs with h1 | h1
  · exact h1.2
  · exact absurd h h1.1
theorem pv_noI {s : List UInt8} (h : ¬ (s ≠ [] ∧ fmtB (iParse s) = tb s)) : pvVal s = vZero ∧ pvOk s = false := by
  by_cases hs : s = []
  · subst hs; exact pv_nil
  · rcases pv_i hs with h1 | h1
    · exact absurd ⟨hs, h1.1⟩ h
    · exact h1.2
set_option maxHeartbeats 3200000 in
set_option maxRecDepth 100000 in
theorem implParseValue_any (L : List UInt8) (hL : L.length ≤ 1048576) (w : World) (hE : EnvAll w) :
    Calls Tryz.prog 10 #[.string ⟨L.toArray⟩] w (PvTop w L) := by
  have HE := Lib.hid hE
  have h1 := ((MSt.start w).new 28 7 #[.int .i64 0, .int .i64 0, .int .i64 0, .string ⟨#[]⟩, .slice none 0 0, .slice none 0 0, .slice none 0 0] rfl).new 55 1 #[.string ⟨L.toArray⟩] rfl
  rw [World.size_alloc] at h1
  have hR : Rest w (w.heap.size + 1) L _ := ⟨Nat.le_succ _, h1.bel, own_base0 h1.box (Nat.zero_le _)⟩
  have H1 := Lib.hid h1
  have HRS := Lib.hid hR
  clear hE h1 hR
  obtain ⟨wd, l1, hn⟩ : ∃ a c, nextW L = (a, c) := ⟨_, _, rfl⟩
  have hw1 := nextW_wt L
  have HM := fun (W : World) (hR : Rest w (w.heap.size + 1) L W) => next_any w (w.heap.size + 1) L W hR hL
  unfold NextQ at HM
  rw [hn] at HM hw1
  simp only at HM hw1
  obtain ⟨v, l2, hv⟩ : ∃ a c, iVal 3 wd l1 = (a, c) := ⟨_, _, rfl⟩
  have hip : iParse L = v := by unfold iParse; rw [hn]; simp only; rw [hv]
  have HVC := fun (W : World) (hR : Rest w (w.heap.size + 1) l1 W) => value3C w (w.heap.size + 1) W l1 wd HE.out hR (by omega) (by omega)
  unfold ReAns at HVC
  rw [hv] at HVC
  simp only at HVC
  have hwt := iParse_wt L
  have hvl := (iParse_val L).1
  have hno := fun hh => pv_noI (s := L) hh
  have his := fun a b => pv_yesI (s := L) a b
  rw [hip] at hwt hvl hno his
  have HNX := Lib.hid HM
  have HVL := Lib.hid HVC
  have HV := Lib.hid hvl
  have hwv : v.wt ≤ 1048576 := by omega
  clear hn hv hip HM HVC hvl hwt
  by_cases hz : L = []
  · have HO := Lib.hid (hno (fun hh => hh.1 hz))
    have hqe : (L == ([] : List UInt8)) = true := by rw [hz]; rfl
    clear hno his hz
    go_enter Tryz.func10, Tryz.ntmps10
    go_wp2_with fail
    refine (HNX.out _ HRS.out).mono ?_
    rintro e w2 ⟨rfl, hg, hr⟩
    have HS := Lib.hid ((ReSt.start HRS.out).read hg hr)
    clear hg hr
    go_wp2_with fail
    refine (HVL.out _ HS.out.rest).mono ?_
    rintro e w3 ⟨cs, f2, rfl, hM⟩
    obtain ⟨qy0, qy1, qy2, qy3, qy4, qn4, qc4, qy5, qn5, qc5, qy6, qn6, qc6, rfl⟩ := HV.out.form hM.objs.out.1.read
    have H3 := Lib.hid ((H1.out.reader (HS.out.trans1 hM)).new 28 7 #[.int .i64 qy0, .int .i64 qy1, .int .i64 qy2, .string qy3, .slice qy4 qn4 qc4, .slice qy5 qn5 qc5, .slice qy6 qn6 qc6] rfl)
    clear hM HS H1 HRS
    have hbr := (MSt.nth (L1 := [_, _]) H3.out).box
    have r0 := hbr.cellAt 0 (by simp)
    have rz0 := hbr.frozenAt 0
    have r1 := hbr.cellAt 1 (by simp)
    have rz1 := hbr.frozenAt 1
    have r2 := hbr.cellAt 2 (by simp)
    have rz2 := hbr.frozenAt 2
    have r3 := hbr.cellAt 3 (by simp)
    have rz3 := hbr.frozenAt 3
    have r4 := hbr.cellAt 4 (by simp)
    have rz4 := hbr.frozenAt 4
    have r5 := hbr.cellAt 5 (by simp)
    have rz5 := hbr.frozenAt 5
    have r6 := hbr.cellAt 6 (by simp)
    have rz6 := hbr.frozenAt 6
    have hlr := (hbr.lt _ rfl).2
    simp at r0 rz0 r1 rz1 r2 rz2 r3 rz3 r4 rz4 r5 rz5 r6 rz6
    clear hbr
    go_wp2_with fail
    have HZ := Lib.hid (MSt.flat H3.out ow_vZero)
    clear H3
    have hf := (MSt.nth (L1 := [_, _, _]) HZ.out).set7 [.int .i64 0, .int .i64 0, .int .i64 0, .string ⟨#[]⟩, .slice none 0 0, .slice none 0 0, .slice none 0 0] rfl
    simp only [World.setCells, Nat.zero_add, Nat.reduceAdd] at hf
    generalize ((((((((w3.alloc (.cells #[.int .i64 qy0, .int .i64 qy1, .int .i64 qy2, .string qy3, .slice qy4 qn4 qc4, .slice qy5 qn5 qc5, .slice qy6 qn6 qc6] 28)).setCell ⟨w.heap.size, 0, none⟩ (.int .i64 0)).setCell ⟨w.heap.size, 1, none⟩ (.int .i64 0)).setCell ⟨w.heap.size, 2, none⟩ (.int .i64 0)).setCell ⟨w.heap.size, 3, none⟩ (.string ⟨#[]⟩)).setCell ⟨w.heap.size, 4, none⟩ (.slice none 0 0)).setCell ⟨w.heap.size, 5, none⟩ (.slice none 0 0)).setCell ⟨w.heap.size, 6, none⟩ (.slice none 0 0)) = W7 at hf ⊢
    have hq := hf.box
    have s0 := hq.cellAt 0 (by simp)
    have s1 := hq.cellAt 1 (by simp)
    have s2 := hq.cellAt 2 (by simp)
    have s3 := hq.cellAt 3 (by simp)
    have s4 := hq.cellAt 4 (by simp)
    have s5 := hq.cellAt 5 (by simp)
    have s6 := hq.cellAt 6 (by simp)
    simp at s0 s1 s2 s3 s4 s5 s6
    have HG := Lib.hid (MSt.first hf.drop)
    clear hf hq HZ r0 rz0 r1 rz1 r2 rz2 r3 rz3 r4 rz4 r5 rz5 r6 rz6 hlr
    refine bodyPost_ret (v := .tuple #[.agg #[.int .i64 0, .int .i64 0, .int .i64 0, .string ⟨#[]⟩, .slice none 0 0, .slice none 0 0, .slice none 0 0], .bool false]) (by simp [results, Tryz.results10, go_sem, s0, s1, s2, s3, s4, s5, s6]) rfl (pvTop_is HO.out HG.out)
  · have hqe : (L == ([] : List UInt8)) = false := by simpa using hz
    obtain ⟨Q, hQ⟩ : ∃ Q : List UInt8, Q = (fmtB v).data.toList := ⟨_, rfl⟩
    have hfm : fmtB v = ⟨Q.toArray⟩ := by rw [hQ]
    have HF := Lib.hid (fun cs W hh hp => implFormat_any HV.out hwv cs W hh hp)
    rw [hfm] at HF his hno
    clear hQ
    by_cases hq : Q = L
    · subst hq
      have HO := Lib.hid (his hz rfl)
      clear hno his hz hfm
      go_enter Tryz.func10, Tryz.ntmps10
      go_wp2_with fail
      refine (HNX.out _ HRS.out).mono ?_
      rintro e w2 ⟨rfl, hg, hr⟩
      have HS := Lib.hid ((ReSt.start HRS.out).read hg hr)
      clear hg hr
      go_wp2_with fail
      refine (HVL.out _ HS.out.rest).mono ?_
      rintro e w3 ⟨cs, f2, rfl, hM⟩
      obtain ⟨qy0, qy1, qy2, qy3, qy4, qn4, qc4, qy5, qn5, qc5, qy6, qn6, qc6, rfl⟩ := HV.out.form hM.objs.out.1.read
      have H3 := Lib.hid ((H1.out.reader (HS.out.trans1 hM)).new 28 7 #[.int .i64 qy0, .int .i64 qy1, .int .i64 qy2, .string qy3, .slice qy4 qn4 qc4, .slice qy5 qn5 qc5, .slice qy6 qn6 qc6] rfl)
      clear hM HS H1 HRS
      go_wp2_with fail
      generalize (w3.alloc (.cells #[.int .i64 qy0, .int .i64 qy1, .int .i64 qy2, .string qy3, .slice qy4 qn4 qc4, .slice qy5 qn5 qc5, .slice qy6 qn6 qc6] 28)) = w4 at H3 ⊢
      generalize w3.heap.size = bx at H3 ⊢
      have HR := Lib.hid (MSt.swap H3.out).read
      refine (HF.out _ w4 HR.out (HE.out.below H3.out.bel).2.2).mono ?_
      rintro e w5 ⟨rfl, hb⟩
      have H5 := Lib.hid (H3.out.later hb)
      clear hb H3 HR
      have hby := (MSt.nth (L1 := []) H5.out).box
      have y0 := hby.cellAt 0 (by simp)
      have y1 := hby.cellAt 1 (by simp)
      have y2 := hby.cellAt 2 (by simp)
      have y3 := hby.cellAt 3 (by simp)
      have y4 := hby.cellAt 4 (by simp)
      have y5 := hby.cellAt 5 (by simp)
      have y6 := hby.cellAt 6 (by simp)
      have hly := (hby.lt _ rfl).2
      simp at y0 y1 y2 y3 y4 y5 y6
      clear hby
      have hbr := (MSt.nth (L1 := [_, _]) H5.out).box
      have r0 := hbr.cellAt 0 (by simp)
      have rz0 := hbr.frozenAt 0
      have r1 := hbr.cellAt 1 (by simp)
      have rz1 := hbr.frozenAt 1
      have r2 := hbr.cellAt 2 (by simp)
      have rz2 := hbr.frozenAt 2
      have r3 := hbr.cellAt 3 (by simp)
      have rz3 := hbr.frozenAt 3
      have r4 := hbr.cellAt 4 (by simp)
      have rz4 := hbr.frozenAt 4
      have r5 := hbr.cellAt 5 (by simp)
      have rz5 := hbr.frozenAt 5
      have r6 := hbr.cellAt 6 (by simp)
      have rz6 := hbr.frozenAt 6
      have hlr := (hbr.lt _ rfl).2
      simp at r0 rz0 r1 rz1 r2 rz2 r3 rz3 r4 rz4 r5 rz5 r6 rz6
      clear hbr
      go_wp2_with fail
      clear y0 y1 y2 y3 y4 y5 y6 hly
      have HZ := Lib.hid H5.out.swap
      clear H5
      have hf := (MSt.nth (L1 := [_, _]) HZ.out).set7 [.int .i64 qy0, .int .i64 qy1, .int .i64 qy2, .string qy3, .slice qy4 qn4 qc4, .slice qy5 qn5 qc5, .slice qy6 qn6 qc6] rfl
      simp only [World.setCells, Nat.zero_add, Nat.reduceAdd] at hf
      generalize (((((((w5.setCell ⟨w.heap.size, 0, none⟩ (.int .i64 qy0)).setCell ⟨w.heap.size, 1, none⟩ (.int .i64 qy1)).setCell ⟨w.heap.size, 2, none⟩ (.int .i64 qy2)).setCell ⟨w.heap.size, 3, none⟩ (.string qy3)).setCell ⟨w.heap.size, 4, none⟩ (.slice qy4 qn4 qc4)).setCell ⟨w.heap.size, 5, none⟩ (.slice qy5 qn5 qc5)).setCell ⟨w.heap.size, 6, none⟩ (.slice qy6 qn6 qc6)) = W7 at hf ⊢
      have hq := hf.box
      have s0 := hq.cellAt 0 (by simp)
      have s1 := hq.cellAt 1 (by simp)
      have s2 := hq.cellAt 2 (by simp)
      have s3 := hq.cellAt 3 (by simp)
      have s4 := hq.cellAt 4 (by simp)
      have s5 := hq.cellAt 5 (by simp)
      have s6 := hq.cellAt 6 (by simp)
      simp at s0 s1 s2 s3 s4 s5 s6
      have HG := Lib.hid (MSt.first hf.drop)
      clear hf hq HZ r0 rz0 r1 rz1 r2 rz2 r3 rz3 r4 rz4 r5 rz5 r6 rz6 hlr
      refine bodyPost_ret (v := .tuple #[.agg #[.int .i64 qy0, .int .i64 qy1, .int .i64 qy2, .string qy3, .slice qy4 qn4 qc4, .slice qy5 qn5 qc5, .slice qy6 qn6 qc6], .bool true]) (by simp [results, Tryz.results10, go_sem, s0, s1, s2, s3, s4, s5, s6]) rfl (pvTop_is HO.out HG.out)
    · have HO := Lib.hid (hno (fun hh => hq (by have := congrArg (fun z : ByteArray => z.data.toList) hh.2; simpa [tb] using this)))
      have hqn : (Q == L) = false := by simpa using hq
      have hqm : (Q != L) = true := by simpa using hq
      clear hno his hq hz hfm
      go_enter Tryz.func10, Tryz.ntmps10
      go_wp2_with fail
      refine (HNX.out _ HRS.out).mono ?_
      rintro e w2 ⟨rfl, hg, hr⟩
      have HS := Lib.hid ((ReSt.start HRS.out).read hg hr)
      clear hg hr
      go_wp2_with fail
      refine (HVL.out _ HS.out.rest).mono ?_
      rintro e w3 ⟨cs, f2, rfl, hM⟩
      obtain ⟨qy0, qy1, qy2, qy3, qy4, qn4, qc4, qy5, qn5, qc5, qy6, qn6, qc6, rfl⟩ := HV.out.form hM.objs.out.1.read
      have H3 := Lib.hid ((H1.out.reader (HS.out.trans1 hM)).new 28 7 #[.int .i64 qy0, .int .i64 qy1, .int .i64 qy2, .string qy3, .slice qy4 qn4 qc4, .slice qy5 qn5 qc5, .slice qy6 qn6 qc6] rfl)
      clear hM HS H1 HRS
      go_wp2_with fail
      generalize (w3.alloc (.cells #[.int .i64 qy0, .int .i64 qy1, .int .i64 qy2, .string qy3, .slice qy4 qn4 qc4, .slice qy5 qn5 qc5, .slice qy6 qn6 qc6] 28)) = w4 at H3 ⊢
      generalize w3.heap.size = bx at H3 ⊢
      have HR := Lib.hid (MSt.swap H3.out).read
      refine (HF.out _ w4 HR.out (HE.out.below H3.out.bel).2.2).mono ?_
      rintro e w5 ⟨rfl, hb⟩
      have H5 := Lib.hid (H3.out.later hb)
      clear hb H3 HR
      have hby := (MSt.nth (L1 := []) H5.out).box
      have y0 := hby.cellAt 0 (by simp)
      have y1 := hby.cellAt 1 (by simp)
      have y2 := hby.cellAt 2 (by simp)
      have y3 := hby.cellAt 3 (by simp)
      have y4 := hby.cellAt 4 (by simp)
      have y5 := hby.cellAt 5 (by simp)
      have y6 := hby.cellAt 6 (by simp)
      have hly := (hby.lt _ rfl).2
      simp at y0 y1 y2 y3 y4 y5 y6
      clear hby
      have hbr := (MSt.nth (L1 := [_, _]) H5.out).box
      have r0 := hbr.cellAt 0 (by simp)
      have rz0 := hbr.frozenAt 0
      have r1 := hbr.cellAt 1 (by simp)
      have rz1 := hbr.frozenAt 1
      have r2 := hbr.cellAt 2 (by simp)
      have rz2 := hbr.frozenAt 2
      have r3 := hbr.cellAt 3 (by simp)
      have rz3 := hbr.frozenAt 3
      have r4 := hbr.cellAt 4 (by simp)
      have rz4 := hbr.frozenAt 4
      have r5 := hbr.cellAt 5 (by simp)
      have rz5 := hbr.frozenAt 5
      have r6 := hbr.cellAt 6 (by simp)
      have rz6 := hbr.frozenAt 6
      have hlr := (hbr.lt _ rfl).2
      simp at r0 rz0 r1 rz1 r2 rz2 r3 rz3 r4 rz4 r5 rz5 r6 rz6
      clear hbr
      go_wp2_with fail
      clear y0 y1 y2 y3 y4 y5 y6 hly
      have HZ := Lib.hid (MSt.flat H5.out ow_vZero)
      clear H5
      have hf := (MSt.nth (L1 := [_, _, _]) HZ.out).set7 [.int .i64 0, .int .i64 0, .int .i64 0, .string ⟨#[]⟩, .slice none 0 0, .slice none 0 0, .slice none 0 0] rfl
      simp only [World.setCells, Nat.zero_add, Nat.reduceAdd] at hf
      generalize (((((((w5.setCell ⟨w.heap.size, 0, none⟩ (.int .i64 0)).setCell ⟨w.heap.size, 1, none⟩ (.int .i64 0)).setCell ⟨w.heap.size, 2, none⟩ (.int .i64 0)).setCell ⟨w.heap.size, 3, none⟩ (.string ⟨#[]⟩)).setCell ⟨w.heap.size, 4, none⟩ (.slice none 0 0)).setCell ⟨w.heap.size, 5, none⟩ (.slice none 0 0)).setCell ⟨w.heap.size, 6, none⟩ (.slice none 0 0)) = W7 at hf ⊢
      have hq := hf.box
      have s0 := hq.cellAt 0 (by simp)
      have s1 := hq.cellAt 1 (by simp)
      have s2 := hq.cellAt 2 (by simp)
      have s3 := hq.cellAt 3 (by simp)
      have s4 := hq.cellAt 4 (by simp)
      have s5 := hq.cellAt 5 (by simp)
      have s6 := hq.cellAt 6 (by simp)
      simp at s0 s1 s2 s3 s4 s5 s6
      have HG := Lib.hid (MSt.first hf.drop)
      clear hf hq HZ r0 rz0 r1 rz1 r2 rz2 r3 rz3 r4 rz4 r5 rz5 r6 rz6 hlr
      refine bodyPost_ret (v := .tuple #[.agg #[.int .i64 0, .int .i64 0, .int .i64 0, .string ⟨#[]⟩, .slice none 0 0, .slice none 0 0, .slice none 0 0], .bool false]) (by simp [results, Tryz.results10, go_sem, s0, s1, s2, s3, s4, s5, s6]) rfl (pvTop_is HO.out HG.out)
end Go.Proofs.YtddjkhabcbcnmaaGreatDoor

/-
  The law FnExactParseValue. (Written by genmlaw.py.)
-/

namespace Go.Proofs.YtddjkhabcbcnmaaGreatDoor
open Go.RowKit
set_option linter.unusedVariables false

theorem specPv_c (L : List UInt8) (hL : L.length ≤ 1048576) (w : World) (d : Dt) (b : Bool) (hd : d = pvVal L) (hb : b = pvOk L) : Calls Tryz.prog 16 #[.string ⟨L.toArray⟩] w fun e w' => ∃ cs fp, e = .returned (.tuple #[.agg cs.toArray, .bool b]) ∧ Ow w' d cs fp ∧ New w.heap.size fp ∧ Below w.heap.size w w' := by
  subst hd hb
  refine (specParseValue_any L hL w).mono ?_
  rintro e w' ⟨cs, fp, rfl, h⟩
  exact ⟨cs, fp, rfl, h.objs.out.1, h.objs.out.2, h.bel⟩
theorem implPv_c (L : List UInt8) (hL : L.length ≤ 1048576) (w : World) (hE : EnvAll w) (d : Dt) (b : Bool) (hd : d = pvVal L) (hb : b = pvOk L) : Calls Tryz.prog 10 #[.string ⟨L.toArray⟩] w fun e w' => ∃ cs fp, e = .returned (.tuple #[.agg cs.toArray, .bool b]) ∧ Ow w' d cs fp ∧ New w.heap.size fp ∧ Below w.heap.size w w' := by
  subst hd hb
  refine (implParseValue_any L hL w hE).mono ?_
  rintro e w' ⟨cs, fp, rfl, h⟩
  exact ⟨cs, fp, rfl, h.objs.out.1, h.objs.out.2, h.bel⟩
theorem cnts_strB : ∀ ss : List ByteArray, cnts (ss.map .str) ≤ ss.length
  | [] => by simp [cnts]
  | s :: ss => by have := cnts_strB ss; simp [cnts, Dt.cnt]; omega
set_option maxHeartbeats 3200000 in
set_option maxRecDepth 100000 in
theorem fnExactParseValue_walk (w : World) (s : List UInt8) (hs : s.length ≤ 9223372036854775807) (hE : EnvAll w) :
    Calls Tryz.prog 6 #[.string ⟨s.toArray⟩] w fun e w' => e = .returned (.bool true) ∧ Below w.heap.size w w' := by
  by_cases hb : 1048576 < s.length
  · have hgt : decide ((1048576 : Int) < (s.length : Int)) = true := by simp; omega
    go_enter Tryz.func6, Tryz.ntmps6
    go_wp2_with fail
    go_ret
    exact ⟨rfl, Below.refl _ _⟩
  · have hL : s.length ≤ 1048576 := by omega
    have hgt : decide ((1048576 : Int) < (s.length : Int)) = false := by simp; omega
    clear hb
    obtain ⟨d, hd⟩ : ∃ d, d = pvVal s := ⟨_, rfl⟩
    obtain ⟨ok, hok⟩ : ∃ ok, ok = pvOk s := ⟨_, rfl⟩
    have hv := (pv_val s).1
    have hw := pv_wt s
    rw [← hd] at hv hw
    have HS := Lib.hid (fun W => specPv_c s hL W d ok hd hok)
    have HI := Lib.hid (fun W hE => implPv_c s hL W hE d ok hd hok)
    have HE := Lib.hid hE
    clear hd hok hE
    have HD := Lib.hid hv
    obtain ⟨k4, n4, s4, t4, l4, c4, r4, hl4, hr4⟩ := hv
    have hw4 : Dt.wt (.lst l4) ≤ 1048576 := by simp [Dt.wt, wts] at hw ⊢; omega
    have hw5 : Dt.wt (.lst (c4.map .str)) ≤ 1048576 := by simp [Dt.wt, wts] at hw ⊢; omega
    have hw6 : Dt.wt (.lst r4) ≤ 1048576 := by simp [Dt.wt, wts] at hw ⊢; omega
    obtain ⟨K, hK⟩ : ∃ K, K = 1 + cnts l4 + cnts (c4.map .str) + cnts r4 := ⟨_, rfl⟩
    have hKb : K ≤ 1099511627776 := by have h1 := cnts_le_vals hl4; have h2 := cnts_strB c4; have h3 := cnts_rows r4 hr4; simp [Dt.wt] at hw4 hw5 hw6; omega
    have HK := Lib.hid hK
    have HL := Lib.hid (And.intro hl4 hr4)
    have HW := Lib.hid (And.intro hw4 (And.intro hw5 hw6))
    clear hK hl4 hr4 hw4 hw5 hw6 hw
    go_enter Tryz.func6, Tryz.ntmps6
    have HO0 := Lib.hid (Objs.nil w.heap.size w)
    have HB0 := Lib.hid (Below.refl w.heap.size w)
    go_wp2_with fail
    refine (HS.out _).mono ?_
    rintro e w1 ⟨csp, fpp, rfl, how, hnf, hb⟩
    obtain ⟨py0, py1, py2, py3, py4, pn4, pc4, py5, pn5, pc5, py6, pn6, pc6, rfl⟩ := HD.out.form how.read
    have HO1 := Lib.hid (HO0.out.add hb HB0.out.size (owA_at how hnf))
    have HB1 := Lib.hid (HB0.out.trans (hb.mono HB0.out.size))
    clear hb HO0 HB0 how hnf
    go_wp2_with fail
    have HO2 := Lib.hid (HO1.out.new HB1.out.size 28 7 #[.int .i64 py0, .int .i64 py1, .int .i64 py2, .string py3, .slice py4 pn4 pc4, .slice py5 pn5 pc5, .slice py6 pn6 pc6] rfl)
    have HB2 := Lib.hid (HB1.out.alloc HB1.out.size (.cells #[.int .i64 py0, .int .i64 py1, .int .i64 py2, .string py3, .slice py4 pn4 pc4, .slice py5 pn5 pc5, .slice py6 pn6 pc6] 28))
    clear HO1 HB1
    refine (HI.out _ (HE.out.below HB2.out)).mono ?_
    rintro e w3 ⟨csq, fpq, rfl, how, hnf, hb⟩
    obtain ⟨qy0, qy1, qy2, qy3, qy4, qn4, qc4, qy5, qn5, qc5, qy6, qn6, qc6, rfl⟩ := HD.out.form how.read
    have HO3 := Lib.hid (HO2.out.add hb HB2.out.size (owA_at how hnf))
    have HB3 := Lib.hid (HB2.out.trans (hb.mono HB2.out.size))
    clear hb HO2 HB2 how hnf
    have hbx := (Objs.nth (L1 := [_]) HO3.out).rowAt
    have fBp0 := hbx.cellAt 0 (by simp)
    have fBp1 := hbx.cellAt 1 (by simp)
    have fBp2 := hbx.cellAt 2 (by simp)
    have fBp3 := hbx.cellAt 3 (by simp)
    have fBp4 := hbx.cellAt 4 (by simp)
    have fBp5 := hbx.cellAt 5 (by simp)
    have fBp6 := hbx.cellAt 6 (by simp)
    have fBplt := (hbx.lt _ rfl).2
    simp at fBp0 fBp1 fBp2 fBp3 fBp4 fBp5 fBp6
    clear hbx
    have hoo : (ok != ok) = false := by cases ok <;> rfl
    go_wp2_with fail
    have HO4 := Lib.hid (HO3.out.new HB3.out.size 28 7 #[.int .i64 qy0, .int .i64 qy1, .int .i64 qy2, .string qy3, .slice qy4 qn4 qc4, .slice qy5 qn5 qc5, .slice qy6 qn6 qc6] rfl)
    have HB4 := Lib.hid (HB3.out.alloc HB3.out.size (.cells #[.int .i64 qy0, .int .i64 qy1, .int .i64 qy2, .string qy3, .slice qy4 qn4 qc4, .slice qy5 qn5 qc5, .slice qy6 qn6 qc6] 28))
    clear HO3 HB3
    clear fBp0 fBp1 fBp2 fBp3 fBp4 fBp5 fBp6 fBplt
    refine (eqValue_any HD.out HD.out _ _ _ (Objs.nth (L1 := [_]) HO4.out).out.1.read (Objs.nth (L1 := [_, _, _]) HO4.out).out.1.read).mono ?_
    rintro e w5 ⟨b, rfl, hbi, hb⟩
    obtain rfl : b = true := hbi.2 rfl
    clear hbi
    have HO5 := Lib.hid (HO4.out.below hb)
    have HB5 := Lib.hid (HB4.out.trans (hb.mono HB4.out.size))
    clear hb HO4 HB4
    have hbx := HO5.out.rowAt
    have fBq0 := hbx.cellAt 0 (by simp)
    have fBq1 := hbx.cellAt 1 (by simp)
    have fBq2 := hbx.cellAt 2 (by simp)
    have fBq3 := hbx.cellAt 3 (by simp)
    have fBq4 := hbx.cellAt 4 (by simp)
    have fBq5 := hbx.cellAt 5 (by simp)
    have fBq6 := hbx.cellAt 6 (by simp)
    have fBqlt := (hbx.lt _ rfl).2
    simp at fBq0 fBq1 fBq2 fBq3 fBq4 fBq5 fBq6
    clear hbx
    go_wp2_with fail
    clear fBq0 fBq1 fBq2 fBq3 fBq4 fBq5 fBq6 fBqlt
    refine (markVal_any k4 n4 s4 t4 l4 c4 r4 HL.out.1 HL.out.2 _ 1 K fpq _ (Objs.nth (L1 := [_]) HO5.out).out.1 (Objs.nth (L1 := [_]) HO5.out).out.2.1 HK.out hKb HW.out.1 HW.out.2.1 HW.out.2.2).mono ?_
    rintro e w6 ⟨rfl, how, hF⟩
    have HO6 := Lib.hid ((Objs.nth (L1 := [_]) HO5.out).mark hF how HB5.out.size)
    have HB6 := Lib.hid (HB5.out.trans (hF.below (Objs.nth (L1 := [_]) HO5.out).out.2.2 HB5.out.size))
    clear hF how HO5 HB5
    have hKn : ¬ (K : Int) < 0 := by omega
    have hKK : ((K : Int) != (K : Int)) = false := by simp
    have hbx := (Objs.nth (L1 := [_]) HO6.out).rowAt
    have fBq0 := hbx.cellAt 0 (by simp)
    have fBq1 := hbx.cellAt 1 (by simp)
    have fBq2 := hbx.cellAt 2 (by simp)
    have fBq3 := hbx.cellAt 3 (by simp)
    have fBq4 := hbx.cellAt 4 (by simp)
    have fBq5 := hbx.cellAt 5 (by simp)
    have fBq6 := hbx.cellAt 6 (by simp)
    have fBqlt := (hbx.lt _ rfl).2
    simp at fBq0 fBq1 fBq2 fBq3 fBq4 fBq5 fBq6
    clear hbx
    go_wp2_with fail
    clear fBq0 fBq1 fBq2 fBq3 fBq4 fBq5 fBq6 fBqlt
    refine (heldVal_any k4 n4 s4 t4 l4 c4 r4 HL.out.1 HL.out.2 _ 1 K _ _ HO6.out.out.1.read (Nat.le_refl _) HK.out hKb HW.out.1 HW.out.2.1 HW.out.2.2).mono ?_
    rintro e w7 ⟨rfl, hb⟩
    have HO7 := Lib.hid (HO6.out.below hb)
    have HB7 := Lib.hid (HB6.out.trans (hb.mono HB6.out.size))
    clear hb HO6 HB6
    go_wp2_with fail
    refine (HI.out _ (HE.out.below HB7.out)).mono ?_
    rintro e w8 ⟨csz, fpz, rfl, how, hnf, hb⟩
    obtain ⟨zy0, zy1, zy2, zy3, zy4, zn4, zc4, zy5, zn5, zc5, zy6, zn6, zc6, rfl⟩ := HD.out.form how.read
    have HO8 := Lib.hid (HO7.out.add hb HB7.out.size (owA_at how hnf))
    have HB8 := Lib.hid (HB7.out.trans (hb.mono HB7.out.size))
    clear hb HO7 HB7 how hnf
    have hbx := (Objs.nth (L1 := [_, _, _]) HO8.out).rowAt
    have fBp0 := hbx.cellAt 0 (by simp)
    have fBp1 := hbx.cellAt 1 (by simp)
    have fBp2 := hbx.cellAt 2 (by simp)
    have fBp3 := hbx.cellAt 3 (by simp)
    have fBp4 := hbx.cellAt 4 (by simp)
    have fBp5 := hbx.cellAt 5 (by simp)
    have fBp6 := hbx.cellAt 6 (by simp)
    have fBplt := (hbx.lt _ rfl).2
    simp at fBp0 fBp1 fBp2 fBp3 fBp4 fBp5 fBp6
    clear hbx
    go_wp2_with fail
    have HO9 := Lib.hid (HO8.out.new HB8.out.size 28 7 #[.int .i64 zy0, .int .i64 zy1, .int .i64 zy2, .string zy3, .slice zy4 zn4 zc4, .slice zy5 zn5 zc5, .slice zy6 zn6 zc6] rfl)
    have HB9 := Lib.hid (HB8.out.alloc HB8.out.size (.cells #[.int .i64 zy0, .int .i64 zy1, .int .i64 zy2, .string zy3, .slice zy4 zn4 zc4, .slice zy5 zn5 zc5, .slice zy6 zn6 zc6] 28))
    clear HO8 HB8
    clear fBp0 fBp1 fBp2 fBp3 fBp4 fBp5 fBp6 fBplt
    refine (eqValue_any HD.out HD.out _ _ _ (Objs.nth (L1 := [_]) HO9.out).out.1.read (Objs.nth (L1 := [_, _, _, _, _]) HO9.out).out.1.read).mono ?_
    rintro e w10 ⟨b, rfl, hbi, hb⟩
    obtain rfl : b = true := hbi.2 rfl
    clear hbi
    have HO10 := Lib.hid (HO9.out.below hb)
    have HB10 := Lib.hid (HB9.out.trans (hb.mono HB9.out.size))
    clear hb HO9 HB9
    have hbx := (Objs.nth (L1 := [_, _, _]) HO10.out).rowAt
    have fBq0 := hbx.cellAt 0 (by simp)
    have fBq1 := hbx.cellAt 1 (by simp)
    have fBq2 := hbx.cellAt 2 (by simp)
    have fBq3 := hbx.cellAt 3 (by simp)
    have fBq4 := hbx.cellAt 4 (by simp)
    have fBq5 := hbx.cellAt 5 (by simp)
    have fBq6 := hbx.cellAt 6 (by simp)
    have fBqlt := (hbx.lt _ rfl).2
    simp at fBq0 fBq1 fBq2 fBq3 fBq4 fBq5 fBq6
    clear hbx
    go_wp2_with fail
    clear fBq0 fBq1 fBq2 fBq3 fBq4 fBq5 fBq6 fBqlt
    refine (heldVal_any k4 n4 s4 t4 l4 c4 r4 HL.out.1 HL.out.2 _ 1 K _ _ (Objs.nth (L1 := [_, _]) HO10.out).out.1.read (Nat.le_refl _) HK.out hKb HW.out.1 HW.out.2.1 HW.out.2.2).mono ?_
    rintro e w11 ⟨rfl, hb⟩
    have HO11 := Lib.hid (HO10.out.below hb)
    have HB11 := Lib.hid (HB10.out.trans (hb.mono HB10.out.size))
    clear hb HO10 HB10
    go_wp2_with fail
    go_ret
    exact ⟨rfl, HB11.out⟩
end Go.Proofs.YtddjkhabcbcnmaaGreatDoor
