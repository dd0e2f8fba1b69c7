/-
  Texts that the proof rests on, put together: Rd3, Rd4, PvDraw, FnTextLaw.
-/
import Derived.Test.YtddjkhabcbcnmaaGreatDoorMgValueTextCard33
import Derived.Test.YtddjkhabcbcnmaaGreatDoorMgValueTextCard23
import Derived.Test.YtddjkhabcbcnmaaGreatDoorMgValueTextCard31
import Derived.Test.YtddjkhabcbcnmaaGreatDoorMgValueTextCard11
import Derived.Test.YtddjkhabcbcnmaaGreatDoorMgValueTextCard32
import Derived.Test.YtddjkhabcbcnmaaGreatDoorMgValueTextCard17
import Derived.Deep.RegionLaw
import Derived.Test.YtddjkhabcbcnmaaGreatDoorMgValueTextCard14
import Derived.Test.YtddjkhabcbcnmaaGreatDoorMgValueTextCard6
/-
  Streams, tables and values of the program's reader. (Written by genrd.py.)
-/

namespace Go.Proofs.YtddjkhabcbcnmaaGreatDoor
open Go.RowKit
set_option linter.unusedVariables false

theorem iVal_1 (d : Nat) (l : List UInt8) : iVal (d + 1) [91] l = (vLst (iElems (iVal d) (d != 0) 12 [] l).1, (iElems (iVal d) (d != 0) 12 [] l).2) := by
  conv => lhs; unfold iVal
  rw [if_pos rfl]
theorem iVal_2 (d : Nat) (l : List UInt8) : iVal (d + 1) [114, 97, 110, 103, 101] l = iStream l := by
  conv => lhs; unfold iVal
  rw [if_neg (by decide), if_pos (by rfl)]
theorem iVal_3 (d : Nat) (l : List UInt8) : iVal (d + 1) [116, 97, 98, 108, 101] l = iTable (iVal d) (d != 0) l := by
  conv => lhs; unfold iVal
  rw [if_neg (by decide), if_neg (by decide), if_pos (by rfl)]
theorem iVal_4 (d : Nat) {l wd l1 : List UInt8} (h : nextW l = (wd, l1)) : iVal (d + 1) [101, 114, 114, 111, 114] l = (vErr (eCode wd), l1) := by
  conv => lhs; unfold iVal
  rw [if_neg (by decide), if_neg (by decide), if_neg (by decide), if_pos (by rfl), h]
theorem iVal_5 (d : Nat) {l word : List UInt8} (h1 : word ≠ [91]) (h2 : word ≠ [114, 97, 110, 103, 101]) (h3 : word ≠ [116, 97, 98, 108, 101]) (h4 : word ≠ [101, 114, 114, 111, 114]) :
    iVal (d + 1) word l = if [34].isPrefixOf word then (vTxt (trim34 word), l) else (vNum (rdNum word), l) := by
  conv => lhs; unfold iVal
  rw [if_neg h1, if_neg (show word ≠ sRange from h2), if_neg (show word ≠ sTable from h3), if_neg (show word ≠ sError from h4)]
theorem iStream_is {l wd1 l1 wd2 l2 : List UInt8} (h1 : nextW l = (wd1, l1)) (h2 : nextW l1 = (wd2, l2)) : iStream l = (vStr (rdNum wd1) (rdNum wd2), l2) := by
  unfold iStream; rw [h1]; simp only; rw [h2]
theorem iTable_is {V : List UInt8 → List UInt8 → Dt × List UInt8} {deep : Bool} {l wd1 l1 wd2 l2 : List UInt8} (h1 : nextW l = (wd1, l1)) (h2 : nextW l1 = (wd2, l2)) :
    iTable V deep l = (vTab ((pcs 32 (trim34 wd1)).map fun x => ⟨x.toArray⟩) ((iElems V deep 12 [] l2).1.map toRow), (iElems V deep 12 [] l2).2) := by
  unfold iTable; rw [h1]; simp only; rw [h2]
set_option maxHeartbeats 1600000 in
set_option maxRecDepth 100000 in
theorem stream_any (w0 : World) (b : Nat) (w : World) (l : List UInt8) (hE : EnvAll w0) (h : Rest w0 b l w) (hl : l.length ≤ 1048576) :
    Calls Tryz.prog 69 #[.pointer (some ⟨b, 0, none⟩)] w (ReAns w0 b w (iStream l)) := by
  have HE := Lib.hid hE
  have H := Lib.hid ((ReSt.start h).new 28 7 #[.int .i64 0, .int .i64 0, .int .i64 0, .string ⟨#[]⟩, .slice none 0 0, .slice none 0 0, .slice none 0 0] rfl)
  clear hE h
  obtain ⟨wd1, l1, hn1⟩ : ∃ a c, nextW l = (a, c) := ⟨_, _, rfl⟩
  have hw1 := nextW_wt l
  have HM1 := fun (W : World) (hR : Rest w0 b l W) => next_any w0 b l W hR (hl)
  unfold NextQ at HM1
  rw [hn1] at HM1 hw1
  simp only at HM1 hw1
  have HN1 := Lib.hid HM1
  clear HM1
  obtain ⟨wd2, l2, hn2⟩ : ∃ a c, nextW l1 = (a, c) := ⟨_, _, rfl⟩
  have hw2 := nextW_wt l1
  have HM2 := fun (W : World) (hR : Rest w0 b l1 W) => next_any w0 b l1 W hR (by omega)
  unfold NextQ at HM2
  rw [hn2] at HM2 hw2
  simp only at HM2 hw2
  have HN2 := Lib.hid HM2
  clear HM2
  have HO := Lib.hid (iStream_is hn1 hn2)
  clear hn1 hn2
  go_enter Tryz.func69, Tryz.ntmps69
  go_wp2_with fail
  refine (HN1.out _ H.out.rest).mono ?_
  rintro e w1 ⟨rfl, hg, hr⟩
  have H1 := Lib.hid (H.out.read hg hr)
  clear hg hr H
  go_wp2_with fail
  refine (readNumber_any wd1 _ (by omega) (HE.out.below (H1.out.rest.2.1))).mono ?_
  rintro e w2 ⟨rfl, hb⟩
  have H2 := Lib.hid (H1.out.below hb)
  clear hb H1
  go_wp2_with fail
  refine (HN2.out _ H2.out.rest).mono ?_
  rintro e w3 ⟨rfl, hg, hr⟩
  have H3 := Lib.hid (H2.out.read hg hr)
  clear hg hr H2
  go_wp2_with fail
  refine (readNumber_any wd2 _ (by omega) (HE.out.below (H3.out.rest.2.1))).mono ?_
  rintro e w4 ⟨rfl, hb⟩
  have H4 := Lib.hid (H3.out.below hb)
  clear hb H3
  go_wp2_with fail
  refine (implStreamValue_any (rdNum wd1) (rdNum wd2) w4).mono ?_
  rintro e w5 ⟨rfl, hb⟩
  have H5 := Lib.hid ((H4.out.below hb).flat (ow_vStr (rdNum wd1) (rdNum wd2)))
  clear hb H4
  have hbr := (ReSt.nth (L1 := [_]) H5.out).box
  have r0 := hbr.cellAt 0 (by simp)
  have rz0 := hbr.frozenAt 0
  have r1 := hbr.cellAt 1 (by simp)
  have rz1 := hbr.frozenAt 1
  have r2 := hbr.cellAt 2 (by simp)
  have rz2 := hbr.frozenAt 2
  have r3 := hbr.cellAt 3 (by simp)
  have rz3 := hbr.frozenAt 3
  have r4 := hbr.cellAt 4 (by simp)
  have rz4 := hbr.frozenAt 4
  have r5 := hbr.cellAt 5 (by simp)
  have rz5 := hbr.frozenAt 5
  have r6 := hbr.cellAt 6 (by simp)
  have rz6 := hbr.frozenAt 6
  have hlr := (hbr.lt _ rfl).2
  simp at r0 rz0 r1 rz1 r2 rz2 r3 rz3 r4 rz4 r5 rz5 r6 rz6
  clear hbr
  go_wp2_with fail
  have hf := (ReSt.nth (L1 := [_]) H5.out).set7 [.int .i64 4, .int .i64 (rdNum wd1), .int .i64 (rdNum wd2), .string ⟨#[]⟩, .slice none 0 0, .slice none 0 0, .slice none 0 0] rfl
  simp only [World.setCells, Nat.zero_add, Nat.reduceAdd] at hf
  generalize (((((((w5.setCell ⟨w.heap.size, 0, none⟩ (.int .i64 4)).setCell ⟨w.heap.size, 1, none⟩ (.int .i64 (rdNum wd1))).setCell ⟨w.heap.size, 2, none⟩ (.int .i64 (rdNum wd2))).setCell ⟨w.heap.size, 3, none⟩ (.string ⟨#[]⟩)).setCell ⟨w.heap.size, 4, none⟩ (.slice none 0 0)).setCell ⟨w.heap.size, 5, none⟩ (.slice none 0 0)).setCell ⟨w.heap.size, 6, none⟩ (.slice none 0 0)) = W7 at hf ⊢
  have hq := hf.box
  have s0 := hq.cellAt 0 (by simp)
  have s1 := hq.cellAt 1 (by simp)
  have s2 := hq.cellAt 2 (by simp)
  have s3 := hq.cellAt 3 (by simp)
  have s4 := hq.cellAt 4 (by simp)
  have s5 := hq.cellAt 5 (by simp)
  have s6 := hq.cellAt 6 (by simp)
  simp at s0 s1 s2 s3 s4 s5 s6
  have HG := Lib.hid (ReSt.first hf.drop)
  clear hf hq H5 r0 rz0 r1 rz1 r2 rz2 r3 rz3 r4 rz4 r5 rz5 r6 rz6 hlr
  refine bodyPost_ret (v := .agg #[.int .i64 4, .int .i64 (rdNum wd1), .int .i64 (rdNum wd2), .string ⟨#[]⟩, .slice none 0 0, .slice none 0 0, .slice none 0 0]) (by simp [results, Tryz.results69, go_sem, s0, s1, s2, s3, s4, s5, s6]) rfl (reAns_is HO.out HG.out)
set_option maxHeartbeats 3200000 in
set_option maxRecDepth 100000 in
theorem table_of (d : Nat) (hC : ElemC d) (w0 : World) (b : Nat) (w : World) (l : List UInt8) (hE : EnvAll w0) (h : Rest w0 b l w) (hl : l.length ≤ 1048576) :
    Calls Tryz.prog 70 #[.pointer (some ⟨b, 0, none⟩), .int .i64 ((d : Int) + 1)] w (ReAns w0 b w (iTable (iVal d) (d != 0) l)) := by
  have HE := Lib.hid hE
  have H := Lib.hid ((ReSt.start h).new 28 7 #[.int .i64 0, .int .i64 0, .int .i64 0, .string ⟨#[]⟩, .slice none 0 0, .slice none 0 0, .slice none 0 0] rfl)
  clear hE h
  obtain ⟨wd1, l1, hn1⟩ : ∃ a c, nextW l = (a, c) := ⟨_, _, rfl⟩
  have hw1 := nextW_wt l
  have HM1 := fun (W : World) (hR : Rest w0 b l W) => next_any w0 b l W hR (hl)
  unfold NextQ at HM1
  rw [hn1] at HM1 hw1
  simp only at HM1 hw1
  have HN1 := Lib.hid HM1
  clear HM1
  obtain ⟨wd2, l2, hn2⟩ : ∃ a c, nextW l1 = (a, c) := ⟨_, _, rfl⟩
  have hw2 := nextW_wt l1
  have HM2 := fun (W : World) (hR : Rest w0 b l1 W) => next_any w0 b l1 W hR (by omega)
  unfold NextQ at HM2
  rw [hn2] at HM2 hw2
  simp only at HM2 hw2
  have HN2 := Lib.hid HM2
  clear HM2
  have hxv := iElems_val (fun w l => (iVal_val d w l).1) (d != 0) 12 [] l2 (by simp)
  have hxw := iElems_wt (iVal_wt d) (d != 0) 12 [] l2
  have HO := iTable_is (V := iVal d) (deep := d != 0) hn1 hn2
  have HEL := fun (W : World) (hR : Rest w0 b l2 W) => hC w0 b W l2 HE.out hR (by omega)
  unfold ElAns at HEL
  generalize iElems (iVal d) (d != 0) 12 [] l2 = o at hxv hxw HO HEL
  obtain ⟨xs, l3⟩ := o
  simp only [List.length_nil, wts] at hxv hxw HO HEL
  have HO2 := Lib.hid HO
  have HL2 := Lib.hid HEL
  have HXV := Lib.hid hxv
  have htr := trim34_le wd1
  clear HO HEL hxv hn1 hn2 hC
  go_enter Tryz.func70, Tryz.ntmps70
  go_wp2_with fail
  refine (HN1.out _ H.out.rest).mono ?_
  rintro e w1 ⟨rfl, hg, hr⟩
  have H1 := Lib.hid (H.out.read hg hr)
  clear hg hr H
  go_wp2_with fail
  refine (unquoted_any wd1 _ (by omega)).mono ?_
  rintro e w2 ⟨rfl, hb⟩
  have H2 := Lib.hid (H1.out.below hb)
  clear hb H1
  have hsp := implSplit_any (trim34 wd1) 32 w2 (by omega) ((HE.out.below (H2.out.rest.2.1))).2.1
  rw [show ((32 : UInt8).toNat : Int) = 32 from rfl] at hsp
  have HSP := Lib.hid hsp
  clear hsp
  go_wp2_with fail
  refine HSP.out.mono ?_
  rintro e w3 ⟨g5, rfl, hown, hb⟩
  obtain ⟨cc, hcc⟩ : ∃ cc, cc = pcsB 32 (trim34 wd1) := ⟨_, rfl⟩
  rw [← hcc] at hown ⊢
  have HCC := Lib.hid hcc
  have H3 := Lib.hid (H2.out.belowAdd hb (rowA_at hown))
  clear hown hb hcc H2 HSP
  go_wp2_with fail
  refine (HN2.out _ H3.out.rest).mono ?_
  rintro e w4 ⟨rfl, hg, hr⟩
  have H4 := Lib.hid (H3.out.read hg hr)
  clear hg hr H3
  go_wp2_with fail
  refine (HL2.out _ H4.out.rest).mono ?_
  rintro e w5 ⟨v8, f8, rfl, hM⟩
  obtain ⟨A8, c8, e8, hrd⟩ := hM.objs.out.1.read.lst_form
  injection e8 with e8 _
  subst e8
  have HRO := Lib.hid (rowsOfLists_any A8 c8 xs HXV.out (by omega) w5 hrd)
  have H5 := Lib.hid (H4.out.trans1 hM)
  clear hM hrd H4
  go_wp2_with fail
  refine HRO.out.mono ?_
  rintro e w6 ⟨v9, f9, rfl, hM⟩
  obtain ⟨A9, c9, e9, -⟩ := hM.read.lst_form
  injection e9 with e9 _
  subst e9
  rw [List.length_map] at hM ⊢
  have H6 := Lib.hid (H5.out.plus hM)
  clear hM H5 HRO
  go_wp2_with fail
  refine (value5_any 0 0 ⟨#[]⟩ none (some ⟨g5, 0, none⟩) A9 0 0 cc.length cc.length xs.length c9 w6).mono ?_
  rintro e w7 ⟨rfl, hb⟩
  have h7 := H6.out.below hb
  have h8 := (ReSt.nth (L1 := [_, _]) h7).alter fun o => o.close0 (xs := cc.map .str) (fun w' => OwL.strs w' cc) (by simp)
  have H8 := Lib.hid (h8.noLst.value 5 0 0 ⟨#[]⟩)
  clear hb h7 h8 H6
  have hbr := (ReSt.nth (L1 := [_, _]) H8.out).box
  have r0 := hbr.cellAt 0 (by simp)
  have rz0 := hbr.frozenAt 0
  have r1 := hbr.cellAt 1 (by simp)
  have rz1 := hbr.frozenAt 1
  have r2 := hbr.cellAt 2 (by simp)
  have rz2 := hbr.frozenAt 2
  have r3 := hbr.cellAt 3 (by simp)
  have rz3 := hbr.frozenAt 3
  have r4 := hbr.cellAt 4 (by simp)
  have rz4 := hbr.frozenAt 4
  have r5 := hbr.cellAt 5 (by simp)
  have rz5 := hbr.frozenAt 5
  have r6 := hbr.cellAt 6 (by simp)
  have rz6 := hbr.frozenAt 6
  have hlr := (hbr.lt _ rfl).2
  simp at r0 rz0 r1 rz1 r2 rz2 r3 rz3 r4 rz4 r5 rz5 r6 rz6
  clear hbr
  go_wp2_with fail
  have hf := (ReSt.nth (L1 := [_, _]) H8.out).set7 [.int .i64 5, .int .i64 0, .int .i64 0, .string ⟨#[]⟩, .slice none 0 0, .slice (some ⟨g5, 0, none⟩) cc.length cc.length, .slice A9 xs.length c9] rfl
  simp only [World.setCells, Nat.zero_add, Nat.reduceAdd] at hf
  generalize (((((((w7.setCell ⟨w.heap.size, 0, none⟩ (.int .i64 5)).setCell ⟨w.heap.size, 1, none⟩ (.int .i64 0)).setCell ⟨w.heap.size, 2, none⟩ (.int .i64 0)).setCell ⟨w.heap.size, 3, none⟩ (.string ⟨#[]⟩)).setCell ⟨w.heap.size, 4, none⟩ (.slice none 0 0)).setCell ⟨w.heap.size, 5, none⟩ (.slice (some ⟨g5, 0, none⟩) cc.length cc.length)).setCell ⟨w.heap.size, 6, none⟩ (.slice A9 xs.length c9)) = W7 at hf ⊢
  have hq := hf.box
  have s0 := hq.cellAt 0 (by simp)
  have s1 := hq.cellAt 1 (by simp)
  have s2 := hq.cellAt 2 (by simp)
  have s3 := hq.cellAt 3 (by simp)
  have s4 := hq.cellAt 4 (by simp)
  have s5 := hq.cellAt 5 (by simp)
  have s6 := hq.cellAt 6 (by simp)
  simp at s0 s1 s2 s3 s4 s5 s6
  have HG := Lib.hid (ReSt.first hf.drop)
  clear hf hq H8 r0 rz0 r1 rz1 r2 rz2 r3 rz3 r4 rz4 r5 rz5 r6 rz6 hlr
  refine bodyPost_ret (v := .agg #[.int .i64 5, .int .i64 0, .int .i64 0, .string ⟨#[]⟩, .slice none 0 0, .slice (some ⟨g5, 0, none⟩) cc.length cc.length, .slice A9 xs.length c9]) (by simp [results, Tryz.results70, go_sem, s0, s1, s2, s3, s4, s5, s6]) rfl (reAns_is (by rw [HO2.out, HCC.out]; rfl) HG.out)
set_option maxHeartbeats 3200000 in
set_option maxRecDepth 100000 in
theorem value_of (d : Nat) (hC : ElemC d) : ValC (d + 1) := by
  intro w0 b w l word hE h hl hwl
  rw [show (((d + 1 : Nat)) : Int) = (d : Int) + 1 from by omega]
  have HC := Lib.hid hC
  clear hC
  have HE := Lib.hid hE
  have H := Lib.hid ((ReSt.start h).new 28 7 #[.int .i64 0, .int .i64 0, .int .i64 0, .string ⟨#[]⟩, .slice none 0 0, .slice none 0 0, .slice none 0 0] rfl)
  clear hE h
  by_cases k1 : word = [91]
  · subst k1
    have HO := iVal_1 d l
    have HEL := fun (W : World) (hR : Rest w0 b l W) => HC.out w0 b W l HE.out hR hl
    unfold ElAns at HEL
    generalize iElems (iVal d) (d != 0) 12 [] l = o at HO HEL
    obtain ⟨xs, l3⟩ := o
    simp only at HO HEL
    have HO2 := Lib.hid HO
    have HL2 := Lib.hid HEL
    clear HO HEL
    go_enter Tryz.func28, Tryz.ntmps28
    go_wp2_with fail
    refine (HL2.out _ H.out.rest).mono ?_
    rintro e w5 ⟨v8, f8, rfl, hM⟩
    obtain ⟨A8, c8, e8, -⟩ := hM.objs.out.1.read.lst_form
    injection e8 with e8 _
    subst e8
    have H5 := Lib.hid (H.out.trans1 hM).list
    clear hM H
    go_wp2_with fail
    refine (value3_any 0 0 ⟨#[]⟩ A8 none none xs.length c8 0 0 0 0 w5).mono ?_
    rintro e w6 ⟨rfl, hb⟩
    have H6 := Lib.hid (H5.out.below hb)
    clear hb H5
    have hbr := (ReSt.nth (L1 := [_]) H6.out).box
    have r0 := hbr.cellAt 0 (by simp)
    have rz0 := hbr.frozenAt 0
    have r1 := hbr.cellAt 1 (by simp)
    have rz1 := hbr.frozenAt 1
    have r2 := hbr.cellAt 2 (by simp)
    have rz2 := hbr.frozenAt 2
    have r3 := hbr.cellAt 3 (by simp)
    have rz3 := hbr.frozenAt 3
    have r4 := hbr.cellAt 4 (by simp)
    have rz4 := hbr.frozenAt 4
    have r5 := hbr.cellAt 5 (by simp)
    have rz5 := hbr.frozenAt 5
    have r6 := hbr.cellAt 6 (by simp)
    have rz6 := hbr.frozenAt 6
    have hlr := (hbr.lt _ rfl).2
    simp at r0 rz0 r1 rz1 r2 rz2 r3 rz3 r4 rz4 r5 rz5 r6 rz6
    clear hbr
    go_wp2_with fail
    have hf := (ReSt.nth (L1 := [_]) H6.out).set7 [.int .i64 3, .int .i64 0, .int .i64 0, .string ⟨#[]⟩, .slice A8 xs.length c8, .slice none 0 0, .slice none 0 0] rfl
    simp only [World.setCells, Nat.zero_add, Nat.reduceAdd] at hf
    generalize (((((((w6.setCell ⟨w.heap.size, 0, none⟩ (.int .i64 3)).setCell ⟨w.heap.size, 1, none⟩ (.int .i64 0)).setCell ⟨w.heap.size, 2, none⟩ (.int .i64 0)).setCell ⟨w.heap.size, 3, none⟩ (.string ⟨#[]⟩)).setCell ⟨w.heap.size, 4, none⟩ (.slice A8 xs.length c8)).setCell ⟨w.heap.size, 5, none⟩ (.slice none 0 0)).setCell ⟨w.heap.size, 6, none⟩ (.slice none 0 0)) = W7 at hf ⊢
    have hq := hf.box
    have s0 := hq.cellAt 0 (by simp)
    have s1 := hq.cellAt 1 (by simp)
    have s2 := hq.cellAt 2 (by simp)
    have s3 := hq.cellAt 3 (by simp)
    have s4 := hq.cellAt 4 (by simp)
    have s5 := hq.cellAt 5 (by simp)
    have s6 := hq.cellAt 6 (by simp)
    simp at s0 s1 s2 s3 s4 s5 s6
    have HG := Lib.hid (ReSt.first hf.drop)
    clear hf hq H6 r0 rz0 r1 rz1 r2 rz2 r3 rz3 r4 rz4 r5 rz5 r6 rz6 hlr
    refine bodyPost_ret (v := .agg #[.int .i64 3, .int .i64 0, .int .i64 0, .string ⟨#[]⟩, .slice A8 xs.length c8, .slice none 0 0, .slice none 0 0]) (by simp [results, Tryz.results28, go_sem, s0, s1, s2, s3, s4, s5, s6]) rfl (reAns_is HO2.out HG.out)
  · have e1 : (word == [91]) = false := by simpa using k1
    by_cases k2 : word = [114, 97, 110, 103, 101]
    · subst k2
      have HO := iVal_2 d l
      have HEL := fun (W : World) (hR : Rest w0 b l W) => stream_any w0 b W l HE.out hR hl
      have hv : IsVal (iStream l).1 := by have := (iVal_val (d + 1) [114, 97, 110, 103, 101] l).1; rw [HO] at this; exact this
      unfold ReAns at HEL
      generalize iStream l = o at HO HEL hv
      obtain ⟨v, l3⟩ := o
      simp only at HO HEL hv
      have HO2 := Lib.hid HO
      have HL2 := Lib.hid HEL
      have HV := Lib.hid hv
      clear HO HEL hv e1
      go_enter Tryz.func28, Tryz.ntmps28
      go_wp2_with fail
      refine (HL2.out _ H.out.rest).mono ?_
      rintro e w5 ⟨cs, f8, rfl, hM⟩
      obtain ⟨yy0, yy1, yy2, yy3, yy4, yn4, yc4, yy5, yn5, yc5, yy6, yn6, yc6, rfl⟩ := HV.out.form hM.objs.out.1.read
      have H6 := Lib.hid (H.out.trans1 hM)
      clear hM H
      have hbr := (ReSt.nth (L1 := [_]) H6.out).box
      have r0 := hbr.cellAt 0 (by simp)
      have rz0 := hbr.frozenAt 0
      have r1 := hbr.cellAt 1 (by simp)
      have rz1 := hbr.frozenAt 1
      have r2 := hbr.cellAt 2 (by simp)
      have rz2 := hbr.frozenAt 2
      have r3 := hbr.cellAt 3 (by simp)
      have rz3 := hbr.frozenAt 3
      have r4 := hbr.cellAt 4 (by simp)
      have rz4 := hbr.frozenAt 4
      have r5 := hbr.cellAt 5 (by simp)
      have rz5 := hbr.frozenAt 5
      have r6 := hbr.cellAt 6 (by simp)
      have rz6 := hbr.frozenAt 6
      have hlr := (hbr.lt _ rfl).2
      simp at r0 rz0 r1 rz1 r2 rz2 r3 rz3 r4 rz4 r5 rz5 r6 rz6
      clear hbr
      go_wp2_with fail
      have hf := (ReSt.nth (L1 := [_]) H6.out).set7 [.int .i64 yy0, .int .i64 yy1, .int .i64 yy2, .string yy3, .slice yy4 yn4 yc4, .slice yy5 yn5 yc5, .slice yy6 yn6 yc6] rfl
      simp only [World.setCells, Nat.zero_add, Nat.reduceAdd] at hf
      generalize (((((((w5.setCell ⟨w.heap.size, 0, none⟩ (.int .i64 yy0)).setCell ⟨w.heap.size, 1, none⟩ (.int .i64 yy1)).setCell ⟨w.heap.size, 2, none⟩ (.int .i64 yy2)).setCell ⟨w.heap.size, 3, none⟩ (.string yy3)).setCell ⟨w.heap.size, 4, none⟩ (.slice yy4 yn4 yc4)).setCell ⟨w.heap.size, 5, none⟩ (.slice yy5 yn5 yc5)).setCell ⟨w.heap.size, 6, none⟩ (.slice yy6 yn6 yc6)) = W7 at hf ⊢
      have hq := hf.box
      have s0 := hq.cellAt 0 (by simp)
      have s1 := hq.cellAt 1 (by simp)
      have s2 := hq.cellAt 2 (by simp)
      have s3 := hq.cellAt 3 (by simp)
      have s4 := hq.cellAt 4 (by simp)
      have s5 := hq.cellAt 5 (by simp)
      have s6 := hq.cellAt 6 (by simp)
      simp at s0 s1 s2 s3 s4 s5 s6
      have HG := Lib.hid (ReSt.first hf.drop)
      clear hf hq H6 r0 rz0 r1 rz1 r2 rz2 r3 rz3 r4 rz4 r5 rz5 r6 rz6 hlr
      refine bodyPost_ret (v := .agg #[.int .i64 yy0, .int .i64 yy1, .int .i64 yy2, .string yy3, .slice yy4 yn4 yc4, .slice yy5 yn5 yc5, .slice yy6 yn6 yc6]) (by simp [results, Tryz.results28, go_sem, s0, s1, s2, s3, s4, s5, s6]) rfl (reAns_is HO2.out HG.out)
    have e2 : (word == [114, 97, 110, 103, 101]) = false := by simpa using k2
    by_cases k3 : word = [116, 97, 98, 108, 101]
    · subst k3
      have HO := iVal_3 d l
      have HEL := fun (W : World) (hR : Rest w0 b l W) => table_of d HC.out w0 b W l HE.out hR hl
      have hv : IsVal (iTable (iVal d) (d != 0) l).1 := by have := (iVal_val (d + 1) [116, 97, 98, 108, 101] l).1; rw [HO] at this; exact this
      unfold ReAns at HEL
      generalize iTable (iVal d) (d != 0) l = o at HO HEL hv
      obtain ⟨v, l3⟩ := o
      simp only at HO HEL hv
      have HO2 := Lib.hid HO
      have HL2 := Lib.hid HEL
      have HV := Lib.hid hv
      clear HO HEL hv e1
      go_enter Tryz.func28, Tryz.ntmps28
      go_wp2_with fail
      refine (HL2.out _ H.out.rest).mono ?_
      rintro e w5 ⟨cs, f8, rfl, hM⟩
      obtain ⟨yy0, yy1, yy2, yy3, yy4, yn4, yc4, yy5, yn5, yc5, yy6, yn6, yc6, rfl⟩ := HV.out.form hM.objs.out.1.read
      have H6 := Lib.hid (H.out.trans1 hM)
      clear hM H
      have hbr := (ReSt.nth (L1 := [_]) H6.out).box
      have r0 := hbr.cellAt 0 (by simp)
      have rz0 := hbr.frozenAt 0
      have r1 := hbr.cellAt 1 (by simp)
      have rz1 := hbr.frozenAt 1
      have r2 := hbr.cellAt 2 (by simp)
      have rz2 := hbr.frozenAt 2
      have r3 := hbr.cellAt 3 (by simp)
      have rz3 := hbr.frozenAt 3
      have r4 := hbr.cellAt 4 (by simp)
      have rz4 := hbr.frozenAt 4
      have r5 := hbr.cellAt 5 (by simp)
      have rz5 := hbr.frozenAt 5
      have r6 := hbr.cellAt 6 (by simp)
      have rz6 := hbr.frozenAt 6
      have hlr := (hbr.lt _ rfl).2
      simp at r0 rz0 r1 rz1 r2 rz2 r3 rz3 r4 rz4 r5 rz5 r6 rz6
      clear hbr
      go_wp2_with fail
      have hf := (ReSt.nth (L1 := [_]) H6.out).set7 [.int .i64 yy0, .int .i64 yy1, .int .i64 yy2, .string yy3, .slice yy4 yn4 yc4, .slice yy5 yn5 yc5, .slice yy6 yn6 yc6] rfl
      simp only [World.setCells, Nat.zero_add, Nat.reduceAdd] at hf
      generalize (((((((w5.setCell ⟨w.heap.size, 0, none⟩ (.int .i64 yy0)).setCell ⟨w.heap.size, 1, none⟩ (.int .i64 yy1)).setCell ⟨w.heap.size, 2, none⟩ (.int .i64 yy2)).setCell ⟨w.heap.size, 3, none⟩ (.string yy3)).setCell ⟨w.heap.size, 4, none⟩ (.slice yy4 yn4 yc4)).setCell ⟨w.heap.size, 5, none⟩ (.slice yy5 yn5 yc5)).setCell ⟨w.heap.size, 6, none⟩ (.slice yy6 yn6 yc6)) = W7 at hf ⊢
      have hq := hf.box
      have s0 := hq.cellAt 0 (by simp)
      have s1 := hq.cellAt 1 (by simp)
      have s2 := hq.cellAt 2 (by simp)
      have s3 := hq.cellAt 3 (by simp)
      have s4 := hq.cellAt 4 (by simp)
      have s5 := hq.cellAt 5 (by simp)
      have s6 := hq.cellAt 6 (by simp)
      simp at s0 s1 s2 s3 s4 s5 s6
      have HG := Lib.hid (ReSt.first hf.drop)
      clear hf hq H6 r0 rz0 r1 rz1 r2 rz2 r3 rz3 r4 rz4 r5 rz5 r6 rz6 hlr
      refine bodyPost_ret (v := .agg #[.int .i64 yy0, .int .i64 yy1, .int .i64 yy2, .string yy3, .slice yy4 yn4 yc4, .slice yy5 yn5 yc5, .slice yy6 yn6 yc6]) (by simp [results, Tryz.results28, go_sem, s0, s1, s2, s3, s4, s5, s6]) rfl (reAns_is HO2.out HG.out)
    have e3 : (word == [116, 97, 98, 108, 101]) = false := by simpa using k3
    by_cases k4 : word = [101, 114, 114, 111, 114]
    · subst k4
      obtain ⟨wd1, l1, hn1⟩ : ∃ a c, nextW l = (a, c) := ⟨_, _, rfl⟩
      have hw1 := nextW_wt l
      have HM1 := fun (W : World) (hR : Rest w0 b l W) => next_any w0 b l W hR (hl)
      unfold NextQ at HM1
      rw [hn1] at HM1 hw1
      simp only at HM1 hw1
      have HN1 := Lib.hid HM1
      clear HM1
      have HO := Lib.hid (iVal_4 d hn1)
      clear hn1 e1 e2 e3
      go_enter Tryz.func28, Tryz.ntmps28
      go_wp2_with fail
      refine (HN1.out _ H.out.rest).mono ?_
      rintro e w1 ⟨rfl, hg, hr⟩
      have H1 := Lib.hid (H.out.read hg hr)
      clear hg hr H
      go_wp2_with fail
      refine (implErrCode_any wd1 _).mono ?_
      rintro e w2 ⟨rfl, hb⟩
      have H2 := Lib.hid (H1.out.below hb)
      clear hb H1
      go_wp2_with fail
      refine (implErrorValue_any (eCode wd1) w2).mono ?_
      rintro e w3 ⟨rfl, hb⟩
      have H3 := Lib.hid ((H2.out.below hb).flat (ow_vErr (eCode wd1)))
      clear hb H2
      have hbr := (ReSt.nth (L1 := [_]) H3.out).box
      have r0 := hbr.cellAt 0 (by simp)
      have rz0 := hbr.frozenAt 0
      have r1 := hbr.cellAt 1 (by simp)
      have rz1 := hbr.frozenAt 1
      have r2 := hbr.cellAt 2 (by simp)
      have rz2 := hbr.frozenAt 2
      have r3 := hbr.cellAt 3 (by simp)
      have rz3 := hbr.frozenAt 3
      have r4 := hbr.cellAt 4 (by simp)
      have rz4 := hbr.frozenAt 4
      have r5 := hbr.cellAt 5 (by simp)
      have rz5 := hbr.frozenAt 5
      have r6 := hbr.cellAt 6 (by simp)
      have rz6 := hbr.frozenAt 6
      have hlr := (hbr.lt _ rfl).2
      simp at r0 rz0 r1 rz1 r2 rz2 r3 rz3 r4 rz4 r5 rz5 r6 rz6
      clear hbr
      go_wp2_with fail
      have hf := (ReSt.nth (L1 := [_]) H3.out).set7 [.int .i64 6, .int .i64 (eCode wd1), .int .i64 0, .string ⟨#[]⟩, .slice none 0 0, .slice none 0 0, .slice none 0 0] rfl
      simp only [World.setCells, Nat.zero_add, Nat.reduceAdd] at hf
      generalize (((((((w3.setCell ⟨w.heap.size, 0, none⟩ (.int .i64 6)).setCell ⟨w.heap.size, 1, none⟩ (.int .i64 (eCode wd1))).setCell ⟨w.heap.size, 2, none⟩ (.int .i64 0)).setCell ⟨w.heap.size, 3, none⟩ (.string ⟨#[]⟩)).setCell ⟨w.heap.size, 4, none⟩ (.slice none 0 0)).setCell ⟨w.heap.size, 5, none⟩ (.slice none 0 0)).setCell ⟨w.heap.size, 6, none⟩ (.slice none 0 0)) = W7 at hf ⊢
      have hq := hf.box
      have s0 := hq.cellAt 0 (by simp)
      have s1 := hq.cellAt 1 (by simp)
      have s2 := hq.cellAt 2 (by simp)
      have s3 := hq.cellAt 3 (by simp)
      have s4 := hq.cellAt 4 (by simp)
      have s5 := hq.cellAt 5 (by simp)
      have s6 := hq.cellAt 6 (by simp)
      simp at s0 s1 s2 s3 s4 s5 s6
      have HG := Lib.hid (ReSt.first hf.drop)
      clear hf hq H3 r0 rz0 r1 rz1 r2 rz2 r3 rz3 r4 rz4 r5 rz5 r6 rz6 hlr
      refine bodyPost_ret (v := .agg #[.int .i64 6, .int .i64 (eCode wd1), .int .i64 0, .string ⟨#[]⟩, .slice none 0 0, .slice none 0 0, .slice none 0 0]) (by simp [results, Tryz.results28, go_sem, s0, s1, s2, s3, s4, s5, s6]) rfl (reAns_is HO.out HG.out)
    have e4 : (word == [101, 114, 114, 111, 114]) = false := by simpa using k4
    have HPF := Lib.hid (fun W => Tryz.strings_HasPrefix ⟨word.toArray⟩ ⟨#[34]⟩ W)
    have hun := iVal_5 d (l := l) k1 k2 k3 k4
    have htr := trim34_le word
    cases k5 : [34].isPrefixOf word with
    | true =>
      have HO := Lib.hid (hun.trans (if_pos k5))
      have hp5 : Lib.hasPrefix word [34] = true := k5
      have HP5 := Lib.hid hp5
      clear hun k1 k2 k3 k4 k5 hp5
      go_enter Tryz.func28, Tryz.ntmps28
      go_wp2_with fail
      refine (HPF.out _).mono ?_
      rintro e w1 ⟨rfl, hw⟩
      subst hw
      rw [show Lib.hasPrefix (⟨word.toArray⟩ : ByteArray).data.toList (⟨#[34]⟩ : ByteArray).data.toList = true from HP5.out]
      go_wp2_with fail
      refine (unquoted_any word _ (by omega)).mono ?_
      rintro e w2 ⟨rfl, hb⟩
      have H2 := Lib.hid (H.out.below hb)
      clear hb H
      go_wp2_with fail
      refine (implTextValue_any ⟨(trim34 word).toArray⟩ w2).mono ?_
      rintro e w3 ⟨rfl, hb⟩
      have H3 := Lib.hid ((H2.out.below hb).flat (ow_vTxt (trim34 word)))
      clear hb H2
      have hbr := (ReSt.nth (L1 := [_]) H3.out).box
      have r0 := hbr.cellAt 0 (by simp)
      have rz0 := hbr.frozenAt 0
      have r1 := hbr.cellAt 1 (by simp)
      have rz1 := hbr.frozenAt 1
      have r2 := hbr.cellAt 2 (by simp)
      have rz2 := hbr.frozenAt 2
      have r3 := hbr.cellAt 3 (by simp)
      have rz3 := hbr.frozenAt 3
      have r4 := hbr.cellAt 4 (by simp)
      have rz4 := hbr.frozenAt 4
      have r5 := hbr.cellAt 5 (by simp)
      have rz5 := hbr.frozenAt 5
      have r6 := hbr.cellAt 6 (by simp)
      have rz6 := hbr.frozenAt 6
      have hlr := (hbr.lt _ rfl).2
      simp at r0 rz0 r1 rz1 r2 rz2 r3 rz3 r4 rz4 r5 rz5 r6 rz6
      clear hbr
      go_wp2_with fail
      have hf := (ReSt.nth (L1 := [_]) H3.out).set7 [.int .i64 2, .int .i64 0, .int .i64 0, .string ⟨(trim34 word).toArray⟩, .slice none 0 0, .slice none 0 0, .slice none 0 0] rfl
      simp only [World.setCells, Nat.zero_add, Nat.reduceAdd] at hf
      generalize (((((((w3.setCell ⟨w.heap.size, 0, none⟩ (.int .i64 2)).setCell ⟨w.heap.size, 1, none⟩ (.int .i64 0)).setCell ⟨w.heap.size, 2, none⟩ (.int .i64 0)).setCell ⟨w.heap.size, 3, none⟩ (.string ⟨(trim34 word).toArray⟩)).setCell ⟨w.heap.size, 4, none⟩ (.slice none 0 0)).setCell ⟨w.heap.size, 5, none⟩ (.slice none 0 0)).setCell ⟨w.heap.size, 6, none⟩ (.slice none 0 0)) = W7 at hf ⊢
      have hq := hf.box
      have s0 := hq.cellAt 0 (by simp)
      have s1 := hq.cellAt 1 (by simp)
      have s2 := hq.cellAt 2 (by simp)
      have s3 := hq.cellAt 3 (by simp)
      have s4 := hq.cellAt 4 (by simp)
      have s5 := hq.cellAt 5 (by simp)
      have s6 := hq.cellAt 6 (by simp)
      simp at s0 s1 s2 s3 s4 s5 s6
      have HG := Lib.hid (ReSt.first hf.drop)
      clear hf hq H3 r0 rz0 r1 rz1 r2 rz2 r3 rz3 r4 rz4 r5 rz5 r6 rz6 hlr
      refine bodyPost_ret (v := .agg #[.int .i64 2, .int .i64 0, .int .i64 0, .string ⟨(trim34 word).toArray⟩, .slice none 0 0, .slice none 0 0, .slice none 0 0]) (by simp [results, Tryz.results28, go_sem, s0, s1, s2, s3, s4, s5, s6]) rfl (reAns_is HO.out HG.out)
    | false =>
      have HO := Lib.hid (hun.trans (if_neg (by rw [k5]; simp)))
      have hp5 : Lib.hasPrefix word [34] = false := k5
      have HP5 := Lib.hid hp5
      clear hun k1 k2 k3 k4 k5 hp5
      go_enter Tryz.func28, Tryz.ntmps28
      go_wp2_with fail
      refine (HPF.out _).mono ?_
      rintro e w1 ⟨rfl, hw⟩
      subst hw
      rw [show Lib.hasPrefix (⟨word.toArray⟩ : ByteArray).data.toList (⟨#[34]⟩ : ByteArray).data.toList = false from HP5.out]
      go_wp2_with fail
      refine (readNumber_any word _ (by omega) (HE.out.below (H.out.rest.2.1))).mono ?_
      rintro e w2 ⟨rfl, hb⟩
      have H2 := Lib.hid (H.out.below hb)
      clear hb H
      go_wp2_with fail
      refine (implNumberValue_any (rdNum word) w2).mono ?_
      rintro e w3 ⟨rfl, hb⟩
      have H3 := Lib.hid ((H2.out.below hb).flat (ow_vNum (rdNum word)))
      clear hb H2
      have hbr := (ReSt.nth (L1 := [_]) H3.out).box
      have r0 := hbr.cellAt 0 (by simp)
      have rz0 := hbr.frozenAt 0
      have r1 := hbr.cellAt 1 (by simp)
      have rz1 := hbr.frozenAt 1
      have r2 := hbr.cellAt 2 (by simp)
      have rz2 := hbr.frozenAt 2
      have r3 := hbr.cellAt 3 (by simp)
      have rz3 := hbr.frozenAt 3
      have r4 := hbr.cellAt 4 (by simp)
      have rz4 := hbr.frozenAt 4
      have r5 := hbr.cellAt 5 (by simp)
      have rz5 := hbr.frozenAt 5
      have r6 := hbr.cellAt 6 (by simp)
      have rz6 := hbr.frozenAt 6
      have hlr := (hbr.lt _ rfl).2
      simp at r0 rz0 r1 rz1 r2 rz2 r3 rz3 r4 rz4 r5 rz5 r6 rz6
      clear hbr
      go_wp2_with fail
      have hf := (ReSt.nth (L1 := [_]) H3.out).set7 [.int .i64 1, .int .i64 (rdNum word), .int .i64 0, .string ⟨#[]⟩, .slice none 0 0, .slice none 0 0, .slice none 0 0] rfl
      simp only [World.setCells, Nat.zero_add, Nat.reduceAdd] at hf
      generalize (((((((w3.setCell ⟨w.heap.size, 0, none⟩ (.int .i64 1)).setCell ⟨w.heap.size, 1, none⟩ (.int .i64 (rdNum word))).setCell ⟨w.heap.size, 2, none⟩ (.int .i64 0)).setCell ⟨w.heap.size, 3, none⟩ (.string ⟨#[]⟩)).setCell ⟨w.heap.size, 4, none⟩ (.slice none 0 0)).setCell ⟨w.heap.size, 5, none⟩ (.slice none 0 0)).setCell ⟨w.heap.size, 6, none⟩ (.slice none 0 0)) = W7 at hf ⊢
      have hq := hf.box
      have s0 := hq.cellAt 0 (by simp)
      have s1 := hq.cellAt 1 (by simp)
      have s2 := hq.cellAt 2 (by simp)
      have s3 := hq.cellAt 3 (by simp)
      have s4 := hq.cellAt 4 (by simp)
      have s5 := hq.cellAt 5 (by simp)
      have s6 := hq.cellAt 6 (by simp)
      simp at s0 s1 s2 s3 s4 s5 s6
      have HG := Lib.hid (ReSt.first hf.drop)
      clear hf hq H3 r0 rz0 r1 rz1 r2 rz2 r3 rz3 r4 rz4 r5 rz5 r6 rz6 hlr
      refine bodyPost_ret (v := .agg #[.int .i64 1, .int .i64 (rdNum word), .int .i64 0, .string ⟨#[]⟩, .slice none 0 0, .slice none 0 0, .slice none 0 0]) (by simp [results, Tryz.results28, go_sem, s0, s1, s2, s3, s4, s5, s6]) rfl (reAns_is HO.out HG.out)
theorem elemC_any : ∀ d, d ≤ 3 → ElemC d
  | 0, h => elements_of 0 h (fun h => absurd rfl h)
  | d + 1, h => elements_of (d + 1) h (fun _ => value_of d (elemC_any d (by omega)))
theorem value3C : ValC 3 := value_of 2 (elemC_any 2 (by decide))
end Go.Proofs.YtddjkhabcbcnmaaGreatDoor

/-
  The program's ParseValue. (Written by genrd.py.)
-/

namespace Go.Proofs.YtddjkhabcbcnmaaGreatDoor
open Go.RowKit
set_option linter.unusedVariables false

/-- The reader's box goes: what it built stays. -/
theorem MSt.reader {w wx wy : World} {b : Nat} {L M : List Asn} {e : TypeId} {x : List Value} {l : List UInt8} (h : MSt w (boxA e 1 b x :: L) wx) (h2 : ReSt w b wx l M wy) : MSt w (M ++ L) wy := by
  have hp := List.pairwise_cons.1 h.1.2
  have hg := h2.2.2.1
  refine ⟨⟨fun a ha => ?_, List.pairwise_append.2 ⟨h2.2.1.2, hp.2, fun a ha y hy k hk hk' => ?_⟩⟩, h2.rest.2.1⟩
  · rcases List.mem_append.1 ha with ha | ha
    · have := h2.2.1.1 a ha
      exact ⟨this.1, this.2.1, fun k hk => ⟨Nat.le_trans h.2.size (this.2.2 k hk).1, (this.2.2 k hk).2⟩⟩
    · have hat := h.1.1 a (List.mem_cons_of_mem _ ha)
      exact hat.keep hg.size fun k hf => hg.block k (hat.2.2 k hf).2 fun e => by
        have hb : b = k := by injection e with e; exact e.symm
        subst hb
        exact hp.1 a ha b (show (Value.slice (some ⟨b, 0, none⟩) 1 1).ownBlock = some b from rfl) hf
  · have e1 := ((h2.2.1.1 a ha).2.2 k hk).1
    have e2 := ((h.1.1 y (List.mem_cons_of_mem _ hy)).2.2 k hk').2
    omega
theorem pv_yesI {s : List UInt8} (hs : s ≠ []) (h : fmtB (iParse s) = tb s) : pvVal s = iParse s ∧ pvOk s = true := by
  rcases pv_i hs with h1 | h1
  · exact h1.2
  · exact absurd h h1.1
theorem pv_noI {s : List UInt8} (h : ¬ (s ≠ [] ∧ fmtB (iParse s) = tb s)) : pvVal s = vZero ∧ pvOk s = false := by
  by_cases hs : s = []
  · subst hs; exact pv_nil
  · rcases pv_i hs with h1 | h1
    · exact absurd ⟨hs, h1.1⟩ h
    · exact h1.2
set_option maxHeartbeats 3200000 in
set_option maxRecDepth 100000 in
theorem implParseValue_any (L : List UInt8) (hL : L.length ≤ 1048576) (w : World) (hE : EnvAll w) :
    Calls Tryz.prog 10 #[.string ⟨L.toArray⟩] w (PvTop w L) := by
  have HE := Lib.hid hE
  have h1 := ((MSt.start w).new 28 7 #[.int .i64 0, .int .i64 0, .int .i64 0, .string ⟨#[]⟩, .slice none 0 0, .slice none 0 0, .slice none 0 0] rfl).new 55 1 #[.string ⟨L.toArray⟩] rfl
  rw [World.size_alloc] at h1
  have hR : Rest w (w.heap.size + 1) L _ := ⟨Nat.le_succ _, h1.bel, own_base0 h1.box (Nat.zero_le _)⟩
  have H1 := Lib.hid h1
  have HRS := Lib.hid hR
  clear hE h1 hR
  obtain ⟨wd, l1, hn⟩ : ∃ a c, nextW L = (a, c) := ⟨_, _, rfl⟩
  have hw1 := nextW_wt L
  have HM := fun (W : World) (hR : Rest w (w.heap.size + 1) L W) => next_any w (w.heap.size + 1) L W hR hL
  unfold NextQ at HM
  rw [hn] at HM hw1
  simp only at HM hw1
  obtain ⟨v, l2, hv⟩ : ∃ a c, iVal 3 wd l1 = (a, c) := ⟨_, _, rfl⟩
  have hip : iParse L = v := by unfold iParse; rw [hn]; simp only; rw [hv]
  have HVC := fun (W : World) (hR : Rest w (w.heap.size + 1) l1 W) => value3C w (w.heap.size + 1) W l1 wd HE.out hR (by omega) (by omega)
  unfold ReAns at HVC
  rw [hv] at HVC
  simp only at HVC
  have hwt := iParse_wt L
  have hvl := (iParse_val L).1
  have hno := fun hh => pv_noI (s := L) hh
  have his := fun a b => pv_yesI (s := L) a b
  rw [hip] at hwt hvl hno his
  have HNX := Lib.hid HM
  have HVL := Lib.hid HVC
  have HV := Lib.hid hvl
  have hwv : v.wt ≤ 1048576 := by omega
  clear hn hv hip HM HVC hvl hwt
  by_cases hz : L = []
  · have HO := Lib.hid (hno (fun hh => hh.1 hz))
    have hqe : (L == ([] : List UInt8)) = true := by rw [hz]; rfl
    clear hno his hz
    go_enter Tryz.func10, Tryz.ntmps10
    go_wp2_with fail
    refine (HNX.out _ HRS.out).mono ?_
    rintro e w2 ⟨rfl, hg, hr⟩
    have HS := Lib.hid ((ReSt.start HRS.out).read hg hr)
    clear hg hr
    go_wp2_with fail
    refine (HVL.out _ HS.out.rest).mono ?_
    rintro e w3 ⟨cs, f2, rfl, hM⟩
    obtain ⟨qy0, qy1, qy2, qy3, qy4, qn4, qc4, qy5, qn5, qc5, qy6, qn6, qc6, rfl⟩ := HV.out.form hM.objs.out.1.read
    have H3 := Lib.hid ((H1.out.reader (HS.out.trans1 hM)).new 28 7 #[.int .i64 qy0, .int .i64 qy1, .int .i64 qy2, .string qy3, .slice qy4 qn4 qc4, .slice qy5 qn5 qc5, .slice qy6 qn6 qc6] rfl)
    clear hM HS H1 HRS
    have hbr := (MSt.nth (L1 := [_, _]) H3.out).box
    have r0 := hbr.cellAt 0 (by simp)
    have rz0 := hbr.frozenAt 0
    have r1 := hbr.cellAt 1 (by simp)
    have rz1 := hbr.frozenAt 1
    have r2 := hbr.cellAt 2 (by simp)
    have rz2 := hbr.frozenAt 2
    have r3 := hbr.cellAt 3 (by simp)
    have rz3 := hbr.frozenAt 3
    have r4 := hbr.cellAt 4 (by simp)
    have rz4 := hbr.frozenAt 4
    have r5 := hbr.cellAt 5 (by simp)
    have rz5 := hbr.frozenAt 5
    have r6 := hbr.cellAt 6 (by simp)
    have rz6 := hbr.frozenAt 6
    have hlr := (hbr.lt _ rfl).2
    simp at r0 rz0 r1 rz1 r2 rz2 r3 rz3 r4 rz4 r5 rz5 r6 rz6
    clear hbr
    go_wp2_with fail
    have HZ := Lib.hid (MSt.flat H3.out ow_vZero)
    clear H3
    have hf := (MSt.nth (L1 := [_, _, _]) HZ.out).set7 [.int .i64 0, .int .i64 0, .int .i64 0, .string ⟨#[]⟩, .slice none 0 0, .slice none 0 0, .slice none 0 0] rfl
    simp only [World.setCells, Nat.zero_add, Nat.reduceAdd] at hf
    generalize ((((((((w3.alloc (.cells #[.int .i64 qy0, .int .i64 qy1, .int .i64 qy2, .string qy3, .slice qy4 qn4 qc4, .slice qy5 qn5 qc5, .slice qy6 qn6 qc6] 28)).setCell ⟨w.heap.size, 0, none⟩ (.int .i64 0)).setCell ⟨w.heap.size, 1, none⟩ (.int .i64 0)).setCell ⟨w.heap.size, 2, none⟩ (.int .i64 0)).setCell ⟨w.heap.size, 3, none⟩ (.string ⟨#[]⟩)).setCell ⟨w.heap.size, 4, none⟩ (.slice none 0 0)).setCell ⟨w.heap.size, 5, none⟩ (.slice none 0 0)).setCell ⟨w.heap.size, 6, none⟩ (.slice none 0 0)) = W7 at hf ⊢
    have hq := hf.box
    have s0 := hq.cellAt 0 (by simp)
    have s1 := hq.cellAt 1 (by simp)
    have s2 := hq.cellAt 2 (by simp)
    have s3 := hq.cellAt 3 (by simp)
    have s4 := hq.cellAt 4 (by simp)
    have s5 := hq.cellAt 5 (by simp)
    have s6 := hq.cellAt 6 (by simp)
    simp at s0 s1 s2 s3 s4 s5 s6
    have HG := Lib.hid (MSt.first hf.drop)
    clear hf hq HZ r0 rz0 r1 rz1 r2 rz2 r3 rz3 r4 rz4 r5 rz5 r6 rz6 hlr
    refine bodyPost_ret (v := .tuple #[.agg #[.int .i64 0, .int .i64 0, .int .i64 0, .string ⟨#[]⟩, .slice none 0 0, .slice none 0 0, .slice none 0 0], .bool false]) (by simp [results, Tryz.results10, go_sem, s0, s1, s2, s3, s4, s5, s6]) rfl (pvTop_is HO.out HG.out)
  · have hqe : (L == ([] : List UInt8)) = false := by simpa using hz
    obtain ⟨Q, hQ⟩ : ∃ Q : List UInt8, Q = (fmtB v).data.toList := ⟨_, rfl⟩
    have hfm : fmtB v = ⟨Q.toArray⟩ := by rw [hQ]
    have HF := Lib.hid (fun cs W hh hp => implFormat_any HV.out hwv cs W hh hp)
    rw [hfm] at HF his hno
    clear hQ
    by_cases hq : Q = L
    · subst hq
      have HO := Lib.hid (his hz rfl)
      clear hno his hz hfm
      go_enter Tryz.func10, Tryz.ntmps10
      go_wp2_with fail
      refine (HNX.out _ HRS.out).mono ?_
      rintro e w2 ⟨rfl, hg, hr⟩
      have HS := Lib.hid ((ReSt.start HRS.out).read hg hr)
      clear hg hr
      go_wp2_with fail
      refine (HVL.out _ HS.out.rest).mono ?_
      rintro e w3 ⟨cs, f2, rfl, hM⟩
      obtain ⟨qy0, qy1, qy2, qy3, qy4, qn4, qc4, qy5, qn5, qc5, qy6, qn6, qc6, rfl⟩ := HV.out.form hM.objs.out.1.read
      have H3 := Lib.hid ((H1.out.reader (HS.out.trans1 hM)).new 28 7 #[.int .i64 qy0, .int .i64 qy1, .int .i64 qy2, .string qy3, .slice qy4 qn4 qc4, .slice qy5 qn5 qc5, .slice qy6 qn6 qc6] rfl)
      clear hM HS H1 HRS
      go_wp2_with fail
      generalize (w3.alloc (.cells #[.int .i64 qy0, .int .i64 qy1, .int .i64 qy2, .string qy3, .slice qy4 qn4 qc4, .slice qy5 qn5 qc5, .slice qy6 qn6 qc6] 28)) = w4 at H3 ⊢
      generalize w3.heap.size = bx at H3 ⊢
      have HR := Lib.hid (MSt.swap H3.out).read
      refine (HF.out _ w4 HR.out (HE.out.below H3.out.bel).2.2).mono ?_
      rintro e w5 ⟨rfl, hb⟩
      have H5 := Lib.hid (H3.out.later hb)
      clear hb H3 HR
      have hby := (MSt.nth (L1 := []) H5.out).box
      have y0 := hby.cellAt 0 (by simp)
      have y1 := hby.cellAt 1 (by simp)
      have y2 := hby.cellAt 2 (by simp)
      have y3 := hby.cellAt 3 (by simp)
      have y4 := hby.cellAt 4 (by simp)
      have y5 := hby.cellAt 5 (by simp)
      have y6 := hby.cellAt 6 (by simp)
      have hly := (hby.lt _ rfl).2
      simp at y0 y1 y2 y3 y4 y5 y6
      clear hby
      have hbr := (MSt.nth (L1 := [_, _]) H5.out).box
      have r0 := hbr.cellAt 0 (by simp)
      have rz0 := hbr.frozenAt 0
      have r1 := hbr.cellAt 1 (by simp)
      have rz1 := hbr.frozenAt 1
      have r2 := hbr.cellAt 2 (by simp)
      have rz2 := hbr.frozenAt 2
      have r3 := hbr.cellAt 3 (by simp)
      have rz3 := hbr.frozenAt 3
      have r4 := hbr.cellAt 4 (by simp)
      have rz4 := hbr.frozenAt 4
      have r5 := hbr.cellAt 5 (by simp)
      have rz5 := hbr.frozenAt 5
      have r6 := hbr.cellAt 6 (by simp)
      have rz6 := hbr.frozenAt 6
      have hlr := (hbr.lt _ rfl).2
      simp at r0 rz0 r1 rz1 r2 rz2 r3 rz3 r4 rz4 r5 rz5 r6 rz6
      clear hbr
      go_wp2_with fail
      clear y0 y1 y2 y3 y4 y5 y6 hly
      have HZ := Lib.hid H5.out.swap
      clear H5
      have hf := (MSt.nth (L1 := [_, _]) HZ.out).set7 [.int .i64 qy0, .int .i64 qy1, .int .i64 qy2, .string qy3, .slice qy4 qn4 qc4, .slice qy5 qn5 qc5, .slice qy6 qn6 qc6] rfl
      simp only [World.setCells, Nat.zero_add, Nat.reduceAdd] at hf
      generalize (((((((w5.setCell ⟨w.heap.size, 0, none⟩ (.int .i64 qy0)).setCell ⟨w.heap.size, 1, none⟩ (.int .i64 qy1)).setCell ⟨w.heap.size, 2, none⟩ (.int .i64 qy2)).setCell ⟨w.heap.size, 3, none⟩ (.string qy3)).setCell ⟨w.heap.size, 4, none⟩ (.slice qy4 qn4 qc4)).setCell ⟨w.heap.size, 5, none⟩ (.slice qy5 qn5 qc5)).setCell ⟨w.heap.size, 6, none⟩ (.slice qy6 qn6 qc6)) = W7 at hf ⊢
      have hq := hf.box
      have s0 := hq.cellAt 0 (by simp)
      have s1 := hq.cellAt 1 (by simp)
      have s2 := hq.cellAt 2 (by simp)
      have s3 := hq.cellAt 3 (by simp)
      have s4 := hq.cellAt 4 (by simp)
      have s5 := hq.cellAt 5 (by simp)
      have s6 := hq.cellAt 6 (by simp)
      simp at s0 s1 s2 s3 s4 s5 s6
      have HG := Lib.hid (MSt.first hf.drop)
      clear hf hq HZ r0 rz0 r1 rz1 r2 rz2 r3 rz3 r4 rz4 r5 rz5 r6 rz6 hlr
      refine bodyPost_ret (v := .tuple #[.agg #[.int .i64 qy0, .int .i64 qy1, .int .i64 qy2, .string qy3, .slice qy4 qn4 qc4, .slice qy5 qn5 qc5, .slice qy6 qn6 qc6], .bool true]) (by simp [results, Tryz.results10, go_sem, s0, s1, s2, s3, s4, s5, s6]) rfl (pvTop_is HO.out HG.out)
    · have HO := Lib.hid (hno (fun hh => hq (by have := congrArg (fun z : ByteArray => z.data.toList) hh.2; simpa [tb] using this)))
      have hqn : (Q == L) = false := by simpa using hq
      have hqm : (Q != L) = true := by simpa using hq
      clear hno his hq hz hfm
      go_enter Tryz.func10, Tryz.ntmps10
      go_wp2_with fail
      refine (HNX.out _ HRS.out).mono ?_
      rintro e w2 ⟨rfl, hg, hr⟩
      have HS := Lib.hid ((ReSt.start HRS.out).read hg hr)
      clear hg hr
      go_wp2_with fail
      refine (HVL.out _ HS.out.rest).mono ?_
      rintro e w3 ⟨cs, f2, rfl, hM⟩
      obtain ⟨qy0, qy1, qy2, qy3, qy4, qn4, qc4, qy5, qn5, qc5, qy6, qn6, qc6, rfl⟩ := HV.out.form hM.objs.out.1.read
      have H3 := Lib.hid ((H1.out.reader (HS.out.trans1 hM)).new 28 7 #[.int .i64 qy0, .int .i64 qy1, .int .i64 qy2, .string qy3, .slice qy4 qn4 qc4, .slice qy5 qn5 qc5, .slice qy6 qn6 qc6] rfl)
      clear hM HS H1 HRS
      go_wp2_with fail
      generalize (w3.alloc (.cells #[.int .i64 qy0, .int .i64 qy1, .int .i64 qy2, .string qy3, .slice qy4 qn4 qc4, .slice qy5 qn5 qc5, .slice qy6 qn6 qc6] 28)) = w4 at H3 ⊢
      generalize w3.heap.size = bx at H3 ⊢
      have HR := Lib.hid (MSt.swap H3.out).read
      refine (HF.out _ w4 HR.out (HE.out.below H3.out.bel).2.2).mono ?_
      rintro e w5 ⟨rfl, hb⟩
      have H5 := Lib.hid (H3.out.later hb)
      clear hb H3 HR
      have hby := (MSt.nth (L1 := []) H5.out).box
      have y0 := hby.cellAt 0 (by simp)
      have y1 := hby.cellAt 1 (by simp)
      have y2 := hby.cellAt 2 (by simp)
      have y3 := hby.cellAt 3 (by simp)
      have y4 := hby.cellAt 4 (by simp)
      have y5 := hby.cellAt 5 (by simp)
      have y6 := hby.cellAt 6 (by simp)
      have hly := (hby.lt _ rfl).2
      simp at y0 y1 y2 y3 y4 y5 y6
      clear hby
      have hbr := (MSt.nth (L1 := [_, _]) H5.out).box
      have r0 := hbr.cellAt 0 (by simp)
      have rz0 := hbr.frozenAt 0
      have r1 := hbr.cellAt 1 (by simp)
      have rz1 := hbr.frozenAt 1
      have r2 := hbr.cellAt 2 (by simp)
      have rz2 := hbr.frozenAt 2
      have r3 := hbr.cellAt 3 (by simp)
      have rz3 := hbr.frozenAt 3
      have r4 := hbr.cellAt 4 (by simp)
      have rz4 := hbr.frozenAt 4
      have r5 := hbr.cellAt 5 (by simp)
      have rz5 := hbr.frozenAt 5
      have r6 := hbr.cellAt 6 (by simp)
      have rz6 := hbr.frozenAt 6
      have hlr := (hbr.lt _ rfl).2
      simp at r0 rz0 r1 rz1 r2 rz2 r3 rz3 r4 rz4 r5 rz5 r6 rz6
      clear hbr
      go_wp2_with fail
      clear y0 y1 y2 y3 y4 y5 y6 hly
      have HZ := Lib.hid (MSt.flat H5.out ow_vZero)
      clear H5
      have hf := (MSt.nth (L1 := [_, _, _]) HZ.out).set7 [.int .i64 0, .int .i64 0, .int .i64 0, .string ⟨#[]⟩, .slice none 0 0, .slice none 0 0, .slice none 0 0] rfl
      simp only [World.setCells, Nat.zero_add, Nat.reduceAdd] at hf
      generalize (((((((w5.setCell ⟨w.heap.size, 0, none⟩ (.int .i64 0)).setCell ⟨w.heap.size, 1, none⟩ (.int .i64 0)).setCell ⟨w.heap.size, 2, none⟩ (.int .i64 0)).setCell ⟨w.heap.size, 3, none⟩ (.string ⟨#[]⟩)).setCell ⟨w.heap.size, 4, none⟩ (.slice none 0 0)).setCell ⟨w.heap.size, 5, none⟩ (.slice none 0 0)).setCell ⟨w.heap.size, 6, none⟩ (.slice none 0 0)) = W7 at hf ⊢
      have hq := hf.box
      have s0 := hq.cellAt 0 (by simp)
      have s1 := hq.cellAt 1 (by simp)
      have s2 := hq.cellAt 2 (by simp)
      have s3 := hq.cellAt 3 (by simp)
      have s4 := hq.cellAt 4 (by simp)
      have s5 := hq.cellAt 5 (by simp)
      have s6 := hq.cellAt 6 (by simp)
      simp at s0 s1 s2 s3 s4 s5 s6
      have HG := Lib.hid (MSt.first hf.drop)
      clear hf hq HZ r0 rz0 r1 rz1 r2 rz2 r3 rz3 r4 rz4 r5 rz5 r6 rz6 hlr
      refine bodyPost_ret (v := .tuple #[.agg #[.int .i64 0, .int .i64 0, .int .i64 0, .string ⟨#[]⟩, .slice none 0 0, .slice none 0 0, .slice none 0 0], .bool false]) (by simp [results, Tryz.results10, go_sem, s0, s1, s2, s3, s4, s5, s6]) rfl (pvTop_is HO.out HG.out)
end Go.Proofs.YtddjkhabcbcnmaaGreatDoor

/-
  Draws of texts that may be representations.
-/

namespace Go.Proofs.YtddjkhabcbcnmaaGreatDoor
open Go.RowKit
open Go.Lib (itoa join)
set_option linter.unusedVariables false

theorem jt_bd (sep : List UInt8) (B : Nat) : ∀ xs : List (List UInt8), (∀ x ∈ xs, x.length ≤ B) → (Lib.joinTail sep xs).length ≤ xs.length * (B + sep.length)
  | [], _ => by simp [Lib.joinTail]
  | x :: xs, h => by
    have h1 := jt_bd sep B xs fun y hy => h y (by simp [hy])
    have h2 := h x (by simp)
    rw [joinTail_cons', List.length_append, List.length_append, List.length_cons, Nat.succ_mul]
    omega
theorem join_bd (sep : List UInt8) (B : Nat) (xs : List (List UInt8)) (h : ∀ x ∈ xs, x.length ≤ B) : (join xs sep).length ≤ xs.length * (B + sep.length) := by
  cases xs with
  | nil => simp [Lib.join_nil]
  | cons x xs =>
    have h1 := jt_bd sep B xs fun y hy => h y (by simp [hy])
    have h2 := h x (by simp)
    rw [Lib.join_cons, List.length_append, List.length_cons, Nat.succ_mul]
    omega
/-- No representation is long. -/
theorem txt_bd {d : Dt} (hd : IsVal d) (hs : d.SV) : d.txt.length ≤ 200000 := by
  have hw := (W3_iff hd).2 hs
  by_cases he : isEl d
  · have := W_len (Nat.le_refl 3) hd he hw; omega
  · obtain ⟨k, n, s, t, l, c, r, hl, hr⟩ := hd
    rw [W_mk] at hw
    have he' : ¬ (k = 1 ∨ k = 2 ∨ k = 3) := he
    rcases hw with h | h | h | ⟨rfl, h1, rfl, rfl, rfl, rfl⟩ | ⟨rfl, h1, rfl, rfl, rfl, rfl⟩ | ⟨rfl, h1, rfl, rfl, rfl, rfl, rfl⟩
    · exact absurd (.inl h.1) he'
    · exact absurd (.inr (.inl h.1)) he'
    · exact absurd (.inr (.inr h.1)) he'
    · have e := txt_str n s
      unfold vStr at e
      have h2 := itoa_len h1.1
      have h3 := itoa_len h1.2
      simp only [List.map_nil, e, List.length_append, List.length_cons, List.length_nil, show wRange.length = 6 from rfl, show sepC.length = 2 from rfl]
      omega
    · obtain ⟨⟨hc1, hc2⟩, ⟨hc3, hc4⟩⟩ := h1.1
      have e := txt_tab c r
      unfold vTab at e
      have h2 := join_bd [32] 8 (c.map (·.data.toList)) fun x hx => by
        obtain ⟨y, hy, rfl⟩ := List.mem_map.1 hx
        exact (VN_byte (hc4 y hy)).1
      have h3 := brk_le 13000 12 (r.map rowTxt) (by simpa using h1.2.1) fun x hx => by
        obtain ⟨y, hy, rfl⟩ := List.mem_map.1 hx
        exact rowTxt_len hc2 (h1.2.2 y hy)
      simp only [e, List.length_append, List.length_cons, List.length_nil, show wTable.length = 6 from rfl, show sepC.length = 2 from rfl, List.length_map] at h2 ⊢
      omega
    · have e := txt_err n
      unfold vErr at e
      have h2 := eName_len n
      simp only [List.map_nil, e, List.length_append, show wError.length = 6 from rfl]
      omega
theorem fmt_bd {d : Dt} (hd : IsVal d) : ∃ Q : List UInt8, fmtB d = ⟨Q.toArray⟩ ∧ Q.length ≤ 200000 := by
  by_cases hs : d.SV
  · exact ⟨d.txt, fmtB_yes hs, txt_bd hd hs⟩
  · exact ⟨[], fmtB_no hs, by simp⟩
/-- A text is drawn. -/
def DrawnTx (K : Nat) (B blk : Nat) (w : World) (e : Ending) (w' : World) : Prop := ∃ T : List UInt8, T.length ≤ K ∧ e = .returned (.string ⟨T.toArray⟩) ∧ w.grownBy w' (some blk) ∧ Cur w' B blk
theorem drawnTx_is {K B blk : Nat} {w w' : World} {x : ByteArray} (T : List UInt8) (hx : x = ⟨T.toArray⟩) (hT : T.length ≤ K) (hg : w.grownBy w' (some blk)) (hc : Cur w' B blk) : DrawnTx K B blk w (.returned (.string x)) w' := ⟨T, hT, by rw [hx], hg, hc⟩
set_option maxHeartbeats 1600000 in
set_option maxRecDepth 100000 in
theorem turned_any (w : World) (B blk g c : Nat) (vs : List Value) (h : Cur w B blk) (hne : g ≠ blk) (hg : g < w.heap.size) (hrow : ∀ (k : Nat) (v : Value), vs[k]? = some v → w.cell? ⟨g, k, none⟩ = some v) (hn : 1 ≤ vs.length) (hn2 : vs.length ≤ 1048576)
    (hv : ∀ v ∈ vs, ∃ u : List UInt8, v = .string ⟨u.toArray⟩ ∧ u.length ≤ 64) (S : List UInt8) (hS : S.length ≤ 200000) :
    Calls Tryz.prog 39 #[.pointer (some ⟨blk, 0, none⟩), .string ⟨S.toArray⟩, .slice (some ⟨g, 0, none⟩) vs.length c] w (DrawnTx 201000 B blk w) := by
  have H := Lib.hid (And.intro h hrow)
  have HV := Lib.hid hv
  clear h hrow hv
  go_enter Tryz.func39, Tryz.ntmps39
  go_wp2_with fail
  refine (below_pos _ B blk ((S.length : Int) + 1) H.out.1 (by omega) (by omega)).mono ?_
  rintro e w1 ⟨x, hx0, hx1, rfl, hg1, hc1⟩
  obtain ⟨n, rfl⟩ : ∃ n : Nat, x = n := ⟨x.toNat, by omega⟩
  have hrow1 : ∀ (k : Nat) (v : Value), vs[k]? = some v → w1.cell? ⟨g, k, none⟩ = some v := fun k v hk => (World.cell?_of_block (hg1.block g hg (by simp [hne]))).trans (H.out.2 k v hk)
  have hgs : g < w1.heap.size := Nat.lt_of_lt_of_le hg hg1.size
  have H1 := Lib.hid (And.intro hg1 (And.intro hc1 hrow1))
  clear hg1 hc1 hrow1
  go_wp2_with fail
  refine (below_pos _ B blk 6 H1.out.2.1 (by omega) (by omega)).mono ?_
  rintro e w2 ⟨y, hy0, hy1, rfl, hg2, hc2⟩
  have hrow2 : ∀ (k : Nat) (v : Value), vs[k]? = some v → w2.cell? ⟨g, k, none⟩ = some v := fun k v hk => (World.cell?_of_block (hg2.block g hgs (by simp [hne]))).trans (H1.out.2.2 k v hk)
  have hgs2 : g < w2.heap.size := Nat.lt_of_lt_of_le hgs hg2.size
  have H2 := Lib.hid (And.intro (grown_trans H1.out.1 hg2) (And.intro hc2 hrow2))
  clear hg2 hc2 hrow2 H1
  have hca := cut_drop S 0 n
  have hcb := cut_drop S n S.length
  rw [List.take_of_length_le (by rw [List.length_drop]; exact Nat.le_refl _)] at hcb
  rw [List.drop_zero, Nat.sub_zero] at hca
  have hnl : n ≤ S.length := by omega
  have hl1 : (S.take n).length = n := by rw [List.length_take]; omega
  have hl2 : (S.drop n).length = S.length - n := List.length_drop
  by_cases y0 : y = 0
  · subst y0
    go_wp2_with fail
    have HP := Lib.hid (pick_any w2.drew B blk g c vs (H2.out.2.1.keep fun k hk => rfl) hne (show g < w2.heap.size from hgs2) (fun k v hk => (World.cell?_of_block rfl).trans (H2.out.2.2 k v hk)) hn hn2)
    go_region_law (first
      | (go_simp
         go_at_call 92
         refine HP.out.mono ?_
         rintro e1 w3 ⟨k, v, hk, rfl, hg3, hc3⟩
         obtain ⟨u, rfl, hu⟩ := HV.out v (List.mem_of_getElem? hk)
         have H3 := Lib.hid (And.intro hg3 hc3)
         have q1 : ¬ 9223372036854775807 < n + u.length := by omega
         have q2 : ¬ 9223372036854775807 < n + u.length + (S.length - n) := by omega
         clear hk hg3 hc3)
      | fail)
    all_goals
      go_wp2_with fail
      go_ret
      refine drawnTx_is (S.take n ++ u ++ S.drop n) (by show tb (S.take n) ++ tb u ++ tb (S.drop n) = tb (S.take n ++ u ++ S.drop n); rw [tbT, tbT]) (by rw [List.length_append, List.length_append, hl1, hl2]; omega) ?_ H3.out.2
      have hdr : w2.grownBy w2.drew (some blk) := ⟨rfl, rfl, rfl, Nat.le_refl _, fun _ _ _ => rfl⟩
      exact grown_trans H2.out.1 (grown_trans hdr H3.out.1)
  · have e0 : (y == 0) = false := by simpa using y0
    by_cases y1 : y = 1
    · subst y1
      go_wp2_with fail
      go_ret
      exact drawnTx_is (S.take n) rfl (by omega) H2.out.1 H2.out.2.1
    · have e1 : (y == 1) = false := by simpa using y1
      go_wp2_with fail
      go_ret
      exact drawnTx_is S rfl (by omega) H2.out.1 H2.out.2.1
end Go.Proofs.YtddjkhabcbcnmaaGreatDoor

/-
  The law FnValueText.
-/

namespace Go.Proofs.YtddjkhabcbcnmaaGreatDoor
open Go.RowKit
set_option linter.unusedVariables false

/-- A value without its origins. -/
def strip : Dt → Dt
  | .agg [a, b, c, e, l, g, .lst r] => .agg [a, b, c, e, l, g, .lst (r.map shRow)]
  | d => d
theorem shRow_row {x : Dt} (h : IsRow x) : IsRow (shRow x) ∧ rowTxt (shRow x) = rowTxt x ∧ shRow (shRow x) = shRow x ∧ ∃ ns : List Int, shRow x = .agg [.lst (ns.map .int), .lst []] := by
  obtain ⟨ns, os, rfl, ho⟩ := h
  exact ⟨⟨ns, [], rfl, by simp⟩, rfl, rfl, ns, rfl⟩
theorem strip_all {d : Dt} (hd : IsVal d) (hs : d.SV) : IsVal (strip d) ∧ NoFrom (strip d) ∧ (strip d).SV ∧ (strip d).txt = d.txt ∧ (strip d).nrm shRow = d.nrm shRow := by
  have hw := (W3_iff hd).2 hs
  obtain ⟨k, n, s, t, l, c, r, hl, hr⟩ := hd
  have hv : IsVal (strip (.agg [.int k, .int n, .int s, .str t, .lst l, .lst (c.map .str), .lst r])) := IsVal.mk k n s t l c (r.map shRow) hl fun x hx => by
    obtain ⟨y, hy, rfl⟩ := List.mem_map.1 hx
    exact (shRow_row (hr y hy)).1
  refine ⟨hv, fun x hx => ?_, (W3_iff hv).1 ?_, ?_, ?_⟩
  · obtain ⟨y, hy, rfl⟩ := List.mem_map.1 hx
    exact (shRow_row (hr y hy)).2.2.2
  · rw [W_mk] at hw
    show W 3 (.agg [.int k, .int n, .int s, .str t, .lst l, .lst (c.map .str), .lst (r.map shRow)])
    rw [W_mk]
    rcases hw with ⟨a, b, e1, e2, e3, e4, rfl⟩ | ⟨a, b, e1, e2, e3, e4, rfl⟩ | ⟨a, b, e1, e2, e3, e4, rfl⟩ | ⟨a, b, e1, e2, e3, rfl⟩ | ⟨a, b, e1, e2, e3, e4⟩ | ⟨a, b, e1, e2, e3, e4, rfl⟩
    · exact .inl ⟨a, b, e1, e2, e3, e4, rfl⟩
    · exact .inr (.inl ⟨a, b, e1, e2, e3, e4, rfl⟩)
    · exact .inr (.inr (.inl ⟨a, b, e1, e2, e3, e4, rfl⟩))
    · exact .inr (.inr (.inr (.inl ⟨a, b, e1, e2, e3, rfl⟩)))
    · refine .inr (.inr (.inr (.inr (.inl ⟨a, ⟨b.1, by simpa using b.2.1, fun x hx => ?_⟩, e1, e2, e3, e4⟩))))
      obtain ⟨y, hy, rfl⟩ := List.mem_map.1 hx
      obtain ⟨ns, os, rfl, g1, g2, g3⟩ := b.2.2 y hy
      exact ⟨ns, [], rfl, g1, fun i hi => by simp at hi, g3⟩
    · exact .inr (.inr (.inr (.inr (.inr ⟨a, b, e1, e2, e3, e4, rfl⟩))))
  · have e : (r.map shRow).map rowTxt = r.map rowTxt := by
      rw [List.map_map]
      exact List.map_congr_left fun x hx => (shRow_row (hr x hx)).2.1
    simp only [strip, Dt.txt, e]
  · show Dt.nrm shRow (.agg [.int k, .int n, .int s, .str t, .lst l, .lst (c.map .str), .lst (r.map shRow)]) = _
    rw [nrm_mk, nrm_mk, List.map_map]
    have e : r.map (shRow ∘ shRow) = r.map shRow := List.map_congr_left fun x hx => (shRow_row (hr x hx)).2.2.1
    rw [e]
theorem txt_some {d : Dt} (h : Top d) : d.txt ≠ [] := by
  rcases h with h | ⟨a, b, _, _, rfl⟩ | ⟨c, r, _, _, _, _, _, rfl⟩ | ⟨n, _, _, rfl⟩
  · obtain ⟨c, r, e, _⟩ := txt_head h
    rw [e]; simp
  · rw [txt_str]; simp [wRange]
  · rw [txt_tab]; simp [wTable]
  · rw [txt_err]; simp [wError]
/-- What ParseValue answers at a value's representation. -/
theorem pv_of {d : Dt} (hd : IsVal d) {Q : List UInt8} (hQ : fmtB d = tb Q) : (d.SV ∧ pvOk Q = true ∧ IsVal (pvVal Q) ∧ NoFrom (pvVal Q) ∧ (pvVal Q).SV ∧ d.nrm shRow = (pvVal Q).nrm shRow) ∨ (¬ d.SV ∧ pvOk Q = false) := by
  by_cases hs : d.SV
  · obtain ⟨h1, h2, h3, h4, h5⟩ := strip_all hd hs
    rw [fmtB_yes hs] at hQ
    have hq := tb_inj hQ
    have hsay : Says (strip d) Q := ⟨h1, h2, h3, by rw [h4, hq], by rw [← hq, ← h4]; exact txt_some (Top_of h1 h3 h2)⟩
    have hp := pv_yes hsay
    refine .inl ⟨hs, hp.2, ?_⟩
    rw [hp.1]
    exact ⟨h1, h2, h3, h5.symm⟩
  · rw [fmtB_no hs] at hQ
    have hq := tb_inj (a := []) hQ
    subst hq
    exact .inr ⟨hs, pv_nil.2⟩
/-- A value is drawn. -/
def OneV (w : World) (e : Ending) (w' : World) : Prop := ∃ d cs fp, IsVal d ∧ d.wt ≤ 22000 ∧ e = .returned (.agg cs.toArray) ∧ MSt w [owA d cs fp] w'
set_option maxHeartbeats 1600000 in
set_option maxRecDepth 100000 in
theorem drawFormatValue_any (A : Option Addr) (n c : Nat) (w : World) (h : Code w w.heap.size A n) (hn : n ≤ 1048576) :
    Calls Tryz.prog 8 #[.slice A n c] w (OneV w) := by
  have H0 := Lib.hid ((MSt.start w).new 28 7 #[.int .i64 0, .int .i64 0, .int .i64 0, .string ⟨#[]⟩, .slice none 0 0, .slice none 0 0, .slice none 0 0] rfl)
  have HC := Lib.hid h
  clear h
  go_enter Tryz.func8, Tryz.ntmps8
  go_wp2_with fail
  refine (new_any A n c _ w.heap.size (by simp) (HC.out.keep fun q hq => by exact (((Below.refl _ _).alloc (Nat.le_refl _) _ : Below w.heap.size w _)).cell hq) hn).mono ?_
  rintro e w1 ⟨blk, rfl, hblk, hcur, hb1⟩
  have HB1 := Lib.hid hb1
  have HK := Lib.hid (And.intro hblk hcur)
  clear hb1 hblk hcur
  go_wp2_with fail
  refine ((bent_any w1 _ blk HK.out.2).mono fun e w' h => h.toV).mono ?_
  rintro e w2 ⟨d, cs, fp, hd, hwt, rfl, hD⟩
  obtain ⟨py0, py1, py2, py3, py4, pn4, pc4, py5, pn5, pc5, py6, pn6, pc6, rfl⟩ := hd.form hD.objs.out.1.read
  have H2 := Lib.hid (H0.out.drawn HB1.out HK.out.1 hD)
  have HD := Lib.hid (And.intro hd hwt)
  clear hD hd hwt H0 HB1 HK HC
  have hbr := (MSt.nth (L1 := [_]) H2.out).box
  have r0 := hbr.cellAt 0 (by simp)
  have rz0 := hbr.frozenAt 0
  have r1 := hbr.cellAt 1 (by simp)
  have rz1 := hbr.frozenAt 1
  have r2 := hbr.cellAt 2 (by simp)
  have rz2 := hbr.frozenAt 2
  have r3 := hbr.cellAt 3 (by simp)
  have rz3 := hbr.frozenAt 3
  have r4 := hbr.cellAt 4 (by simp)
  have rz4 := hbr.frozenAt 4
  have r5 := hbr.cellAt 5 (by simp)
  have rz5 := hbr.frozenAt 5
  have r6 := hbr.cellAt 6 (by simp)
  have rz6 := hbr.frozenAt 6
  have hlr := (hbr.lt _ rfl).2
  simp at r0 rz0 r1 rz1 r2 rz2 r3 rz3 r4 rz4 r5 rz5 r6 rz6
  clear hbr
  go_wp2_with fail
  have hf := (MSt.nth (L1 := [_]) H2.out).set7 [.int .i64 py0, .int .i64 py1, .int .i64 py2, .string py3, .slice py4 pn4 pc4, .slice py5 pn5 pc5, .slice py6 pn6 pc6] rfl
  simp only [World.setCells, Nat.zero_add, Nat.reduceAdd] at hf
  generalize (((((((w2.setCell ⟨w.heap.size, 0, none⟩ (.int .i64 py0)).setCell ⟨w.heap.size, 1, none⟩ (.int .i64 py1)).setCell ⟨w.heap.size, 2, none⟩ (.int .i64 py2)).setCell ⟨w.heap.size, 3, none⟩ (.string py3)).setCell ⟨w.heap.size, 4, none⟩ (.slice py4 pn4 pc4)).setCell ⟨w.heap.size, 5, none⟩ (.slice py5 pn5 pc5)).setCell ⟨w.heap.size, 6, none⟩ (.slice py6 pn6 pc6)) = W7 at hf ⊢
  have hq := hf.box
  have s0 := hq.cellAt 0 (by simp)
  have s1 := hq.cellAt 1 (by simp)
  have s2 := hq.cellAt 2 (by simp)
  have s3 := hq.cellAt 3 (by simp)
  have s4 := hq.cellAt 4 (by simp)
  have s5 := hq.cellAt 5 (by simp)
  have s6 := hq.cellAt 6 (by simp)
  simp at s0 s1 s2 s3 s4 s5 s6
  have HG := Lib.hid (MSt.first hf.drop)
  clear hf hq H2 r0 rz0 r1 rz1 r2 rz2 r3 rz3 r4 rz4 r5 rz5 r6 rz6 hlr
  refine bodyPost_ret (v := .agg #[.int .i64 py0, .int .i64 py1, .int .i64 py2, .string py3, .slice py4 pn4 pc4, .slice py5 pn5 pc5, .slice py6 pn6 pc6]) (by simp [results, Tryz.results8, go_sem, s0, s1, s2, s3, s4, s5, s6]) rfl (show OneV _ _ _ from ⟨d, [.int .i64 py0, .int .i64 py1, .int .i64 py2, .string py3, .slice py4 pn4 pc4, .slice py5 pn5 pc5, .slice py6 pn6 pc6], fp, HD.out.1, HD.out.2, rfl, HG.out⟩)
set_option maxHeartbeats 800000 in
theorem unionNone_any (A A' : Option Addr) (c c' : Nat) (w : World) : Calls Tryz.prog 38 #[.slice A 0 c, .slice A' 0 c'] w fun e w' => ∃ g, e = .returned (.slice (some ⟨g, 0, none⟩) 0 0) ∧ Below w.heap.size w w' := by
  go_enter Tryz.func38, Tryz.ntmps38
  go_wp2_with fail
  go_loopw [5, 6] (fun v t wr => v = .slice (some ⟨w.heap.size, 0, none⟩) 0 0 ∧ t = .int .i64 0 ∧ Below w.heap.size w wr) (fun _ _ _ => 0)
  case atStart => exact ⟨rfl, rfl, (Below.refl _ _).alloc (Nat.le_refl _) _⟩
  case round =>
    obtain ⟨rfl, rfl, hb⟩ := hrel
    have HB := Lib.hid hb
    clear hb
    go_wp2_with fail
    go_loopw [5, 7] (fun v t wr => v = .slice (some ⟨w.heap.size, 0, none⟩) 0 0 ∧ t = .int .i64 0 ∧ Below w.heap.size w wr) (fun _ _ _ => 0)
    case atStart => exact ⟨rfl, rfl, HB.out⟩
    case round =>
      obtain ⟨rfl, rfl, hb⟩ := hrel
      have HB2 := Lib.hid hb
      clear hb
      go_wp2_with fail
      go_ret
      exact ⟨_, rfl, HB2.out⟩
set_option maxHeartbeats 1600000 in
set_option maxRecDepth 100000 in
theorem originsNone_any {d : Dt} (hd : IsVal d) (hn : NoFrom d) (hwt : d.wt ≤ 1048576) (cs : List Value) (w : World) (h : Rd w w.heap.size d cs) : Calls Tryz.prog 14 #[.agg cs.toArray] w fun e w' => ∃ g c, e = .returned (.slice g 0 c) ∧ Below w.heap.size w w' := by
  obtain ⟨k, n, s, t, l, cc, r, hl, hr⟩ := hd
  obtain ⟨A4, c4, A5, c5, A6, c6, rfl, -, -, h6⟩ := Rd.ofValue h
  have hrl : r.length ≤ 1048576 := by simp [Dt.wt, wts] at hwt; omega
  have H6 := Lib.hid h6
  have HN := Lib.hid (show ∀ x ∈ r, ∃ ns : List Int, x = .agg [.lst (ns.map .int), .lst []] from hn)
  clear h h6 hn hwt hl hr
  go_enter Tryz.func14, Tryz.ntmps14
  have hbx := (box_new (e := 28) (s := 7) w #[.int .i64 k, .int .i64 n, .int .i64 s, .string t, .slice A4 l.length c4, .slice A5 (cc.map Dt.str).length c5, .slice A6 r.length c6] rfl).1
  have HBX := Lib.hid hbx
  clear hbx
  go_wp2_with fail
  go_loopw [3, 4] (fun v i wr => ∃ (j q : Nat) (A : Option Addr), j ≤ r.length ∧ v = .slice A 0 q ∧ i = .int .i64 (j : Int) ∧ Below w.heap.size w wr ∧ wr.cell? ⟨w.heap.size, 6, none⟩ = some (.slice A6 r.length c6) ∧ w.heap.size < wr.heap.size) (fun _ i _ => r.length - (intOf i).toNat)
  case atStart =>
    refine ⟨0, 0, _, Nat.zero_le _, rfl, rfl, ((Below.refl _ _).alloc (Nat.le_refl _) _).alloc (by simp) _, ?_, by simp; try omega⟩
    have := HBX.out.cellAt 6 (by simp)
    simp at this ⊢
  case round =>
    obtain ⟨j, q, A, hj, rfl, rfl, hb, hc6, hlt0⟩ := hrel
    have HB := Lib.hid hb
    by_cases hlt : j < r.length
    · obtain ⟨b, o, cs, rfl, hbB, hrd, hlen, hcell⟩ := H6.out.at (k := 2) (fun x hx => by obtain ⟨ns, rfl⟩ := HN.out x hx; rfl) (by omega) j hlt
      obtain ⟨ns, hx⟩ := HN.out _ (List.getElem_mem hlt)
      rw [hx] at hrd
      obtain ⟨A1, c1, A2, c2, rfl, -, -⟩ := Rd.ofRow hrd
      have h01 := (hb.cell (p := ⟨b, o + j * 2 + 1, none⟩) hbB).trans (hcell 1 (by omega))
      simp only [List.getElem?_cons_zero, List.getElem?_cons_succ, List.length_nil] at h01
      clear hb hrd hlen hcell hx
      go_wp2_with fail
      refine (unionNone_any A A2 q c2 wr).mono ?_
      rintro e w2 ⟨g, rfl, hb2⟩
      have HB2 := Lib.hid hb2
      have hc7 := (hb2.cell (p := ⟨w.heap.size, 6, none⟩) hlt0).trans hc6
      have hl7 := Nat.lt_of_lt_of_le hlt0 hb2.size
      clear hb2 h01 hc6
      go_wp2_with fail
      exact ⟨⟨j + 1, 0, _, by omega, rfl, by go_num, HB.out.trans (HB2.out.mono HB.out.size), hc7, hl7⟩, by simp [intOf]; omega⟩
    · obtain rfl : j = r.length := by omega
      clear hb
      go_wp2_with fail
      go_ret
      exact ⟨_, _, rfl, HB.out⟩

set_option maxHeartbeats 3200000 in
set_option maxRecDepth 100000 in
theorem fnValueText_walk (A : Option Addr) (n c : Nat) (zs : List Int) (w : World) (h : IsBytes .u8 w A n c zs) (hE : EnvAll w) :
    Calls Tryz.prog 3 #[.slice A n c] w fun e w' => e = .returned (.bool true) ∧ Below w.heap.size w w' := by
  have HE := Lib.hid hE
  clear hE
  by_cases hb : 1048576 < n
  · have hbig := big_yes A n c w hb h.code.1
    clear h
    go_enter Tryz.func3, Tryz.ntmps3
    go_wp2_with fail
    refine hbig.mono ?_
    rintro e w1 ⟨rfl, rfl⟩
    go_wp2_with fail
    go_ret
    exact ⟨rfl, Below.refl _ _⟩
  · have hbig := big_no A n c w (by omega)
    have HC := Lib.hid h.code
    clear h
    go_enter Tryz.func3, Tryz.ntmps3
    go_wp2_with fail
    refine hbig.mono ?_
    rintro e w ⟨rfl, rfl⟩
    clear hbig
    go_wp2_with fail
    refine (drawFormatValue_any A n c w HC.out (by omega)).mono ?_
    rintro e w1 ⟨d, cs, fp, hd, hwt, rfl, hM⟩
    obtain ⟨py0, py1, py2, py3, py4, pn4, pc4, py5, pn5, pc5, py6, pn6, pc6, rfl⟩ := hd.form hM.read
    have H1 := Lib.hid (hM.new 28 7 #[.int .i64 py0, .int .i64 py1, .int .i64 py2, .string py3, .slice py4 pn4 pc4, .slice py5 pn5 pc5, .slice py6 pn6 pc6] rfl)
    clear hM HC
    have hle : w.heap.size ≤ w1.heap.size := (H1.out.box.lt _ rfl).1
    obtain ⟨S, hS, hSl⟩ := fmt_bd hd
    have hSL : S.length ≤ 1048576 := by omega
    have hpv := pv_of hd hS
    have hwd : d.wt ≤ 1048576 := by omega
    have HF := Lib.hid (fun cs W hh hp => implFormat_any hd hwd cs W hh hp)
    have HG := Lib.hid (fun cs W hh => specFormat_any hd hwd cs W hh)
    rw [hS] at HF HG
    have HI := Lib.hid (fun W hE => implParseValue_any S hSL W hE)
    have hqv := (pv_val S).1
    have hqw := pv_wt S
    unfold PvTop at HI
    generalize pvVal S = v at HI hpv hqv hqw
    generalize pvOk S = ok at HI hpv
    have hwv : v.wt ≤ 1048576 := by omega
    have HV := Lib.hid hqv
    have HD := Lib.hid hd
    have HP := Lib.hid hpv
    clear hS hpv hqv hqw hd hwt
    have hby := (MSt.nth (L1 := []) H1.out).box
    have y0 := hby.cellAt 0 (by simp)
    have y1 := hby.cellAt 1 (by simp)
    have y2 := hby.cellAt 2 (by simp)
    have y3 := hby.cellAt 3 (by simp)
    have y4 := hby.cellAt 4 (by simp)
    have y5 := hby.cellAt 5 (by simp)
    have y6 := hby.cellAt 6 (by simp)
    have hly := (hby.lt _ rfl).2
    simp at y0 y1 y2 y3 y4 y5 y6
    clear hby
    go_wp2_with fail
    clear y0 y1 y2 y3 y4 y5 y6 hly
    refine (HF.out _ _ (MSt.swap H1.out).read (HE.out.below H1.out.bel).2.2).mono ?_
    rintro e w2 ⟨rfl, hb⟩
    have H2 := Lib.hid (H1.out.later hb)
    clear hb H1
    go_wp2_with fail
    refine (HI.out _ (HE.out.below H2.out.bel)).mono ?_
    rintro e w3 ⟨cs, fq, rfl, hM⟩
    obtain ⟨qy0, qy1, qy2, qy3, qy4, qn4, qc4, qy5, qn5, qc5, qy6, qn6, qc6, rfl⟩ := HV.out.form hM.read
    have H3 := Lib.hid ((H2.out.trans hM).new 28 7 #[.int .i64 qy0, .int .i64 qy1, .int .i64 qy2, .string qy3, .slice qy4 qn4 qc4, .slice qy5 qn5 qc5, .slice qy6 qn6 qc6] rfl)
    clear hM H2
    have hss : (S == S) = true := by simp
    have hsn : (S != S) = false := by simp
    have hby := (MSt.nth (L1 := [_, _]) H3.out).box
    have y0 := hby.cellAt 0 (by simp)
    have y1 := hby.cellAt 1 (by simp)
    have y2 := hby.cellAt 2 (by simp)
    have y3 := hby.cellAt 3 (by simp)
    have y4 := hby.cellAt 4 (by simp)
    have y5 := hby.cellAt 5 (by simp)
    have y6 := hby.cellAt 6 (by simp)
    have hly := (hby.lt _ rfl).2
    simp at y0 y1 y2 y3 y4 y5 y6
    clear hby
    go_wp2_with fail
    generalize w3.alloc (.cells #[.int .i64 qy0, .int .i64 qy1, .int .i64 qy2, .string qy3, .slice qy4 qn4 qc4, .slice qy5 qn5 qc5, .slice qy6 qn6 qc6] 28) = w4 at H3 ⊢
    clear y0 y1 y2 y3 y4 y5 y6 hly
    refine (HG.out _ w4 (MSt.nth (L1 := [_, _, _]) H3.out).read).mono ?_
    rintro e w5 ⟨rfl, hb⟩
    have H5 := Lib.hid (H3.out.later hb)
    clear hb H3
    have hby := (MSt.nth (L1 := [_, _]) H5.out).box
    have y0 := hby.cellAt 0 (by simp)
    have y1 := hby.cellAt 1 (by simp)
    have y2 := hby.cellAt 2 (by simp)
    have y3 := hby.cellAt 3 (by simp)
    have y4 := hby.cellAt 4 (by simp)
    have y5 := hby.cellAt 5 (by simp)
    have y6 := hby.cellAt 6 (by simp)
    have hly := (hby.lt _ rfl).2
    simp at y0 y1 y2 y3 y4 y5 y6
    clear hby
    go_wp2_with fail
    clear y0 y1 y2 y3 y4 y5 y6 hly
    refine (specValidV HD.out hwd _ w5 (MSt.nth (L1 := [_, _, _]) H5.out).read).mono ?_
    rintro e w6 ⟨b, rfl, hbi, hb⟩
    have H6 := Lib.hid (H5.out.later hb)
    clear hb H5
    rcases HP.out with ⟨g1, g2, g3, g4, g5, g6⟩ | ⟨g1, g2⟩
    · obtain rfl : b = true := hbi.2 g1
      subst g2
      have G := Lib.hid (And.intro g4 (And.intro g5 g6))
      clear g1 g3 g4 g5 g6 hbi HP
      have hby := (MSt.nth (L1 := [_, _]) H6.out).box
      have y0 := hby.cellAt 0 (by simp)
      have y1 := hby.cellAt 1 (by simp)
      have y2 := hby.cellAt 2 (by simp)
      have y3 := hby.cellAt 3 (by simp)
      have y4 := hby.cellAt 4 (by simp)
      have y5 := hby.cellAt 5 (by simp)
      have y6 := hby.cellAt 6 (by simp)
      have hly := (hby.lt _ rfl).2
      simp at y0 y1 y2 y3 y4 y5 y6
      clear hby
      have hbx := (MSt.nth (L1 := []) H6.out).box
      have x0 := hbx.cellAt 0 (by simp)
      have x1 := hbx.cellAt 1 (by simp)
      have x2 := hbx.cellAt 2 (by simp)
      have x3 := hbx.cellAt 3 (by simp)
      have x4 := hbx.cellAt 4 (by simp)
      have x5 := hbx.cellAt 5 (by simp)
      have x6 := hbx.cellAt 6 (by simp)
      have hlx := (hbx.lt _ rfl).2
      simp at x0 x1 x2 x3 x4 x5 x6
      clear hbx
      go_wp2_with fail
      clear y0 y1 y2 y3 y4 y5 y6 hly
      clear x0 x1 x2 x3 x4 x5 x6 hlx
      refine (implEqualShown_any HD.out HV.out hwd hwv _ _ w6 (MSt.nth (L1 := [_, _, _]) H6.out).read (MSt.nth (L1 := [_]) H6.out).read).mono ?_
      rintro e w7 ⟨b7, rfl, hbi, hb⟩
      obtain rfl : b7 = true := hbi.2 G.out.2.2
      have H7 := Lib.hid (H6.out.later hb)
      clear hb hbi H6
      have hbx := (MSt.nth (L1 := []) H7.out).box
      have x0 := hbx.cellAt 0 (by simp)
      have x1 := hbx.cellAt 1 (by simp)
      have x2 := hbx.cellAt 2 (by simp)
      have x3 := hbx.cellAt 3 (by simp)
      have x4 := hbx.cellAt 4 (by simp)
      have x5 := hbx.cellAt 5 (by simp)
      have x6 := hbx.cellAt 6 (by simp)
      have hlx := (hbx.lt _ rfl).2
      simp at x0 x1 x2 x3 x4 x5 x6
      clear hbx
      go_wp2_with fail
      clear x0 x1 x2 x3 x4 x5 x6 hlx
      refine (specValidV HV.out hwv _ w7 (MSt.nth (L1 := [_]) H7.out).read).mono ?_
      rintro e w8 ⟨b8, rfl, hbi, hb⟩
      obtain rfl : b8 = true := hbi.2 G.out.2.1
      have H8 := Lib.hid (H7.out.later hb)
      clear hb hbi H7
      have hbx := (MSt.nth (L1 := []) H8.out).box
      have x0 := hbx.cellAt 0 (by simp)
      have x1 := hbx.cellAt 1 (by simp)
      have x2 := hbx.cellAt 2 (by simp)
      have x3 := hbx.cellAt 3 (by simp)
      have x4 := hbx.cellAt 4 (by simp)
      have x5 := hbx.cellAt 5 (by simp)
      have x6 := hbx.cellAt 6 (by simp)
      have hlx := (hbx.lt _ rfl).2
      simp at x0 x1 x2 x3 x4 x5 x6
      clear hbx
      go_wp2_with fail
      clear x0 x1 x2 x3 x4 x5 x6 hlx
      refine (originsNone_any HV.out G.out.1 hwv _ w8 (MSt.nth (L1 := [_]) H8.out).read).mono ?_
      rintro e w9 ⟨g, c9, rfl, hb⟩
      have H9 := Lib.hid (H8.out.later hb)
      clear hb H8
      go_wp2_with fail
      go_ret
      exact ⟨rfl, H9.out.bel⟩
    · obtain rfl : b = false := by
        cases b with
        | false => rfl
        | true => exact absurd (hbi.1 rfl) g1
      subst g2
      clear g1 hbi HP
      go_wp2_with fail
      go_ret
      exact ⟨rfl, H6.out.bel⟩
end Go.Proofs.YtddjkhabcbcnmaaGreatDoor
