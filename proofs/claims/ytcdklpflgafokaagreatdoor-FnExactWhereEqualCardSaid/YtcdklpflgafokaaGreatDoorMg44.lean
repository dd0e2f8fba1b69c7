/-
  Texts that the proof rests on, put together: Pub7, CountI, CountS, TabCol.
-/
import Derived.Test.YtcdklpflgafokaaGreatDoorMg20
import Derived.Test.YtcdklpflgafokaaGreatDoorMg43
import Derived.Maps.Views
import Derived.Deep.RegionLaw
import Derived.Deep.RegionHeld3
import Derived.Outline
import Derived.Test.YtcdklpflgafokaaGreatDoorMg24
import Derived.Test.YtcdklpflgafokaaGreatDoorMg14
/-
  The table of operations, operation by operation; operands as a list. (Written by gentab.py.)
-/

namespace Go.Proofs.YtcdklpflgafokaaGreatDoor
open Go.RowKit Go.Maps
set_option linter.unusedVariables false
set_option linter.unusedSimpArgs false

theorem rdl_1 {w : World} {B : Nat} {a : Dt} {ca : List Value} (ha : Rd w B a ca) : RdL w B [a] ca := by simp only [RdL]; exact ⟨ca, [], by simp, ha, rfl⟩
theorem rdl_2 {w : World} {B : Nat} {a : Dt} {l : List Dt} {ca cl : List Value} (ha : Rd w B a ca) (hl : RdL w B l cl) : RdL w B (a :: l) (ca ++ cl) := by simp only [RdL]; exact ⟨ca, cl, rfl, ha, hl⟩
theorem lst_read {w w1 : World} {L : List Asn} {xs : List Dt} {g n : Nat} {cells : List Value} (h : MSt w (rowA 28 7 (.slice (some ⟨g, 0, none⟩) n n) n cells :: L) w1) (hn : n = xs.length) (hl : RdL w w.heap.size xs cells) : Rd w1 w1.heap.size (.lst xs) [.slice (some ⟨g, 0, none⟩) n n] :=
  rd_own1 h.row hn ((hl.below h.bel).more h.size)
theorem rowOf_none (w : World) (B : Nat) : RowOf w B none (intV []) := by
  intro k v h
  simp [intV] at h
theorem tabOp_rows (w : World) : Calls Tryz.prog 51 #[.string ⟨#[114, 111, 119, 115]⟩] w fun e w' => e = .returned (.agg #[.slice none 0 0, .func (.func 101) #[] #[]]) ∧ Below w.heap.size w w' := by
  refine (tabOp_any ⟨#[114, 111, 119, 115]⟩ (by decide) (by simp [opNames]) w).mono ?_
  rintro e w' ⟨g1, g2, g3, g4, g5, g6, v, rfl, hv, hM⟩
  have hv : (tabD g1 g2 g3 g4 g5 g6).atKey (.string [114, 111, 119, 115]) (.held zOp) = .held v := hv
  rw [tabD, atKey_put_other (by simp), atKey_put_other (by simp), atKey_put_other (by simp), atKey_put_other (by simp), atKey_put_other (by simp), atKey_put_other (by simp), atKey_put_same isMap_nil (by simp [WideAt.IsKeyLit])] at hv
  injection hv with hv
  subst hv
  exact ⟨rfl, hM.bel⟩
theorem tabOp_column (w : World) : Calls Tryz.prog 51 #[.string ⟨#[99, 111, 108, 117, 109, 110]⟩] w fun e w' => ∃ g, e = .returned (.agg #[.slice (some ⟨g, 0, none⟩) 1 1, .func (.func 102) #[] #[]]) ∧ RowOf w' w'.heap.size (some ⟨g, 0, none⟩) (intV [2]) ∧ Below w.heap.size w w' := by
  refine (tabOp_any ⟨#[99, 111, 108, 117, 109, 110]⟩ (by decide) (by simp [opNames]) w).mono ?_
  rintro e w' ⟨g1, g2, g3, g4, g5, g6, v, rfl, hv, hM⟩
  have hv : (tabD g1 g2 g3 g4 g5 g6).atKey (.string [99, 111, 108, 117, 109, 110]) (.held zOp) = .held v := hv
  rw [tabD, atKey_put_other (by simp), atKey_put_other (by simp), atKey_put_other (by simp), atKey_put_other (by simp), atKey_put_other (by simp), atKey_put_same (isMap_nil.put _ _) (by simp [WideAt.IsKeyLit])] at hv
  injection hv with hv
  subst hv
  exact ⟨_, rfl, (own_row (MSt.row (MSt.nth (L1 := [_, _, _, _, _]) hM)) fun b hb => ((MSt.row (MSt.nth (L1 := [_, _, _, _, _]) hM)).lt b hb).2), hM.bel⟩
theorem tabOp_where (w : World) : Calls Tryz.prog 51 #[.string ⟨#[119, 104, 101, 114, 101]⟩] w fun e w' => ∃ g, e = .returned (.agg #[.slice (some ⟨g, 0, none⟩) 2 2, .func (.func 104) #[] #[]]) ∧ RowOf w' w'.heap.size (some ⟨g, 0, none⟩) (intV [2, 1]) ∧ Below w.heap.size w w' := by
  refine (tabOp_any ⟨#[119, 104, 101, 114, 101]⟩ (by decide) (by simp [opNames]) w).mono ?_
  rintro e w' ⟨g1, g2, g3, g4, g5, g6, v, rfl, hv, hM⟩
  have hv : (tabD g1 g2 g3 g4 g5 g6).atKey (.string [119, 104, 101, 114, 101]) (.held zOp) = .held v := hv
  rw [tabD, atKey_put_other (by simp), atKey_put_other (by simp), atKey_put_other (by simp), atKey_put_same (((isMap_nil.put _ _).put _ _).put _ _) (by simp [WideAt.IsKeyLit])] at hv
  injection hv with hv
  subst hv
  exact ⟨_, rfl, (own_row (MSt.row (MSt.nth (L1 := [_, _, _]) hM)) fun b hb => ((MSt.row (MSt.nth (L1 := [_, _, _]) hM)).lt b hb).2), hM.bel⟩
theorem tx_cell {w : World} {B : Nat} {d : Dt} {y0 y1 y2 : Int} {y3 : ByteArray} {cs : List Value} (hd : IsVal d) (h : Rd w B d (.int .i64 y0 :: .int .i64 y1 :: .int .i64 y2 :: .string y3 :: cs)) : d.tx = y3 := by
  cases hd
  obtain ⟨A4, c4, A5, c5, A6, c6, hc, _⟩ := Rd.ofValue h
  simp only [List.cons.injEq, Value.int.injEq, Value.string.injEq] at hc
  exact hc.2.2.2.1.symm

end Go.Proofs.YtcdklpflgafokaaGreatDoor

/-
  CountRows, the program's. (Written by gentab.py.)
-/

namespace Go.Proofs.YtcdklpflgafokaaGreatDoor
open Go.RowKit Go.Maps
set_option linter.unusedVariables false
set_option linter.unusedSimpArgs false

set_option maxHeartbeats 1600000 in
set_option maxRecDepth 100000 in
theorem countRows_any (t : Dt) (w : World) (A : Option Addr) (c : Nat) (A5 : Option Addr) (n5 c5 : Nat) (A6 : Option Addr) (n6 c6 : Nat) (ht : TabR w t A5 n5 c5 A6 n6 c6) :
    Calls Tryz.prog 101 #[.agg #[.slice A5 n5 c5, .slice A6 n6 c6], .slice A 0 c] w (ToA w (countD t)) := by
  obtain ⟨hn6, -, -⟩ := ht.2.lst_len
  subst hn6
  unfold countD
  clear ht
  have h0 := ((MSt.start w).new 97 2 #[.slice A5 n5 c5, .slice A6 t.rw.length c6] rfl).new 28 7 #[.int .i64 0, .int .i64 0, .int .i64 0, .string ⟨#[]⟩, .slice none 0 0, .slice none 0 0, .slice none 0 0] rfl
  simp only [World.size_alloc] at h0
  have H0 := Lib.hid h0
  clear h0
  go_enter Tryz.func101, Tryz.ntmps101
  have hb2 := MSt.box (MSt.nth (L1 := [_]) H0.out)
  have fO0 := hb2.cellAt 0 (by decide)
  have fO1 := hb2.cellAt 1 (by decide)
  have fOlt := (hb2.lt _ rfl).2
  simp only [List.getElem?_cons_zero, List.getElem?_cons_succ] at fO0 fO1
  clear hb2
  go_wp2_with fail
  clear fO0 fO1 fOlt
  refine (implNumberValue_any (t.rw.length : Int) _).mono ?_
  rintro e w1 ⟨rfl, hb⟩
  have H1 := Lib.hid (H0.out.later hb)
  clear hb
  obtain ⟨fR0, fR1, fR2, fR3, fR4, fR5, fR6, fRlt⟩ := box7 (MSt.box H1.out)
  obtain ⟨zR0, zR1, zR2, zR3, zR4, zR5, zR6⟩ := box7z (MSt.box H1.out)
  go_wp2_with fail
  obtain ⟨W7, hW, hg, y0, y1, y2, y3, y4, y5, y6⟩ := MSt.put H1.out (.int .i64 1) (.int .i64 (t.rw.length : Int)) (.int .i64 0) (.string ⟨#[]⟩) (.slice none 0 0) (.slice none 0 0) (.slice none 0 0)
  rw [← hW]
  refine bodyPost_ret (v := .agg #[.int .i64 1, .int .i64 (t.rw.length : Int), .int .i64 0, .string ⟨#[]⟩, .slice none 0 0, .slice none 0 0, .slice none 0 0]) (by simp [results, Tryz.results101, go_sem, y0, y1, y2, y3, y4, y5, y6]) rfl (toA_flat0 rfl hg.bel)

set_option maxHeartbeats 1600000 in
set_option maxRecDepth 100000 in
theorem implCountRows_any {t : Dt} (ht : IsVal t) (hwt : t.wt ≤ 1048576) (cst : List Value) (w : World) (rt : Rd w w.heap.size t cst) (d : Dt) (hd : Nary ([] ++ [5]) [t] (countD t) d) :
    Calls Tryz.prog 37 #[.agg cst.toArray] w (ToA w d) := by
  have HV := Lib.hid (And.intro (show ∀ y ∈ [t], IsVal y by simp; exact ht) (show ∀ y ∈ [t], y.wt ≤ 1048576 by simp; omega))
  have HD := Lib.hid hd
  obtain ⟨ty0, ty1, ty2, ty3, ty4, tn4, tc4, ty5, tn5, tc5, ty6, tn6, tc6, rfl⟩ := ht.form rt
  have HRL : Hid (RdL w w.heap.size [t] [.int .i64 ty0, .int .i64 ty1, .int .i64 ty2, .string ty3, .slice ty4 tn4 tc4, .slice ty5 tn5 tc5, .slice ty6 tn6 tc6]) := Lib.hid (rdl_1 rt)
  have HM : Hid (∀ (w1 : World) (A : Option Addr) (c : Nat) (A5 : Option Addr) (n5 c5 : Nat) (A6 : Option Addr) (n6 c6 : Nat), OpOk [t] ([] ++ [5]) → TabR w1 t A5 n5 c5 A6 n6 c6 → Rd w1 w1.heap.size (.lst ([t].take 0)) [.slice A 0 c] → Calls Tryz.prog 101 #[.agg #[.slice A5 n5 c5, .slice A6 n6 c6], .slice A 0 c] w1 (ToA w1 (countD t))) := Lib.hid fun w1 A c A5 n5 c5 A6 n6 c6 ok tr ro => countRows_any t w1 A c A5 n5 c5 A6 n6 c6 tr
  have h0 := ((MSt.start w).new 28 7 #[.int .i64 ty0, .int .i64 ty1, .int .i64 ty2, .string ty3, .slice ty4 tn4 tc4, .slice ty5 tn5 tc5, .slice ty6 tn6 tc6] rfl).new 28 7 #[.int .i64 0, .int .i64 0, .int .i64 0, .string ⟨#[]⟩, .slice none 0 0, .slice none 0 0, .slice none 0 0] rfl
  simp only [World.size_alloc] at h0
  have H0 := Lib.hid h0
  clear h0 hd hwt ht rt
  go_enter Tryz.func37, Tryz.ntmps37
  obtain ⟨fT0, fT1, fT2, fT3, fT4, fT5, fT6, fTlt⟩ := box7 (MSt.box (MSt.nth (L1 := [_]) H0.out))
  go_wp2_with fail
  go_region_law (first
    | (
      go_simp
      go_at_call 51
      refine (tabOp_rows _).mono ?_
      rintro e w2 ⟨rfl, hb⟩
      first | (have HL := Lib.hid (H0.out.drew.later hb)) | (have hx0 := (H0.out.drew.row_lit 28 7 1 #[.int .i64 ty0, .int .i64 ty1, .int .i64 ty2, .string ty3, .slice ty4 tn4 tc4, .slice ty5 tn5 tc5, .slice ty6 tn6 tc6] (by unfold maxLen; omega) rfl).later hb; simp only [World.size_drew, World.size_alloc] at hx0; have HX := Lib.hid hx0; clear hx0) | fail
      have hws2 := hb.size
      first | simp at hws2 | skip
      clear hb
      first | have hbm := MSt.hasB HL.out (a := boxA 28 7 (w.heap.size) [.int .i64 ty0, .int .i64 ty1, .int .i64 ty2, .string ty3, .slice ty4 tn4 tc4, .slice ty5 tn5 tc5, .slice ty6 tn6 tc6]) (by simp) | have hbm := MSt.hasB HX.out (a := boxA 28 7 (w.heap.size) [.int .i64 ty0, .int .i64 ty1, .int .i64 ty2, .string ty3, .slice ty4 tn4 tc4, .slice ty5 tn5 tc5, .slice ty6 tn6 tc6]) (by simp) | fail
      obtain ⟨fT0, fT1, fT2, fT3, fT4, fT5, fT6, fTlt⟩ := box7 hbm
      clear hbm)
    | (
      go_simp
      go_at_call 52
      first | (have HY := HX) | (have HY := Lib.hid (HL.out.row_lit 28 7 1 #[.int .i64 ty0, .int .i64 ty1, .int .i64 ty2, .string ty3, .slice ty4 tn4 tc4, .slice ty5 tn5 tc5, .slice ty6 tn6 tc6] (by unfold maxLen; omega) rfl)) | fail
      have hrd := lst_read HY.out (xs := [t]) rfl HRL.out
      refine (on_any [] _ _ 101 (enters_of Tryz.func101 (by kernel_rfl) rfl) [t] 0 rfl t rfl HV.out.1 HV.out.2 rfl _ _ _ hrd (rowOf_none _ _) (countD t) d HD.out (fun _ => isVal_flatD _ _ _) (fun w1 A5 n5 c5 A6 n6 c6 ok tr ro => HM.out w1 _ _ A5 n5 c5 A6 n6 c6 ok tr ro)).mono ?_
      rintro e w3 ⟨csT, fpT, rfl, how, hnf, hb⟩
      obtain ⟨vy0, vy1, vy2, vy3, vy4, vn4, vc4, vy5, vn5, vc5, vy6, vn6, vc6, rfl⟩ := IsVal.form (HD.out.val (fun _ => isVal_flatD _ _ _)) how.read
      have HZ := Lib.hid (HY.out.add hb (owA_at how hnf))
      clear how hnf hb hrd
      have hbm := MSt.hasB HZ.out (a := boxA 28 7 (w.heap.size + 1) [.int .i64 0, .int .i64 0, .int .i64 0, .string ⟨#[]⟩, .slice none 0 0, .slice none 0 0, .slice none 0 0]) (by simp)
      obtain ⟨fR0, fR1, fR2, fR3, fR4, fR5, fR6, fRlt⟩ := box7 hbm
      obtain ⟨zR0, zR1, zR2, zR3, zR4, zR5, zR6⟩ := box7z hbm
      clear hbm)
    | fail)
  all_goals
    go_wp2_with fail
    obtain ⟨W7, hW, hg, y0, y1, y2, y3, y4, y5, y6⟩ := MSt.put (MSt.nth (L1 := [_, _]) HZ.out) (.int .i64 vy0) (.int .i64 vy1) (.int .i64 vy2) (.string vy3) (.slice vy4 vn4 vc4) (.slice vy5 vn5 vc5) (.slice vy6 vn6 vc6)
    rw [← hW]
    refine bodyPost_ret (v := .agg #[.int .i64 vy0, .int .i64 vy1, .int .i64 vy2, .string vy3, .slice vy4 vn4 vc4, .slice vy5 vn5 vc5, .slice vy6 vn6 vc6]) (by simp [results, Tryz.results37, go_sem, y0, y1, y2, y3, y4, y5, y6]) rfl (MSt.give (MSt.nth (L1 := [_]) hg))

end Go.Proofs.YtcdklpflgafokaaGreatDoor

/-
  CountRows, the model's. (Written by gentab.py.)
-/

namespace Go.Proofs.YtcdklpflgafokaaGreatDoor
open Go.RowKit Go.Maps
set_option linter.unusedVariables false
set_option linter.unusedSimpArgs false

set_option maxHeartbeats 6400000 in
set_option maxRecDepth 100000 in
theorem specCountRows_any {t : Dt} (ht : IsVal t) (hwt : t.wt ≤ 1048576) (cst : List Value) (w : World) (rt : Rd w w.heap.size t cst) (d : Dt) (hd : Nary ([] ++ [5]) [t] (countD t) d) :
    Calls Tryz.prog 36 #[.agg cst.toArray] w (ToA w d) := by
  have HV := Lib.hid (And.intro (show ∀ y ∈ [t], IsVal y by simp; exact ht) (show ∀ y ∈ [t], y.wt ≤ 1048576 by simp; omega))
  have HD := Lib.hid hd
  obtain ⟨ty0, ty1, ty2, ty3, ty4, tn4, tc4, ty5, tn5, tc5, ty6, tn6, tc6, rfl⟩ := ht.form rt
  have HRL : Hid (RdL w w.heap.size [t] [.int .i64 ty0, .int .i64 ty1, .int .i64 ty2, .string ty3, .slice ty4 tn4 tc4, .slice ty5 tn5 tc5, .slice ty6 tn6 tc6]) := Lib.hid (rdl_1 rt)
  have htr := TabR.of ht rt (Nat.le_refl _)
  obtain ⟨hn6, hq6, hx6⟩ := htr.2.lst_len
  subst hn6
  obtain ⟨hn5, hq5, -⟩ := htr.1.lst_len
  rw [List.length_map] at hn5
  subst hn5
  unfold maxLen at hx6
  have HT := Lib.hid htr
  have HRt := Lib.hid rt
  have h0 := ((MSt.start w).new 28 7 #[.int .i64 ty0, .int .i64 ty1, .int .i64 ty2, .string ty3, .slice ty4 tn4 tc4, .slice ty5 t.co.length tc5, .slice ty6 t.rw.length tc6] rfl).new 28 7 #[.int .i64 0, .int .i64 0, .int .i64 0, .string ⟨#[]⟩, .slice none 0 0, .slice none 0 0, .slice none 0 0] rfl
  simp only [World.size_alloc] at h0
  have H0 := Lib.hid h0
  clear h0 hd hwt htr ht rt
  go_enter Tryz.func36, Tryz.ntmps36
  obtain ⟨fT0, fT1, fT2, fT3, fT4, fT5, fT6, fTlt⟩ := box7 (MSt.box (MSt.nth (L1 := [_]) H0.out))
  go_wp2_with fail
  clear fT0 fT1 fT2 fT3 fT4 fT5 fT6 fTlt
  have h1 := ((H0.out.row_lit 28 7 1 #[.int .i64 ty0, .int .i64 ty1, .int .i64 ty2, .string ty3, .slice ty4 tn4 tc4, .slice ty5 t.co.length tc5, .slice ty6 t.rw.length tc6] (by unfold maxLen; omega) rfl).row_lit 3 1 1 #[.int .i64 5] (by unfold maxLen; omega) rfl)
  simp only [World.size_alloc] at h1
  have HL1 := Lib.hid h1
  clear h1
  have hrd := lst_read (MSt.nth (L1 := [_]) HL1.out) (xs := [t]) rfl HRL.out
  have hrk := own_row (MSt.row HL1.out) (fun b hb => ((MSt.row HL1.out).lt b hb).2)
  refine (specCheck_any [t] HV.out.1 HV.out.2 [5] rfl _ _ _ _ _ hrd hrk).mono ?_
  rintro e w1 ⟨⟨hok, rfl⟩ | ⟨ec, he, rfl⟩, hb⟩
  rotate_left
  all_goals clear hrd hrk
  · obtain rfl := HD.out.one (.err ec he)
    clear he
    have H1 := Lib.hid (((MSt.drop (MSt.drop HL1.out)).later hb).new 28 7 #[.int .i64 6, .int .i64 ec, .int .i64 0, .string ⟨#[]⟩, .slice none 0 0, .slice none 0 0, .slice none 0 0] rfl)
    have hz := hb.size
    first | simp at hz | skip
    clear hb
    obtain ⟨fR0, fR1, fR2, fR3, fR4, fR5, fR6, fRlt⟩ := box7 (MSt.box (MSt.nth (L1 := [_]) H1.out))
    obtain ⟨zR0, zR1, zR2, zR3, zR4, zR5, zR6⟩ := box7z (MSt.box (MSt.nth (L1 := [_]) H1.out))
    go_wp2_with fail
    obtain ⟨W7, hW, hg, y0, y1, y2, y3, y4, y5, y6⟩ := MSt.put (MSt.nth (L1 := [_]) H1.out) (.int .i64 6) (.int .i64 ec) (.int .i64 0) (.string ⟨#[]⟩) (.slice none 0 0) (.slice none 0 0) (.slice none 0 0)
    rw [← hW]
    refine bodyPost_ret (v := .agg #[.int .i64 6, .int .i64 ec, .int .i64 0, .string ⟨#[]⟩, .slice none 0 0, .slice none 0 0, .slice none 0 0]) (by simp [results, Tryz.results36, go_sem, y0, y1, y2, y3, y4, y5, y6]) rfl (toA_flat0 rfl hg.bel)
  have HDD := Lib.hid (HD.out.one (.ok hok))
  have HOK := Lib.hid hok
  clear hok
  have H1 := Lib.hid (((MSt.drop (MSt.drop HL1.out)).later hb).new 28 7 #[.int .i64 0, .int .i64 0, .int .i64 0, .string ⟨#[]⟩, .slice none 0 0, .slice none 0 0, .slice none 0 0] rfl)
  have hz := hb.size
  first | simp at hz | skip
  clear hb
  clear HL1
  obtain rfl : d = valD 1 (t.rw.length : Int) ⟨#[]⟩ [] := HDD.out
  obtain ⟨fT0, fT1, fT2, fT3, fT4, fT5, fT6, fTlt⟩ := box7 (MSt.box (MSt.nth (L1 := [_, _]) H1.out))
  go_wp2_with fail
  refine (specNumberValue_any (t.rw.length : Int) _).mono ?_
  rintro e w2 ⟨rfl, hb⟩
  have H2 := Lib.hid (H1.out.later hb)
  clear hb
  clear fT0 fT1 fT2 fT3 fT4 fT5 fT6 fTlt
  obtain ⟨fR0, fR1, fR2, fR3, fR4, fR5, fR6, fRlt⟩ := box7 (MSt.box (MSt.nth (L1 := [_]) H2.out))
  obtain ⟨zR0, zR1, zR2, zR3, zR4, zR5, zR6⟩ := box7z (MSt.box (MSt.nth (L1 := [_]) H2.out))
  go_wp2_with fail
  obtain ⟨W7, hW, hg, y0, y1, y2, y3, y4, y5, y6⟩ := MSt.put (MSt.nth (L1 := [_]) H2.out) (.int .i64 1) (.int .i64 (t.rw.length : Int)) (.int .i64 0) (.string ⟨#[]⟩) (.slice none 0 0) (.slice none 0 0) (.slice none 0 0)
  rw [← hW]
  refine bodyPost_ret (v := .agg #[.int .i64 1, .int .i64 (t.rw.length : Int), .int .i64 0, .string ⟨#[]⟩, .slice none 0 0, .slice none 0 0, .slice none 0 0]) (by simp [results, Tryz.results36, go_sem, y0, y1, y2, y3, y4, y5, y6]) rfl (toA_flat0 rfl hg.bel)

end Go.Proofs.YtcdklpflgafokaaGreatDoor

/-
  Columns. (Written by gentab.py.)
-/

namespace Go.Proofs.YtcdklpflgafokaaGreatDoor
open Go.RowKit Go.Maps
set_option linter.unusedVariables false
set_option linter.unusedSimpArgs false

theorem tbl_of {t : Dt} (ht : IsVal t) (h : Fine t) (hk : t.kd = 5) : TblOk t.co t.rw := by
  obtain ⟨k, n, s, x, l, c, r, hl, hr⟩ := ht
  rw [co_mk, rw_mk]
  exact (tab_fine h hk).1
theorem at_mk {ns : List Int} {os : List Dt} {k : Nat} (h : k < ns.length) : Dt.at (.agg [.lst (ns.map .int), .lst os]) k = ns[k] := by
  unfold Dt.at
  rw [ce_mk, List.getElem?_eq_getElem h]
  rfl
theorem pos_of {cc : List ByteArray} {s : ByteArray} {k : Nat} (h : Lib.idxOfS cc s = ((k : Nat) : Int)) : pos cc s = k := by
  unfold pos
  rw [h]
  rfl
/-- The cells of a column. -/
def colN (rs : List Dt) (k : Nat) : List Int := rs.map fun r => r.at k
theorem colN_len (rs : List Dt) (k : Nat) : (colN rs k).length = rs.length := List.length_map _
theorem colN_next {rs : List Dt} {j k : Nat} (hj : j < rs.length) {n : Int} (hn : rs[j].at k = n) : numV (colN (rs.take j) k) ++ flatV 1 n 0 ⟨#[]⟩ = numV (colN (rs.take (j + 1)) k) := by
  rw [List.take_succ_eq_append_getElem hj]
  simp only [colN, numV, List.map_append, List.flatMap_append, List.map_cons, List.map_nil, List.flatMap_cons, List.flatMap_nil, List.append_nil, hn]
theorem colD_no {a t : Dt} (h : Lib.idxOfS t.co a.tx = -1) : colD a t = errD 7 := by
  unfold colD
  rw [if_pos (by omega)]
theorem colD_long {a t : Dt} {k : Nat} (h : Lib.idxOfS t.co a.tx = ((k : Nat) : Int)) (hr : 8 < t.rw.length) : colD a t = errD 6 := by
  unfold colD
  rw [if_neg (by omega), if_pos hr]
theorem colD_yes {a t : Dt} {k : Nat} (h : Lib.idxOfS t.co a.tx = ((k : Nat) : Int)) (hr : ¬ 8 < t.rw.length) : colD a t = valD 3 0 ⟨#[]⟩ ((colN t.rw k).map fun n => valD 1 n ⟨#[]⟩ []) := by
  unfold colD
  rw [if_neg (by omega), if_neg hr, pos_of h]
  unfold colN
  rw [List.map_map]
  rfl
theorem idx_lt {cc : List ByteArray} {s : ByteArray} : Lib.idxOfS cc s = -1 ∨ ∃ k, k < cc.length ∧ Lib.idxOfS cc s = ((k : Nat) : Int) := by
  rcases idx_or cc s with ⟨h, _⟩ | ⟨k, h1, h2, _⟩
  · exact .inl h
  · exact .inr ⟨k, h1, h2⟩
theorem implListN_any (l : List Dt) (n : Nat) (hn : n = l.length) (hl : ∀ x ∈ l, IsVal x) (hwt : Dt.wt (.lst l) ≤ 1048576) (A4 : Option Addr) (c4 : Nat) (w : World) (h : Rd w w.heap.size (.lst l) [.slice A4 n c4]) :
    Calls Tryz.prog 144 #[.slice A4 n c4] w (ToA w (valD 3 0 ⟨#[]⟩ l)) := by
  subst hn
  exact implList_any l hl hwt A4 c4 w h
theorem isVal_nums (ns : List Int) : ∀ x ∈ ns.map (fun n => valD 1 n ⟨#[]⟩ []), IsVal x := by
  intro x hx
  obtain ⟨n, _, rfl⟩ := List.mem_map.1 hx
  exact isVal_flatD _ _ _
theorem wt_nums (ns : List Int) : Dt.wt (.lst (ns.map fun n => valD 1 n ⟨#[]⟩ [])) = ns.length := by
  have h : ∀ l : List Int, wts (l.map fun n => valD 1 n ⟨#[]⟩ []) = 0 := by
    intro l
    induction l with
    | nil => rfl
    | cons x l ih => simp only [List.map_cons, wts, wt_flatD, ih]
  simp [Dt.wt, h]

end Go.Proofs.YtcdklpflgafokaaGreatDoor
