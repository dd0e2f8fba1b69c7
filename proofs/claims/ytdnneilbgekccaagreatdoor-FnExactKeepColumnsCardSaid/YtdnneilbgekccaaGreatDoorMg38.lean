/-
  Texts that the proof rests on, put together: Pub7, CountI, CountS, TabCol, ColI, ColS.
-/
import Derived.Test.YtdnneilbgekccaaGreatDoorMg15
import Derived.Test.YtdnneilbgekccaaGreatDoorMg36
import Derived.Maps.Views
import Derived.Deep.RegionLaw
import Derived.Deep.RegionHeld3
import Derived.Outline
import Derived.Test.YtdnneilbgekccaaGreatDoorMg17
import Derived.Test.YtdnneilbgekccaaGreatDoorMg11
/-
  The table of operations, operation by operation; operands as a list. (Written by gentab.py.)
-/

namespace Go.Proofs.YtdnneilbgekccaaGreatDoor
open Go.RowKit Go.Maps
set_option linter.unusedVariables false
set_option linter.unusedSimpArgs false

theorem rdl_1 {w : World} {B : Nat} {a : Dt} {ca : List Value} (ha : Rd w B a ca) : RdL w B [a] ca := by simp only [RdL]; exact ⟨ca, [], by simp, ha, rfl⟩
theorem rdl_2 {w : World} {B : Nat} {a : Dt} {l : List Dt} {ca cl : List Value} (ha : Rd w B a ca) (hl : RdL w B l cl) : RdL w B (a :: l) (ca ++ cl) := by simp only [RdL]; exact ⟨ca, cl, rfl, ha, hl⟩
theorem lst_read {w w1 : World} {L : List Asn} {xs : List Dt} {g n : Nat} {cells : List Value} (h : MSt w (rowA 28 7 (.slice (some ⟨g, 0, none⟩) n n) n cells :: L) w1) (hn : n = xs.length) (hl : RdL w w.heap.size xs cells) : Rd w1 w1.heap.size (.lst xs) [.slice (some ⟨g, 0, none⟩) n n] :=
  rd_own1 h.row hn ((hl.below h.bel).more h.size)
theorem rowOf_none (w : World) (B : Nat) : RowOf w B none (intV []) := by
  intro k v h
  simp [intV] at h
theorem tabOp_rows (w : World) : Calls Tryz.prog 62 #[.string ⟨#[114, 111, 119, 115]⟩] w fun e w' => e = .returned (.agg #[.slice none 0 0, .func (.func 116) #[] #[]]) ∧ Below w.heap.size w w' := by
  refine (tabOp_any ⟨#[114, 111, 119, 115]⟩ (by decide) (by simp [opNames]) w).mono ?_
  rintro e w' ⟨g1, g2, g3, g4, g5, g6, v, rfl, hv, hM⟩
  have hv : (tabD g1 g2 g3 g4 g5 g6).atKey (.string [114, 111, 119, 115]) (.held zOp) = .held v := hv
  rw [tabD, atKey_put_other (by simp), atKey_put_other (by simp), atKey_put_other (by simp), atKey_put_other (by simp), atKey_put_other (by simp), atKey_put_other (by simp), atKey_put_same isMap_nil (by simp [WideAt.IsKeyLit])] at hv
  injection hv with hv
  subst hv
  exact ⟨rfl, hM.bel⟩
theorem tabOp_column (w : World) : Calls Tryz.prog 62 #[.string ⟨#[99, 111, 108, 117, 109, 110]⟩] w fun e w' => ∃ g, e = .returned (.agg #[.slice (some ⟨g, 0, none⟩) 1 1, .func (.func 117) #[] #[]]) ∧ RowOf w' w'.heap.size (some ⟨g, 0, none⟩) (intV [2]) ∧ Below w.heap.size w w' := by
  refine (tabOp_any ⟨#[99, 111, 108, 117, 109, 110]⟩ (by decide) (by simp [opNames]) w).mono ?_
  rintro e w' ⟨g1, g2, g3, g4, g5, g6, v, rfl, hv, hM⟩
  have hv : (tabD g1 g2 g3 g4 g5 g6).atKey (.string [99, 111, 108, 117, 109, 110]) (.held zOp) = .held v := hv
  rw [tabD, atKey_put_other (by simp), atKey_put_other (by simp), atKey_put_other (by simp), atKey_put_other (by simp), atKey_put_other (by simp), atKey_put_same (isMap_nil.put _ _) (by simp [WideAt.IsKeyLit])] at hv
  injection hv with hv
  subst hv
  exact ⟨_, rfl, (own_row (MSt.row (MSt.nth (L1 := [_, _, _, _, _]) hM)) fun b hb => ((MSt.row (MSt.nth (L1 := [_, _, _, _, _]) hM)).lt b hb).2), hM.bel⟩
theorem tabOp_keep (w : World) : Calls Tryz.prog 62 #[.string ⟨#[107, 101, 101, 112]⟩] w fun e w' => ∃ g, e = .returned (.agg #[.slice (some ⟨g, 0, none⟩) 1 1, .func (.func 118) #[] #[]]) ∧ RowOf w' w'.heap.size (some ⟨g, 0, none⟩) (intV [2]) ∧ Below w.heap.size w w' := by
  refine (tabOp_any ⟨#[107, 101, 101, 112]⟩ (by decide) (by simp [opNames]) w).mono ?_
  rintro e w' ⟨g1, g2, g3, g4, g5, g6, v, rfl, hv, hM⟩
  have hv : (tabD g1 g2 g3 g4 g5 g6).atKey (.string [107, 101, 101, 112]) (.held zOp) = .held v := hv
  rw [tabD, atKey_put_other (by simp), atKey_put_other (by simp), atKey_put_other (by simp), atKey_put_other (by simp), atKey_put_same ((isMap_nil.put _ _).put _ _) (by simp [WideAt.IsKeyLit])] at hv
  injection hv with hv
  subst hv
  exact ⟨_, rfl, (own_row (MSt.row (MSt.nth (L1 := [_, _, _, _]) hM)) fun b hb => ((MSt.row (MSt.nth (L1 := [_, _, _, _]) hM)).lt b hb).2), hM.bel⟩
theorem tabOp_where (w : World) : Calls Tryz.prog 62 #[.string ⟨#[119, 104, 101, 114, 101]⟩] w fun e w' => ∃ g, e = .returned (.agg #[.slice (some ⟨g, 0, none⟩) 2 2, .func (.func 119) #[] #[]]) ∧ RowOf w' w'.heap.size (some ⟨g, 0, none⟩) (intV [2, 1]) ∧ Below w.heap.size w w' := by
  refine (tabOp_any ⟨#[119, 104, 101, 114, 101]⟩ (by decide) (by simp [opNames]) w).mono ?_
  rintro e w' ⟨g1, g2, g3, g4, g5, g6, v, rfl, hv, hM⟩
  have hv : (tabD g1 g2 g3 g4 g5 g6).atKey (.string [119, 104, 101, 114, 101]) (.held zOp) = .held v := hv
  rw [tabD, atKey_put_other (by simp), atKey_put_other (by simp), atKey_put_other (by simp), atKey_put_same (((isMap_nil.put _ _).put _ _).put _ _) (by simp [WideAt.IsKeyLit])] at hv
  injection hv with hv
  subst hv
  exact ⟨_, rfl, (own_row (MSt.row (MSt.nth (L1 := [_, _, _]) hM)) fun b hb => ((MSt.row (MSt.nth (L1 := [_, _, _]) hM)).lt b hb).2), hM.bel⟩
theorem tx_cell {w : World} {B : Nat} {d : Dt} {y0 y1 y2 : Int} {y3 : ByteArray} {cs : List Value} (hd : IsVal d) (h : Rd w B d (.int .i64 y0 :: .int .i64 y1 :: .int .i64 y2 :: .string y3 :: cs)) : d.tx = y3 := by
  cases hd
  obtain ⟨A4, c4, A5, c5, A6, c6, hc, _⟩ := Rd.ofValue h
  simp only [List.cons.injEq, Value.int.injEq, Value.string.injEq] at hc
  exact hc.2.2.2.1.symm

end Go.Proofs.YtdnneilbgekccaaGreatDoor

/-
  CountRows, the program's. (Written by gentab.py.)
-/

namespace Go.Proofs.YtdnneilbgekccaaGreatDoor
open Go.RowKit Go.Maps
set_option linter.unusedVariables false
set_option linter.unusedSimpArgs false

set_option maxHeartbeats 1600000 in
set_option maxRecDepth 100000 in
theorem countRows_any (t : Dt) (w : World) (A : Option Addr) (c : Nat) (A5 : Option Addr) (n5 c5 : Nat) (A6 : Option Addr) (n6 c6 : Nat) (ht : TabR w t A5 n5 c5 A6 n6 c6) :
    Calls Tryz.prog 116 #[.agg #[.slice A5 n5 c5, .slice A6 n6 c6], .slice A 0 c] w (ToA w (countD t)) := by
  obtain ⟨hn6, -, -⟩ := ht.2.lst_len
  subst hn6
  unfold countD
  clear ht
  have h0 := ((MSt.start w).new 113 2 #[.slice A5 n5 c5, .slice A6 t.rw.length c6] rfl).new 28 7 #[.int .i64 0, .int .i64 0, .int .i64 0, .string ⟨#[]⟩, .slice none 0 0, .slice none 0 0, .slice none 0 0] rfl
  simp only [World.size_alloc] at h0
  have H0 := Lib.hid h0
  clear h0
  go_enter Tryz.func116, Tryz.ntmps116
  have hb2 := MSt.box (MSt.nth (L1 := [_]) H0.out)
  have fO0 := hb2.cellAt 0 (by decide)
  have fO1 := hb2.cellAt 1 (by decide)
  have fOlt := (hb2.lt _ rfl).2
  simp only [List.getElem?_cons_zero, List.getElem?_cons_succ] at fO0 fO1
  clear hb2
  go_wp2_with fail
  clear fO0 fO1 fOlt
  refine (implNumberValue_any (t.rw.length : Int) _).mono ?_
  rintro e w1 ⟨rfl, hb⟩
  have H1 := Lib.hid (H0.out.later hb)
  clear hb
  obtain ⟨fR0, fR1, fR2, fR3, fR4, fR5, fR6, fRlt⟩ := box7 (MSt.box H1.out)
  obtain ⟨zR0, zR1, zR2, zR3, zR4, zR5, zR6⟩ := box7z (MSt.box H1.out)
  go_wp2_with fail
  obtain ⟨W7, hW, hg, y0, y1, y2, y3, y4, y5, y6⟩ := MSt.put H1.out (.int .i64 1) (.int .i64 (t.rw.length : Int)) (.int .i64 0) (.string ⟨#[]⟩) (.slice none 0 0) (.slice none 0 0) (.slice none 0 0)
  rw [← hW]
  refine bodyPost_ret (v := .agg #[.int .i64 1, .int .i64 (t.rw.length : Int), .int .i64 0, .string ⟨#[]⟩, .slice none 0 0, .slice none 0 0, .slice none 0 0]) (by simp [results, Tryz.results116, go_sem, y0, y1, y2, y3, y4, y5, y6]) rfl (toA_flat0 rfl hg.bel)

set_option maxHeartbeats 1600000 in
set_option maxRecDepth 100000 in
theorem implCountRows_any {t : Dt} (ht : IsVal t) (hwt : t.wt ≤ 1048576) (cst : List Value) (w : World) (rt : Rd w w.heap.size t cst) (d : Dt) (hd : Nary ([] ++ [5]) [t] (countD t) d) :
    Calls Tryz.prog 34 #[.agg cst.toArray] w (ToA w d) := by
  have HV := Lib.hid (And.intro (show ∀ y ∈ [t], IsVal y by simp; exact ht) (show ∀ y ∈ [t], y.wt ≤ 1048576 by simp; omega))
  have HD := Lib.hid hd
  obtain ⟨ty0, ty1, ty2, ty3, ty4, tn4, tc4, ty5, tn5, tc5, ty6, tn6, tc6, rfl⟩ := ht.form rt
  have HRL : Hid (RdL w w.heap.size [t] [.int .i64 ty0, .int .i64 ty1, .int .i64 ty2, .string ty3, .slice ty4 tn4 tc4, .slice ty5 tn5 tc5, .slice ty6 tn6 tc6]) := Lib.hid (rdl_1 rt)
  have HM : Hid (∀ (w1 : World) (A : Option Addr) (c : Nat) (A5 : Option Addr) (n5 c5 : Nat) (A6 : Option Addr) (n6 c6 : Nat), OpOk [t] ([] ++ [5]) → TabR w1 t A5 n5 c5 A6 n6 c6 → Rd w1 w1.heap.size (.lst ([t].take 0)) [.slice A 0 c] → Calls Tryz.prog 116 #[.agg #[.slice A5 n5 c5, .slice A6 n6 c6], .slice A 0 c] w1 (ToA w1 (countD t))) := Lib.hid fun w1 A c A5 n5 c5 A6 n6 c6 ok tr ro => countRows_any t w1 A c A5 n5 c5 A6 n6 c6 tr
  have h0 := ((MSt.start w).new 28 7 #[.int .i64 ty0, .int .i64 ty1, .int .i64 ty2, .string ty3, .slice ty4 tn4 tc4, .slice ty5 tn5 tc5, .slice ty6 tn6 tc6] rfl).new 28 7 #[.int .i64 0, .int .i64 0, .int .i64 0, .string ⟨#[]⟩, .slice none 0 0, .slice none 0 0, .slice none 0 0] rfl
  simp only [World.size_alloc] at h0
  have H0 := Lib.hid h0
  clear h0 hd hwt ht rt
  go_enter Tryz.func34, Tryz.ntmps34
  obtain ⟨fT0, fT1, fT2, fT3, fT4, fT5, fT6, fTlt⟩ := box7 (MSt.box (MSt.nth (L1 := [_]) H0.out))
  go_wp2_with fail
  go_region_law (first
    | (
      go_simp
      go_at_call 62
      refine (tabOp_rows _).mono ?_
      rintro e w2 ⟨rfl, hb⟩
      first | (have HL := Lib.hid (H0.out.drew.later hb)) | (have hx0 := (H0.out.drew.row_lit 28 7 1 #[.int .i64 ty0, .int .i64 ty1, .int .i64 ty2, .string ty3, .slice ty4 tn4 tc4, .slice ty5 tn5 tc5, .slice ty6 tn6 tc6] (by unfold maxLen; omega) rfl).later hb; simp only [World.size_drew, World.size_alloc] at hx0; have HX := Lib.hid hx0; clear hx0) | fail
      have hws2 := hb.size
      first | simp at hws2 | skip
      clear hb
      first | have hbm := MSt.hasB HL.out (a := boxA 28 7 (w.heap.size) [.int .i64 ty0, .int .i64 ty1, .int .i64 ty2, .string ty3, .slice ty4 tn4 tc4, .slice ty5 tn5 tc5, .slice ty6 tn6 tc6]) (by simp) | have hbm := MSt.hasB HX.out (a := boxA 28 7 (w.heap.size) [.int .i64 ty0, .int .i64 ty1, .int .i64 ty2, .string ty3, .slice ty4 tn4 tc4, .slice ty5 tn5 tc5, .slice ty6 tn6 tc6]) (by simp) | fail
      obtain ⟨fT0, fT1, fT2, fT3, fT4, fT5, fT6, fTlt⟩ := box7 hbm
      clear hbm)
    | (
      go_simp
      go_at_call 63
      first | (have HY := HX) | (have HY := Lib.hid (HL.out.row_lit 28 7 1 #[.int .i64 ty0, .int .i64 ty1, .int .i64 ty2, .string ty3, .slice ty4 tn4 tc4, .slice ty5 tn5 tc5, .slice ty6 tn6 tc6] (by unfold maxLen; omega) rfl)) | fail
      have hrd := lst_read HY.out (xs := [t]) rfl HRL.out
      refine (on_any [] _ _ 116 (enters_of Tryz.func116 (by kernel_rfl) rfl) [t] 0 rfl t rfl HV.out.1 HV.out.2 rfl _ _ _ hrd (rowOf_none _ _) (countD t) d HD.out (fun _ => isVal_flatD _ _ _) (fun w1 A5 n5 c5 A6 n6 c6 ok tr ro => HM.out w1 _ _ A5 n5 c5 A6 n6 c6 ok tr ro)).mono ?_
      rintro e w3 ⟨csT, fpT, rfl, how, hnf, hb⟩
      obtain ⟨vy0, vy1, vy2, vy3, vy4, vn4, vc4, vy5, vn5, vc5, vy6, vn6, vc6, rfl⟩ := IsVal.form (HD.out.val (fun _ => isVal_flatD _ _ _)) how.read
      have HZ := Lib.hid (HY.out.add hb (owA_at how hnf))
      clear how hnf hb hrd
      have hbm := MSt.hasB HZ.out (a := boxA 28 7 (w.heap.size + 1) [.int .i64 0, .int .i64 0, .int .i64 0, .string ⟨#[]⟩, .slice none 0 0, .slice none 0 0, .slice none 0 0]) (by simp)
      obtain ⟨fR0, fR1, fR2, fR3, fR4, fR5, fR6, fRlt⟩ := box7 hbm
      obtain ⟨zR0, zR1, zR2, zR3, zR4, zR5, zR6⟩ := box7z hbm
      clear hbm)
    | fail)
  all_goals
    go_wp2_with fail
    obtain ⟨W7, hW, hg, y0, y1, y2, y3, y4, y5, y6⟩ := MSt.put (MSt.nth (L1 := [_, _]) HZ.out) (.int .i64 vy0) (.int .i64 vy1) (.int .i64 vy2) (.string vy3) (.slice vy4 vn4 vc4) (.slice vy5 vn5 vc5) (.slice vy6 vn6 vc6)
    rw [← hW]
    refine bodyPost_ret (v := .agg #[.int .i64 vy0, .int .i64 vy1, .int .i64 vy2, .string vy3, .slice vy4 vn4 vc4, .slice vy5 vn5 vc5, .slice vy6 vn6 vc6]) (by simp [results, Tryz.results34, go_sem, y0, y1, y2, y3, y4, y5, y6]) rfl (MSt.give (MSt.nth (L1 := [_]) hg))

end Go.Proofs.YtdnneilbgekccaaGreatDoor

/-
  CountRows, the model's. (Written by gentab.py.)
-/

namespace Go.Proofs.YtdnneilbgekccaaGreatDoor
open Go.RowKit Go.Maps
set_option linter.unusedVariables false
set_option linter.unusedSimpArgs false

set_option maxHeartbeats 6400000 in
set_option maxRecDepth 100000 in
theorem specCountRows_any {t : Dt} (ht : IsVal t) (hwt : t.wt ≤ 1048576) (cst : List Value) (w : World) (rt : Rd w w.heap.size t cst) (d : Dt) (hd : Nary ([] ++ [5]) [t] (countD t) d) :
    Calls Tryz.prog 32 #[.agg cst.toArray] w (ToA w d) := by
  have HV := Lib.hid (And.intro (show ∀ y ∈ [t], IsVal y by simp; exact ht) (show ∀ y ∈ [t], y.wt ≤ 1048576 by simp; omega))
  have HD := Lib.hid hd
  obtain ⟨ty0, ty1, ty2, ty3, ty4, tn4, tc4, ty5, tn5, tc5, ty6, tn6, tc6, rfl⟩ := ht.form rt
  have HRL : Hid (RdL w w.heap.size [t] [.int .i64 ty0, .int .i64 ty1, .int .i64 ty2, .string ty3, .slice ty4 tn4 tc4, .slice ty5 tn5 tc5, .slice ty6 tn6 tc6]) := Lib.hid (rdl_1 rt)
  have htr := TabR.of ht rt (Nat.le_refl _)
  obtain ⟨hn6, hq6, hx6⟩ := htr.2.lst_len
  subst hn6
  obtain ⟨hn5, hq5, -⟩ := htr.1.lst_len
  rw [List.length_map] at hn5
  subst hn5
  unfold maxLen at hx6
  have HT := Lib.hid htr
  have HRt := Lib.hid rt
  have h0 := ((MSt.start w).new 28 7 #[.int .i64 ty0, .int .i64 ty1, .int .i64 ty2, .string ty3, .slice ty4 tn4 tc4, .slice ty5 t.co.length tc5, .slice ty6 t.rw.length tc6] rfl).new 28 7 #[.int .i64 0, .int .i64 0, .int .i64 0, .string ⟨#[]⟩, .slice none 0 0, .slice none 0 0, .slice none 0 0] rfl
  simp only [World.size_alloc] at h0
  have H0 := Lib.hid h0
  clear h0 hd hwt htr ht rt
  go_enter Tryz.func32, Tryz.ntmps32
  obtain ⟨fT0, fT1, fT2, fT3, fT4, fT5, fT6, fTlt⟩ := box7 (MSt.box (MSt.nth (L1 := [_]) H0.out))
  go_wp2_with fail
  clear fT0 fT1 fT2 fT3 fT4 fT5 fT6 fTlt
  have h1 := ((H0.out.row_lit 28 7 1 #[.int .i64 ty0, .int .i64 ty1, .int .i64 ty2, .string ty3, .slice ty4 tn4 tc4, .slice ty5 t.co.length tc5, .slice ty6 t.rw.length tc6] (by unfold maxLen; omega) rfl).row_lit 3 1 1 #[.int .i64 5] (by unfold maxLen; omega) rfl)
  simp only [World.size_alloc] at h1
  have HL1 := Lib.hid h1
  clear h1
  have hrd := lst_read (MSt.nth (L1 := [_]) HL1.out) (xs := [t]) rfl HRL.out
  have hrk := own_row (MSt.row HL1.out) (fun b hb => ((MSt.row HL1.out).lt b hb).2)
  refine (specCheck_any [t] HV.out.1 HV.out.2 [5] rfl _ _ _ _ _ hrd hrk).mono ?_
  rintro e w1 ⟨⟨hok, rfl⟩ | ⟨ec, he, rfl⟩, hb⟩
  rotate_left
  all_goals clear hrd hrk
  · obtain rfl := HD.out.one (.err ec he)
    clear he
    have H1 := Lib.hid (((MSt.drop (MSt.drop HL1.out)).later hb).new 28 7 #[.int .i64 6, .int .i64 ec, .int .i64 0, .string ⟨#[]⟩, .slice none 0 0, .slice none 0 0, .slice none 0 0] rfl)
    have hz := hb.size
    first | simp at hz | skip
    clear hb
    obtain ⟨fR0, fR1, fR2, fR3, fR4, fR5, fR6, fRlt⟩ := box7 (MSt.box (MSt.nth (L1 := [_]) H1.out))
    obtain ⟨zR0, zR1, zR2, zR3, zR4, zR5, zR6⟩ := box7z (MSt.box (MSt.nth (L1 := [_]) H1.out))
    go_wp2_with fail
    obtain ⟨W7, hW, hg, y0, y1, y2, y3, y4, y5, y6⟩ := MSt.put (MSt.nth (L1 := [_]) H1.out) (.int .i64 6) (.int .i64 ec) (.int .i64 0) (.string ⟨#[]⟩) (.slice none 0 0) (.slice none 0 0) (.slice none 0 0)
    rw [← hW]
    refine bodyPost_ret (v := .agg #[.int .i64 6, .int .i64 ec, .int .i64 0, .string ⟨#[]⟩, .slice none 0 0, .slice none 0 0, .slice none 0 0]) (by simp [results, Tryz.results32, go_sem, y0, y1, y2, y3, y4, y5, y6]) rfl (toA_flat0 rfl hg.bel)
  have HDD := Lib.hid (HD.out.one (.ok hok))
  have HOK := Lib.hid hok
  clear hok
  have H1 := Lib.hid (((MSt.drop (MSt.drop HL1.out)).later hb).new 28 7 #[.int .i64 0, .int .i64 0, .int .i64 0, .string ⟨#[]⟩, .slice none 0 0, .slice none 0 0, .slice none 0 0] rfl)
  have hz := hb.size
  first | simp at hz | skip
  clear hb
  clear HL1
  obtain rfl : d = valD 1 (t.rw.length : Int) ⟨#[]⟩ [] := HDD.out
  obtain ⟨fT0, fT1, fT2, fT3, fT4, fT5, fT6, fTlt⟩ := box7 (MSt.box (MSt.nth (L1 := [_, _]) H1.out))
  go_wp2_with fail
  refine (specNumberValue_any (t.rw.length : Int) _).mono ?_
  rintro e w2 ⟨rfl, hb⟩
  have H2 := Lib.hid (H1.out.later hb)
  clear hb
  clear fT0 fT1 fT2 fT3 fT4 fT5 fT6 fTlt
  obtain ⟨fR0, fR1, fR2, fR3, fR4, fR5, fR6, fRlt⟩ := box7 (MSt.box (MSt.nth (L1 := [_]) H2.out))
  obtain ⟨zR0, zR1, zR2, zR3, zR4, zR5, zR6⟩ := box7z (MSt.box (MSt.nth (L1 := [_]) H2.out))
  go_wp2_with fail
  obtain ⟨W7, hW, hg, y0, y1, y2, y3, y4, y5, y6⟩ := MSt.put (MSt.nth (L1 := [_]) H2.out) (.int .i64 1) (.int .i64 (t.rw.length : Int)) (.int .i64 0) (.string ⟨#[]⟩) (.slice none 0 0) (.slice none 0 0) (.slice none 0 0)
  rw [← hW]
  refine bodyPost_ret (v := .agg #[.int .i64 1, .int .i64 (t.rw.length : Int), .int .i64 0, .string ⟨#[]⟩, .slice none 0 0, .slice none 0 0, .slice none 0 0]) (by simp [results, Tryz.results32, go_sem, y0, y1, y2, y3, y4, y5, y6]) rfl (toA_flat0 rfl hg.bel)

end Go.Proofs.YtdnneilbgekccaaGreatDoor

/-
  Columns. (Written by gentab.py.)
-/

namespace Go.Proofs.YtdnneilbgekccaaGreatDoor
open Go.RowKit Go.Maps
set_option linter.unusedVariables false
set_option linter.unusedSimpArgs false

theorem tbl_of {t : Dt} (ht : IsVal t) (h : Fine t) (hk : t.kd = 5) : TblOk t.co t.rw := by
  obtain ⟨k, n, s, x, l, c, r, hl, hr⟩ := ht
  rw [co_mk, rw_mk]
  exact (tab_fine h hk).1
theorem at_mk {ns : List Int} {os : List Dt} {k : Nat} (h : k < ns.length) : Dt.at (.agg [.lst (ns.map .int), .lst os]) k = ns[k] := by
  unfold Dt.at
  rw [ce_mk, List.getElem?_eq_getElem h]
  rfl
theorem pos_of {cc : List ByteArray} {s : ByteArray} {k : Nat} (h : Lib.idxOfS cc s = ((k : Nat) : Int)) : pos cc s = k := by
  unfold pos
  rw [h]
  rfl
/-- The cells of a column. -/
def colN (rs : List Dt) (k : Nat) : List Int := rs.map fun r => r.at k
theorem colN_len (rs : List Dt) (k : Nat) : (colN rs k).length = rs.length := List.length_map _
theorem colN_next {rs : List Dt} {j k : Nat} (hj : j < rs.length) {n : Int} (hn : rs[j].at k = n) : numV (colN (rs.take j) k) ++ flatV 1 n 0 ⟨#[]⟩ = numV (colN (rs.take (j + 1)) k) := by
  rw [List.take_succ_eq_append_getElem hj]
  simp only [colN, numV, List.map_append, List.flatMap_append, List.map_cons, List.map_nil, List.flatMap_cons, List.flatMap_nil, List.append_nil, hn]
theorem colD_no {a t : Dt} (h : Lib.idxOfS t.co a.tx = -1) : colD a t = errD 7 := by
  unfold colD
  rw [if_pos (by omega)]
theorem colD_long {a t : Dt} {k : Nat} (h : Lib.idxOfS t.co a.tx = ((k : Nat) : Int)) (hr : 8 < t.rw.length) : colD a t = errD 6 := by
  unfold colD
  rw [if_neg (by omega), if_pos hr]
theorem colD_yes {a t : Dt} {k : Nat} (h : Lib.idxOfS t.co a.tx = ((k : Nat) : Int)) (hr : ¬ 8 < t.rw.length) : colD a t = valD 3 0 ⟨#[]⟩ ((colN t.rw k).map fun n => valD 1 n ⟨#[]⟩ []) := by
  unfold colD
  rw [if_neg (by omega), if_neg hr, pos_of h]
  unfold colN
  rw [List.map_map]
  rfl
theorem idx_lt {cc : List ByteArray} {s : ByteArray} : Lib.idxOfS cc s = -1 ∨ ∃ k, k < cc.length ∧ Lib.idxOfS cc s = ((k : Nat) : Int) := by
  rcases idx_or cc s with ⟨h, _⟩ | ⟨k, h1, h2, _⟩
  · exact .inl h
  · exact .inr ⟨k, h1, h2⟩
theorem implListN_any (l : List Dt) (n : Nat) (hn : n = l.length) (hl : ∀ x ∈ l, IsVal x) (hwt : Dt.wt (.lst l) ≤ 1048576) (A4 : Option Addr) (c4 : Nat) (w : World) (h : Rd w w.heap.size (.lst l) [.slice A4 n c4]) :
    Calls Tryz.prog 169 #[.slice A4 n c4] w (ToA w (valD 3 0 ⟨#[]⟩ l)) := by
  subst hn
  exact implList_any l hl hwt A4 c4 w h
theorem isVal_nums (ns : List Int) : ∀ x ∈ ns.map (fun n => valD 1 n ⟨#[]⟩ []), IsVal x := by
  intro x hx
  obtain ⟨n, _, rfl⟩ := List.mem_map.1 hx
  exact isVal_flatD _ _ _
theorem wt_nums (ns : List Int) : Dt.wt (.lst (ns.map fun n => valD 1 n ⟨#[]⟩ [])) = ns.length := by
  have h : ∀ l : List Int, wts (l.map fun n => valD 1 n ⟨#[]⟩ []) = 0 := by
    intro l
    induction l with
    | nil => rfl
    | cons x l ih => simp only [List.map_cons, wts, wt_flatD, ih]
  simp [Dt.wt, h]

end Go.Proofs.YtdnneilbgekccaaGreatDoor

/-
  ColumnOf, the program's. (Written by gentab.py.)
-/

namespace Go.Proofs.YtdnneilbgekccaaGreatDoor
open Go.RowKit Go.Maps
set_option linter.unusedVariables false
set_option linter.unusedSimpArgs false

set_option maxHeartbeats 6400000 in
set_option maxRecDepth 100000 in
theorem columnOf_any {a t : Dt} (hv : ∀ y ∈ [a, t], IsVal y) (hw : ∀ y ∈ [a, t], y.wt ≤ 1048576) (ok : OpOk [a, t] ([2] ++ [5])) (w : World) (A : Option Addr) (c : Nat) (A5 : Option Addr) (n5 c5 : Nat) (A6 : Option Addr) (n6 c6 : Nat) (tr : TabR w t A5 n5 c5 A6 n6 c6)
    (ro : Rd w w.heap.size (.lst [a]) [.slice A 1 c]) : Calls Tryz.prog 117 #[.agg #[.slice A5 n5 c5, .slice A6 n6 c6], .slice A 1 c] w (ToA w (colD a t)) := by
  obtain ⟨hn6, hq6, hx6⟩ := tr.2.lst_len
  subst hn6
  obtain ⟨hn5, hq5, -⟩ := tr.1.lst_len
  rw [List.length_map] at hn5
  subst hn5
  obtain ⟨-, hcA, hcB⟩ := ro.lst_len
  unfold maxLen at hx6 hcB
  have hkk := ok.2
  simp only [List.map_cons, List.map_nil, List.cons_append, List.nil_append, List.cons.injEq, and_true] at hkk
  obtain ⟨ka, kt⟩ := hkk
  have htb := tbl_of (hv t (by simp)) (ok.1 t (by simp)) kt
  have HB := Lib.hid htb
  have hr12 := htb.2.1
  have hc4 := htb.1.1.2
  obtain ⟨ba, oa, csa, hAa, hba, hrda, -, hca⟩ := ro.at (k := 7) (fun y hy => (hv y (List.mem_append_left [t] hy)).width) (by omega) 0 (by simp)
  simp only [List.getElem_cons_zero, List.getElem_cons_zero, List.getElem_cons_succ] at hrda
  subst hAa
  obtain ⟨ay0, ay1, ay2, ay3, ay4, an4, ac4, ay5, an5, ac5, ay6, an6, ac6, rfl⟩ := (hv a (by simp)).form hrda
  have HKa := Lib.hid (And.intro (kd_cell (hv a (by simp)) hrda) (tx_cell (hv a (by simp)) hrda))
  have ha0 := hca 0 (by omega)
  have ha1 := hca 1 (by omega)
  have ha2 := hca 2 (by omega)
  have ha3 := hca 3 (by omega)
  have ha4 := hca 4 (by omega)
  have ha5 := hca 5 (by omega)
  have ha6 := hca 6 (by omega)
  simp only [List.getElem?_cons_zero, List.getElem?_cons_succ, Nat.add_zero, Nat.zero_mul, Nat.one_mul, Nat.reduceMul] at ha0 ha1 ha2 ha3 ha4 ha5 ha6
  clear hca
  have HTR := Lib.hid tr
  have HRO := Lib.hid ro
  have HV := Lib.hid (And.intro hv (And.intro hw ok))
  clear hv hw ok tr ro htb ka kt hrda
  have h0 := ((MSt.start w).new 113 2 #[.slice A5 t.co.length c5, .slice A6 t.rw.length c6] rfl).new 28 7 #[.int .i64 0, .int .i64 0, .int .i64 0, .string ⟨#[]⟩, .slice none 0 0, .slice none 0 0, .slice none 0 0] rfl
  simp only [World.size_alloc] at h0
  have H0 := Lib.hid h0
  clear h0
  rcases idx_lt (cc := t.co) (s := ay3) with hidx | ⟨k, hkc, hidx⟩
  · rw [colD_no (by rw [HKa.out.2]; exact hidx)]
    have hcall : ∀ m, Calls Tryz.prog 73 #[.slice A5 t.co.length c5, .string ay3] (((w.alloc (.cells #[.slice A5 t.co.length c5, .slice A6 t.rw.length c6] 113)).alloc (.cells #[.int .i64 0, .int .i64 0, .int .i64 0, .string ⟨#[]⟩, .slice none 0 0, .slice none 0 0, .slice none 0 0] 28)).drewN m) fun e w' => e = .returned (.int .i64 (-1)) ∧ ∃ n, w' = ((w.alloc (.cells #[.slice A5 t.co.length c5, .slice A6 t.rw.length c6] 113)).alloc (.cells #[.int .i64 0, .int .i64 0, .int .i64 0, .string ⟨#[]⟩, .slice none 0 0, .slice none 0 0, .slice none 0 0] 28)).drewN n := fun m => by
      have h := (implIndex_any A5 c5 t.co ay3 w.heap.size (((w.alloc (.cells #[.slice A5 t.co.length c5, .slice A6 t.rw.length c6] 113)).alloc (.cells #[.int .i64 0, .int .i64 0, .int .i64 0, .string ⟨#[]⟩, .slice none 0 0, .slice none 0 0, .slice none 0 0] 28)).drewN m) (HTR.out.1.strs.keep (below_drewN H0.out.bel m).block) (by omega)).mono (fun e w' h => (⟨h.1, m, h.2⟩ : e = .returned (.int .i64 (Lib.idxOfS t.co ay3)) ∧ ∃ n, w' = ((w.alloc (.cells #[.slice A5 t.co.length c5, .slice A6 t.rw.length c6] 113)).alloc (.cells #[.int .i64 0, .int .i64 0, .int .i64 0, .string ⟨#[]⟩, .slice none 0 0, .slice none 0 0, .slice none 0 0] 28)).drewN n))
      rwa [hidx] at h
    have HID := Lib.hid hidx
    clear hidx
    have hz0 : (0 : Int) < 1 := by omega
    go_enter Tryz.func117, Tryz.ntmps117
    have hb2 := MSt.box (MSt.nth (L1 := [_]) H0.out)
    have fO0 := hb2.cellAt 0 (by decide)
    have fO1 := hb2.cellAt 1 (by decide)
    have fOlt := (hb2.lt _ rfl).2
    simp only [List.getElem?_cons_zero, List.getElem?_cons_succ] at fO0 fO1
    clear hb2
    go_wp2_with fail
    go_quiet (exact hcall _)
    have H1 := Lib.hid (MSt.drewN H0.out nq)
    clear fO0 fO1 fOlt
    clear hcall
    go_wp2_with fail
    refine (implErrorValue_any 7 _).mono ?_
    rintro e w2 ⟨rfl, hb⟩
    have H2 := Lib.hid (H1.out.later hb)
    clear hb
    obtain ⟨fR0, fR1, fR2, fR3, fR4, fR5, fR6, fRlt⟩ := box7 (MSt.box H2.out)
    obtain ⟨zR0, zR1, zR2, zR3, zR4, zR5, zR6⟩ := box7z (MSt.box H2.out)
    go_wp2_with fail
    obtain ⟨W7, hW, hg, y0, y1, y2, y3, y4, y5, y6⟩ := MSt.put H2.out (.int .i64 6) (.int .i64 7) (.int .i64 0) (.string ⟨#[]⟩) (.slice none 0 0) (.slice none 0 0) (.slice none 0 0)
    rw [← hW]
    refine bodyPost_ret (v := .agg #[.int .i64 6, .int .i64 7, .int .i64 0, .string ⟨#[]⟩, .slice none 0 0, .slice none 0 0, .slice none 0 0]) (by simp [results, Tryz.results117, go_sem, y0, y1, y2, y3, y4, y5, y6]) rfl (toA_flat0 rfl hg.bel)
  · by_cases h8 : 8 < t.rw.length
    · rw [colD_long (by rw [HKa.out.2]; exact hidx) h8]
      have hcall : ∀ m, Calls Tryz.prog 73 #[.slice A5 t.co.length c5, .string ay3] (((w.alloc (.cells #[.slice A5 t.co.length c5, .slice A6 t.rw.length c6] 113)).alloc (.cells #[.int .i64 0, .int .i64 0, .int .i64 0, .string ⟨#[]⟩, .slice none 0 0, .slice none 0 0, .slice none 0 0] 28)).drewN m) fun e w' => e = .returned (.int .i64 (k : Int)) ∧ ∃ n, w' = ((w.alloc (.cells #[.slice A5 t.co.length c5, .slice A6 t.rw.length c6] 113)).alloc (.cells #[.int .i64 0, .int .i64 0, .int .i64 0, .string ⟨#[]⟩, .slice none 0 0, .slice none 0 0, .slice none 0 0] 28)).drewN n := fun m => by
        have h := (implIndex_any A5 c5 t.co ay3 w.heap.size (((w.alloc (.cells #[.slice A5 t.co.length c5, .slice A6 t.rw.length c6] 113)).alloc (.cells #[.int .i64 0, .int .i64 0, .int .i64 0, .string ⟨#[]⟩, .slice none 0 0, .slice none 0 0, .slice none 0 0] 28)).drewN m) (HTR.out.1.strs.keep (below_drewN H0.out.bel m).block) (by omega)).mono (fun e w' h => (⟨h.1, m, h.2⟩ : e = .returned (.int .i64 (Lib.idxOfS t.co ay3)) ∧ ∃ n, w' = ((w.alloc (.cells #[.slice A5 t.co.length c5, .slice A6 t.rw.length c6] 113)).alloc (.cells #[.int .i64 0, .int .i64 0, .int .i64 0, .string ⟨#[]⟩, .slice none 0 0, .slice none 0 0, .slice none 0 0] 28)).drewN n))
        rwa [hidx] at h
      have HID := Lib.hid hidx
      clear hidx
      have hz0 : (0 : Int) < 1 := by omega
      go_enter Tryz.func117, Tryz.ntmps117
      have hb2 := MSt.box (MSt.nth (L1 := [_]) H0.out)
      have fO0 := hb2.cellAt 0 (by decide)
      have fO1 := hb2.cellAt 1 (by decide)
      have fOlt := (hb2.lt _ rfl).2
      simp only [List.getElem?_cons_zero, List.getElem?_cons_succ] at fO0 fO1
      clear hb2
      go_wp2_with fail
      go_quiet (exact hcall _)
      have H1 := Lib.hid (MSt.drewN H0.out nq)
      clear fO0 fO1 fOlt
      clear hcall
      have hb2 := MSt.box (MSt.nth (L1 := [_]) H1.out)
      have fO0 := hb2.cellAt 0 (by decide)
      have fO1 := hb2.cellAt 1 (by decide)
      have fOlt := (hb2.lt _ rfl).2
      simp only [List.getElem?_cons_zero, List.getElem?_cons_succ] at fO0 fO1
      clear hb2
      go_wp2_with fail
      refine (implErrorValue_any 6 _).mono ?_
      rintro e w2 ⟨rfl, hb⟩
      have H2 := Lib.hid (H1.out.later hb)
      clear hb
      clear fO0 fO1 fOlt
      obtain ⟨fR0, fR1, fR2, fR3, fR4, fR5, fR6, fRlt⟩ := box7 (MSt.box H2.out)
      obtain ⟨zR0, zR1, zR2, zR3, zR4, zR5, zR6⟩ := box7z (MSt.box H2.out)
      go_wp2_with fail
      obtain ⟨W7, hW, hg, y0, y1, y2, y3, y4, y5, y6⟩ := MSt.put H2.out (.int .i64 6) (.int .i64 6) (.int .i64 0) (.string ⟨#[]⟩) (.slice none 0 0) (.slice none 0 0) (.slice none 0 0)
      rw [← hW]
      refine bodyPost_ret (v := .agg #[.int .i64 6, .int .i64 6, .int .i64 0, .string ⟨#[]⟩, .slice none 0 0, .slice none 0 0, .slice none 0 0]) (by simp [results, Tryz.results117, go_sem, y0, y1, y2, y3, y4, y5, y6]) rfl (toA_flat0 rfl hg.bel)
    rw [colD_yes (by rw [HKa.out.2]; exact hidx) h8]
    have hcall : ∀ m, Calls Tryz.prog 73 #[.slice A5 t.co.length c5, .string ay3] (((w.alloc (.cells #[.slice A5 t.co.length c5, .slice A6 t.rw.length c6] 113)).alloc (.cells #[.int .i64 0, .int .i64 0, .int .i64 0, .string ⟨#[]⟩, .slice none 0 0, .slice none 0 0, .slice none 0 0] 28)).drewN m) fun e w' => e = .returned (.int .i64 (k : Int)) ∧ ∃ n, w' = ((w.alloc (.cells #[.slice A5 t.co.length c5, .slice A6 t.rw.length c6] 113)).alloc (.cells #[.int .i64 0, .int .i64 0, .int .i64 0, .string ⟨#[]⟩, .slice none 0 0, .slice none 0 0, .slice none 0 0] 28)).drewN n := fun m => by
      have h := (implIndex_any A5 c5 t.co ay3 w.heap.size (((w.alloc (.cells #[.slice A5 t.co.length c5, .slice A6 t.rw.length c6] 113)).alloc (.cells #[.int .i64 0, .int .i64 0, .int .i64 0, .string ⟨#[]⟩, .slice none 0 0, .slice none 0 0, .slice none 0 0] 28)).drewN m) (HTR.out.1.strs.keep (below_drewN H0.out.bel m).block) (by omega)).mono (fun e w' h => (⟨h.1, m, h.2⟩ : e = .returned (.int .i64 (Lib.idxOfS t.co ay3)) ∧ ∃ n, w' = ((w.alloc (.cells #[.slice A5 t.co.length c5, .slice A6 t.rw.length c6] 113)).alloc (.cells #[.int .i64 0, .int .i64 0, .int .i64 0, .string ⟨#[]⟩, .slice none 0 0, .slice none 0 0, .slice none 0 0] 28)).drewN n))
      rwa [hidx] at h
    have HID := Lib.hid hidx
    clear hidx
    have hz0 : (0 : Int) < 1 := by omega
    go_enter Tryz.func117, Tryz.ntmps117
    have hb2 := MSt.box (MSt.nth (L1 := [_]) H0.out)
    have fO0 := hb2.cellAt 0 (by decide)
    have fO1 := hb2.cellAt 1 (by decide)
    have fOlt := (hb2.lt _ rfl).2
    simp only [List.getElem?_cons_zero, List.getElem?_cons_succ] at fO0 fO1
    clear hb2
    go_wp2_with fail
    go_quiet (exact hcall _)
    have H1 := Lib.hid (MSt.drewN H0.out nq)
    clear fO0 fO1 fOlt
    clear hcall
    have HS := Lib.hid (MSt.nilRow0 H1.out 28 7)
    have hb2 := MSt.box (MSt.nth (L1 := [_]) H1.out)
    have fO0 := hb2.cellAt 0 (by decide)
    have fO1 := hb2.cellAt 1 (by decide)
    have fOlt := (hb2.lt _ rfl).2
    simp only [List.getElem?_cons_zero, List.getElem?_cons_succ] at fO0 fO1
    clear hb2
    go_wp2_with fail
    clear fO0 fO1 fOlt
    go_loopw [6, 27] (fun v i wr => ∃ j : Nat, j ≤ t.rw.length ∧ i = .int .i64 (j : Int) ∧ Hid (MSt w [rowA 28 7 v j (numV (colN (t.rw.take j) k)), boxA 28 7 (w.heap.size + 1) [.int .i64 0, .int .i64 0, .int .i64 0, .string ⟨#[]⟩, .slice none 0 0, .slice none 0 0, .slice none 0 0], boxA 113 2 w.heap.size [.slice A5 t.co.length c5, .slice A6 t.rw.length c6]] wr)) (fun _ i _ => t.rw.length - (intOf i).toNat)
    case atStart => exact ⟨0, Nat.zero_le _, rfl, HS⟩
    case round =>
      obtain ⟨j, hj, rfl, H1⟩ := hrel
      obtain ⟨A3, q3, rfl⟩ := own_slice H1.out.row
      by_cases hlt : j < t.rw.length
      · obtain ⟨b, o, cs, hA6, hbB, hrd, hlen, hcell⟩ := (HTR.out.2.below H1.out.bel).at (k := 2) (fun x hx' => (rw_val (HV.out.1 t (by simp)) x hx').width) (by omega) j hlt
        subst hA6
        obtain ⟨x, hx⟩ : ∃ x, x = t.rw[j] := ⟨_, rfl⟩
        have hxr := HB.out.2.2 _ (List.getElem_mem hlt)
        rw [← hx] at hrd hxr
        obtain ⟨ns, os, rfl, hns, hos, hnn⟩ := hxr
        obtain ⟨B0, d0, B1, d1, rfl, r0, r1⟩ := Rd.ofRow hrd
        have HX := Lib.hid (And.intro hx (And.intro hns (And.intro hos (And.intro hnn (And.intro r0 r1)))))
        have h00 := hcell 0 (by omega)
        have h01 := hcell 1 (by omega)
        simp only [List.getElem?_cons_zero, List.getElem?_cons_succ, Nat.add_zero, List.length_map] at h00 h01
        have hws := H1.out.size
        have hbl : b < wr.heap.size := by omega
        have hj2 : (j : Int) < (t.rw.length : Int) := by omega
        obtain ⟨b0, o0, rfl, hb0, hc0⟩ := r0.ints k _ (intV_get ns k (by omega))
        obtain ⟨q, hq⟩ : ∃ q, q = ns[k]'(by omega) := ⟨_, rfl⟩
        rw [← hq] at hc0
        have HQ := Lib.hid (show Dt.at (.agg [.lst (ns.map .int), .lst os]) k = q by rw [at_mk (by omega), hq])
        have hk2 : (k : Int) < (ns.length : Int) := by omega
        have hbl0 : b0 < wr.heap.size := by omega
        clear hq
        have HNX := Lib.hid (colN_next hlt (n := q) (k := k) (by rw [← HX.out.1]; exact HQ.out))
        clear hrd hcell hlen r0 r1 hns hos hnn hx
        go_wp2_with fail
        refine (implNumberValue_any q _).mono ?_
        rintro e w2 ⟨rfl, hb⟩
        have H2 := Lib.hid ((H1.out.alloc _).later hb)
        clear hb h00 h01 hc0 hbl hbl0
        have hs2 := H2.out.size
        go_wp2_with (at_builtin; refine appV _ rfl (.tmp 31) (.tmp 38) rfl w.heap.size _ j (numV (colN (t.rw.take j) k)) rfl (H2.out.row.alloc _) (some ⟨w2.heap.size, 0, none⟩) 1 1 (w2.heap.size + 1) (flatV 1 q 0 ⟨#[]⟩) rfl rfl (row_new w2 (flatV 1 q 0 ⟨#[]⟩).toArray 28) (flat_one _ _ _ _) (by omega) (by simp; omega) ?_; intro v3 w3 hown3 hgr3 hn3)
        have h3 := (H2.out.alloc (.cells (flatV 1 q 0 ⟨#[]⟩).toArray 28)).app hgr3 hown3 hn3.2
        rw [HNX.out] at h3
        have H3 := Lib.hid h3
        clear h3 hown3 hgr3 hn3
        exact ⟨⟨j + 1, by omega, by simp, H3⟩, by simp [intOf]; omega⟩
      · obtain rfl : j = t.rw.length := by omega
        have h1 := H1.out
        rw [List.take_length] at h1
        have hv := h1.close0 (xs := (colN t.rw k).map fun n => valD 1 n ⟨#[]⟩ []) (fun w' => ow_numV w' (colN t.rw k)) (by rw [List.length_map, colN_len])
        have H2 := Lib.hid hv
        clear hv h1 H1
        go_wp2_with fail
        refine (implListN_any _ _ (by rw [List.length_map, colN_len]) (isVal_nums (colN t.rw k)) (by rw [wt_nums, colN_len]; omega) A3 q3 _ H2.out.read).mono ?_
        rintro e w3 ⟨csT, fpT, rfl, how, hnf, hb⟩
        obtain ⟨vy0, vy1, vy2, vy3, vy4, vn4, vc4, vy5, vn5, vc5, vy6, vn6, vc6, rfl⟩ := IsVal.form (isVal_valD _ _ _ _ (isVal_nums (colN t.rw k))) how.read
        have H3 := Lib.hid (H2.out.add hb (owA_at how hnf))
        clear how hnf hb
        obtain ⟨fR0, fR1, fR2, fR3, fR4, fR5, fR6, fRlt⟩ := box7 (MSt.box (MSt.nth (L1 := [_, _]) H3.out))
        obtain ⟨zR0, zR1, zR2, zR3, zR4, zR5, zR6⟩ := box7z (MSt.box (MSt.nth (L1 := [_, _]) H3.out))
        go_wp2_with fail
        obtain ⟨W7, hW, hg, y0, y1, y2, y3, y4, y5, y6⟩ := MSt.put (MSt.nth (L1 := [_, _]) H3.out) (.int .i64 vy0) (.int .i64 vy1) (.int .i64 vy2) (.string vy3) (.slice vy4 vn4 vc4) (.slice vy5 vn5 vc5) (.slice vy6 vn6 vc6)
        rw [← hW]
        refine bodyPost_ret (v := .agg #[.int .i64 vy0, .int .i64 vy1, .int .i64 vy2, .string vy3, .slice vy4 vn4 vc4, .slice vy5 vn5 vc5, .slice vy6 vn6 vc6]) (by simp [results, Tryz.results117, go_sem, y0, y1, y2, y3, y4, y5, y6]) rfl ((MSt.nth (L1 := [_]) hg).give)

set_option maxHeartbeats 6400000 in
set_option maxRecDepth 100000 in
theorem implColumnOf_any {a t : Dt} (ha : IsVal a) (ht : IsVal t) (hwt : a.wt + t.wt ≤ 1048576) (csa cst : List Value) (w : World) (ra : Rd w w.heap.size a csa) (rt : Rd w w.heap.size t cst) (d : Dt) (hd : Nary ([2] ++ [5]) [a, t] (colD a t) d) :
    Calls Tryz.prog 39 #[.agg csa.toArray, .agg cst.toArray] w (ToA w d) := by
  have HV := Lib.hid (And.intro (show ∀ y ∈ [a, t], IsVal y by simp; exact ⟨ha, ht⟩) (show ∀ y ∈ [a, t], y.wt ≤ 1048576 by simp; omega))
  have HD := Lib.hid hd
  obtain ⟨ay0, ay1, ay2, ay3, ay4, an4, ac4, ay5, an5, ac5, ay6, an6, ac6, rfl⟩ := ha.form ra
  obtain ⟨ty0, ty1, ty2, ty3, ty4, tn4, tc4, ty5, tn5, tc5, ty6, tn6, tc6, rfl⟩ := ht.form rt
  have HRL : Hid (RdL w w.heap.size [a, t] [.int .i64 ay0, .int .i64 ay1, .int .i64 ay2, .string ay3, .slice ay4 an4 ac4, .slice ay5 an5 ac5, .slice ay6 an6 ac6, .int .i64 ty0, .int .i64 ty1, .int .i64 ty2, .string ty3, .slice ty4 tn4 tc4, .slice ty5 tn5 tc5, .slice ty6 tn6 tc6]) := Lib.hid (rdl_2 ra (rdl_1 rt))
  have HM : Hid (∀ (w1 : World) (A : Option Addr) (c : Nat) (A5 : Option Addr) (n5 c5 : Nat) (A6 : Option Addr) (n6 c6 : Nat), OpOk [a, t] ([2] ++ [5]) → TabR w1 t A5 n5 c5 A6 n6 c6 → Rd w1 w1.heap.size (.lst ([a, t].take 1)) [.slice A 1 c] → Calls Tryz.prog 117 #[.agg #[.slice A5 n5 c5, .slice A6 n6 c6], .slice A 1 c] w1 (ToA w1 (colD a t))) := Lib.hid fun w1 A c A5 n5 c5 A6 n6 c6 ok tr ro => columnOf_any HV.out.1 HV.out.2 ok w1 A c A5 n5 c5 A6 n6 c6 tr ro
  have h0 := (((MSt.start w).new 28 7 #[.int .i64 ay0, .int .i64 ay1, .int .i64 ay2, .string ay3, .slice ay4 an4 ac4, .slice ay5 an5 ac5, .slice ay6 an6 ac6] rfl).new 28 7 #[.int .i64 ty0, .int .i64 ty1, .int .i64 ty2, .string ty3, .slice ty4 tn4 tc4, .slice ty5 tn5 tc5, .slice ty6 tn6 tc6] rfl).new 28 7 #[.int .i64 0, .int .i64 0, .int .i64 0, .string ⟨#[]⟩, .slice none 0 0, .slice none 0 0, .slice none 0 0] rfl
  simp only [World.size_alloc] at h0
  have H0 := Lib.hid h0
  clear h0 hd hwt ha ra ht rt
  go_enter Tryz.func39, Tryz.ntmps39
  obtain ⟨fA0, fA1, fA2, fA3, fA4, fA5, fA6, fAlt⟩ := box7 (MSt.box (MSt.nth (L1 := [_, _]) H0.out))
  obtain ⟨fT0, fT1, fT2, fT3, fT4, fT5, fT6, fTlt⟩ := box7 (MSt.box (MSt.nth (L1 := [_]) H0.out))
  go_wp2_with fail
  go_region_law (first
    | (
      go_simp
      go_at_call 62
      refine (tabOp_column _).mono ?_
      rintro e w2 ⟨gk, rfl, hrk, hb⟩
      first | (have HL := Lib.hid (H0.out.drew.later hb)) | (have hx0 := (H0.out.drew.row_lit 28 7 2 #[.int .i64 ay0, .int .i64 ay1, .int .i64 ay2, .string ay3, .slice ay4 an4 ac4, .slice ay5 an5 ac5, .slice ay6 an6 ac6, .int .i64 ty0, .int .i64 ty1, .int .i64 ty2, .string ty3, .slice ty4 tn4 tc4, .slice ty5 tn5 tc5, .slice ty6 tn6 tc6] (by unfold maxLen; omega) rfl).later hb; simp only [World.size_drew, World.size_alloc] at hx0; have HX := Lib.hid hx0; clear hx0) | fail
      have hws2 := hb.size
      first | simp at hws2 | skip
      clear hb
      have HK := Lib.hid hrk
      clear hrk
      first | have hbm := MSt.hasB HL.out (a := boxA 28 7 (w.heap.size) [.int .i64 ay0, .int .i64 ay1, .int .i64 ay2, .string ay3, .slice ay4 an4 ac4, .slice ay5 an5 ac5, .slice ay6 an6 ac6]) (by simp) | have hbm := MSt.hasB HX.out (a := boxA 28 7 (w.heap.size) [.int .i64 ay0, .int .i64 ay1, .int .i64 ay2, .string ay3, .slice ay4 an4 ac4, .slice ay5 an5 ac5, .slice ay6 an6 ac6]) (by simp) | fail
      obtain ⟨fA0, fA1, fA2, fA3, fA4, fA5, fA6, fAlt⟩ := box7 hbm
      clear hbm
      first | have hbm := MSt.hasB HL.out (a := boxA 28 7 (w.heap.size + 1) [.int .i64 ty0, .int .i64 ty1, .int .i64 ty2, .string ty3, .slice ty4 tn4 tc4, .slice ty5 tn5 tc5, .slice ty6 tn6 tc6]) (by simp) | have hbm := MSt.hasB HX.out (a := boxA 28 7 (w.heap.size + 1) [.int .i64 ty0, .int .i64 ty1, .int .i64 ty2, .string ty3, .slice ty4 tn4 tc4, .slice ty5 tn5 tc5, .slice ty6 tn6 tc6]) (by simp) | fail
      obtain ⟨fT0, fT1, fT2, fT3, fT4, fT5, fT6, fTlt⟩ := box7 hbm
      clear hbm)
    | (
      go_simp
      go_at_call 63
      first | (have HY := HX) | (have HY := Lib.hid (HL.out.row_lit 28 7 2 #[.int .i64 ay0, .int .i64 ay1, .int .i64 ay2, .string ay3, .slice ay4 an4 ac4, .slice ay5 an5 ac5, .slice ay6 an6 ac6, .int .i64 ty0, .int .i64 ty1, .int .i64 ty2, .string ty3, .slice ty4 tn4 tc4, .slice ty5 tn5 tc5, .slice ty6 tn6 tc6] (by unfold maxLen; omega) rfl)) | fail
      have hrd := lst_read HY.out (xs := [a, t]) rfl HRL.out
      have hrk : RowOf _ _ _ _ := HK.out
      refine (on_any [2] _ _ 117 (enters_of Tryz.func117 (by kernel_rfl) rfl) [a, t] 1 rfl t rfl HV.out.1 HV.out.2 rfl _ _ _ hrd (by first | exact hrk | exact (hrk.keep fun k hk => ((Below.refl _ _).alloc (Nat.le_refl _) _).block k hk).more (by simp)) (colD a t) d HD.out (fun _ => isVal_colD a t) (fun w1 A5 n5 c5 A6 n6 c6 ok tr ro => HM.out w1 _ _ A5 n5 c5 A6 n6 c6 ok tr ro)).mono ?_
      rintro e w3 ⟨csT, fpT, rfl, how, hnf, hb⟩
      obtain ⟨vy0, vy1, vy2, vy3, vy4, vn4, vc4, vy5, vn5, vc5, vy6, vn6, vc6, rfl⟩ := IsVal.form (HD.out.val (fun _ => isVal_colD a t)) how.read
      have HZ := Lib.hid (HY.out.add hb (owA_at how hnf))
      clear how hnf hb hrd hrk
      have hbm := MSt.hasB HZ.out (a := boxA 28 7 (w.heap.size + 1 + 1) [.int .i64 0, .int .i64 0, .int .i64 0, .string ⟨#[]⟩, .slice none 0 0, .slice none 0 0, .slice none 0 0]) (by simp)
      obtain ⟨fR0, fR1, fR2, fR3, fR4, fR5, fR6, fRlt⟩ := box7 hbm
      obtain ⟨zR0, zR1, zR2, zR3, zR4, zR5, zR6⟩ := box7z hbm
      clear hbm)
    | fail)
  all_goals
    go_wp2_with fail
    obtain ⟨W7, hW, hg, y0, y1, y2, y3, y4, y5, y6⟩ := MSt.put (MSt.nth (L1 := [_, _]) HZ.out) (.int .i64 vy0) (.int .i64 vy1) (.int .i64 vy2) (.string vy3) (.slice vy4 vn4 vc4) (.slice vy5 vn5 vc5) (.slice vy6 vn6 vc6)
    rw [← hW]
    refine bodyPost_ret (v := .agg #[.int .i64 vy0, .int .i64 vy1, .int .i64 vy2, .string vy3, .slice vy4 vn4 vc4, .slice vy5 vn5 vc5, .slice vy6 vn6 vc6]) (by simp [results, Tryz.results39, go_sem, y0, y1, y2, y3, y4, y5, y6]) rfl (MSt.give (MSt.nth (L1 := [_]) hg))

end Go.Proofs.YtdnneilbgekccaaGreatDoor

/-
  ColumnOf, the model's. (Written by gentab.py.)
-/

namespace Go.Proofs.YtdnneilbgekccaaGreatDoor
open Go.RowKit Go.Maps
set_option linter.unusedVariables false
set_option linter.unusedSimpArgs false

set_option maxHeartbeats 6400000 in
set_option maxRecDepth 100000 in
theorem specColumnOf_any {a t : Dt} (ha : IsVal a) (ht : IsVal t) (hwt : a.wt + t.wt ≤ 1048576) (csa cst : List Value) (w : World) (ra : Rd w w.heap.size a csa) (rt : Rd w w.heap.size t cst) (d : Dt) (hd : Nary ([2] ++ [5]) [a, t] (colD a t) d) :
    Calls Tryz.prog 38 #[.agg csa.toArray, .agg cst.toArray] w (ToA w d) := by
  have HV := Lib.hid (And.intro (show ∀ y ∈ [a, t], IsVal y by simp; exact ⟨ha, ht⟩) (show ∀ y ∈ [a, t], y.wt ≤ 1048576 by simp; omega))
  have HD := Lib.hid hd
  obtain ⟨ay0, ay1, ay2, ay3, ay4, an4, ac4, ay5, an5, ac5, ay6, an6, ac6, rfl⟩ := ha.form ra
  obtain ⟨ty0, ty1, ty2, ty3, ty4, tn4, tc4, ty5, tn5, tc5, ty6, tn6, tc6, rfl⟩ := ht.form rt
  have HRL : Hid (RdL w w.heap.size [a, t] [.int .i64 ay0, .int .i64 ay1, .int .i64 ay2, .string ay3, .slice ay4 an4 ac4, .slice ay5 an5 ac5, .slice ay6 an6 ac6, .int .i64 ty0, .int .i64 ty1, .int .i64 ty2, .string ty3, .slice ty4 tn4 tc4, .slice ty5 tn5 tc5, .slice ty6 tn6 tc6]) := Lib.hid (rdl_2 ra (rdl_1 rt))
  have htr := TabR.of ht rt (Nat.le_refl _)
  obtain ⟨hn6, hq6, hx6⟩ := htr.2.lst_len
  subst hn6
  obtain ⟨hn5, hq5, -⟩ := htr.1.lst_len
  rw [List.length_map] at hn5
  subst hn5
  unfold maxLen at hx6
  have HT := Lib.hid htr
  have hka := kd_cell ha ra
  have HKa := Lib.hid (And.intro hka (tx_cell ha ra))
  clear hka
  have HRa := Lib.hid ra
  have HRt := Lib.hid rt
  have h0 := (((MSt.start w).new 28 7 #[.int .i64 ay0, .int .i64 ay1, .int .i64 ay2, .string ay3, .slice ay4 an4 ac4, .slice ay5 an5 ac5, .slice ay6 an6 ac6] rfl).new 28 7 #[.int .i64 ty0, .int .i64 ty1, .int .i64 ty2, .string ty3, .slice ty4 tn4 tc4, .slice ty5 t.co.length tc5, .slice ty6 t.rw.length tc6] rfl).new 28 7 #[.int .i64 0, .int .i64 0, .int .i64 0, .string ⟨#[]⟩, .slice none 0 0, .slice none 0 0, .slice none 0 0] rfl
  simp only [World.size_alloc] at h0
  have H0 := Lib.hid h0
  clear h0 hd hwt htr ha ra ht rt
  go_enter Tryz.func38, Tryz.ntmps38
  obtain ⟨fA0, fA1, fA2, fA3, fA4, fA5, fA6, fAlt⟩ := box7 (MSt.box (MSt.nth (L1 := [_, _]) H0.out))
  obtain ⟨fT0, fT1, fT2, fT3, fT4, fT5, fT6, fTlt⟩ := box7 (MSt.box (MSt.nth (L1 := [_]) H0.out))
  go_wp2_with fail
  clear fA0 fA1 fA2 fA3 fA4 fA5 fA6 fAlt fT0 fT1 fT2 fT3 fT4 fT5 fT6 fTlt
  have h1 := ((H0.out.row_lit 28 7 2 #[.int .i64 ay0, .int .i64 ay1, .int .i64 ay2, .string ay3, .slice ay4 an4 ac4, .slice ay5 an5 ac5, .slice ay6 an6 ac6, .int .i64 ty0, .int .i64 ty1, .int .i64 ty2, .string ty3, .slice ty4 tn4 tc4, .slice ty5 t.co.length tc5, .slice ty6 t.rw.length tc6] (by unfold maxLen; omega) rfl).row_lit 3 1 2 #[.int .i64 2, .int .i64 5] (by unfold maxLen; omega) rfl)
  simp only [World.size_alloc] at h1
  have HL1 := Lib.hid h1
  clear h1
  have hrd := lst_read (MSt.nth (L1 := [_]) HL1.out) (xs := [a, t]) rfl HRL.out
  have hrk := own_row (MSt.row HL1.out) (fun b hb => ((MSt.row HL1.out).lt b hb).2)
  refine (specCheck_any [a, t] HV.out.1 HV.out.2 [2, 5] rfl _ _ _ _ _ hrd hrk).mono ?_
  rintro e w1 ⟨⟨hok, rfl⟩ | ⟨ec, he, rfl⟩, hb⟩
  rotate_left
  all_goals clear hrd hrk
  · obtain rfl := HD.out.one (.err ec he)
    clear he
    have H1 := Lib.hid (((MSt.drop (MSt.drop HL1.out)).later hb).new 28 7 #[.int .i64 6, .int .i64 ec, .int .i64 0, .string ⟨#[]⟩, .slice none 0 0, .slice none 0 0, .slice none 0 0] rfl)
    have hz := hb.size
    first | simp at hz | skip
    clear hb
    obtain ⟨fR0, fR1, fR2, fR3, fR4, fR5, fR6, fRlt⟩ := box7 (MSt.box (MSt.nth (L1 := [_]) H1.out))
    obtain ⟨zR0, zR1, zR2, zR3, zR4, zR5, zR6⟩ := box7z (MSt.box (MSt.nth (L1 := [_]) H1.out))
    go_wp2_with fail
    obtain ⟨W7, hW, hg, y0, y1, y2, y3, y4, y5, y6⟩ := MSt.put (MSt.nth (L1 := [_]) H1.out) (.int .i64 6) (.int .i64 ec) (.int .i64 0) (.string ⟨#[]⟩) (.slice none 0 0) (.slice none 0 0) (.slice none 0 0)
    rw [← hW]
    refine bodyPost_ret (v := .agg #[.int .i64 6, .int .i64 ec, .int .i64 0, .string ⟨#[]⟩, .slice none 0 0, .slice none 0 0, .slice none 0 0]) (by simp [results, Tryz.results38, go_sem, y0, y1, y2, y3, y4, y5, y6]) rfl (toA_flat0 rfl hg.bel)
  have HDD := Lib.hid (HD.out.one (.ok hok))
  have HOK := Lib.hid hok
  clear hok
  have H1 := Lib.hid (((MSt.drop (MSt.drop HL1.out)).later hb).new 28 7 #[.int .i64 0, .int .i64 0, .int .i64 0, .string ⟨#[]⟩, .slice none 0 0, .slice none 0 0, .slice none 0 0] rfl)
  have hz := hb.size
  first | simp at hz | skip
  clear hb
  clear HL1
  have hkk := HOK.out.2
  simp only [List.map_cons, List.map_nil, List.cons_append, List.nil_append, List.cons.injEq, and_true] at hkk
  have htb := tbl_of (HV.out.1 t (by simp)) (HOK.out.1 t (by simp)) hkk.2
  have HB := Lib.hid htb
  have hr12 := htb.2.1
  have hc4 := htb.1.1.2
  clear hkk htb
  obtain ⟨fA0, fA1, fA2, fA3, fA4, fA5, fA6, fAlt⟩ := box7 (MSt.box (MSt.nth (L1 := [_, _, _]) H1.out))
  obtain ⟨fT0, fT1, fT2, fT3, fT4, fT5, fT6, fTlt⟩ := box7 (MSt.box (MSt.nth (L1 := [_, _]) H1.out))
  go_wp2_with fail
  rcases idx_lt (cc := t.co) (s := ay3) with hidx | ⟨k, hkc, hidx⟩
  · refine (specColIdx_any (HV.out.1 t (by simp)) (HV.out.2 t (by simp)) [.int .i64 ty0, .int .i64 ty1, .int .i64 ty2, .string ty3, .slice ty4 tn4 tc4, .slice ty5 t.co.length tc5, .slice ty6 t.rw.length tc6] ay3 _ ((HRt.out.below H1.out.bel).more H1.out.size) (-1) hidx.symm).mono ?_
    rintro e w2 ⟨rfl, hb⟩
    have H2 := Lib.hid (H1.out.later hb)
    clear hb
    clear fA0 fA1 fA2 fA3 fA4 fA5 fA6 fAlt fT0 fT1 fT2 fT3 fT4 fT5 fT6 fTlt
    obtain rfl : d = errD 7 := HDD.out.trans (colD_no (by rw [HKa.out.2]; exact hidx))
    clear hidx
    obtain ⟨fA0, fA1, fA2, fA3, fA4, fA5, fA6, fAlt⟩ := box7 (MSt.box (MSt.nth (L1 := [_, _, _]) H2.out))
    obtain ⟨fT0, fT1, fT2, fT3, fT4, fT5, fT6, fTlt⟩ := box7 (MSt.box (MSt.nth (L1 := [_, _]) H2.out))
    go_wp2_with fail
    refine (specErrorValue_any 7 _).mono ?_
    rintro e w3 ⟨rfl, hb⟩
    have H3 := Lib.hid (H2.out.later hb)
    clear hb
    clear fA0 fA1 fA2 fA3 fA4 fA5 fA6 fAlt fT0 fT1 fT2 fT3 fT4 fT5 fT6 fTlt
    obtain ⟨fR0, fR1, fR2, fR3, fR4, fR5, fR6, fRlt⟩ := box7 (MSt.box (MSt.nth (L1 := [_]) H3.out))
    obtain ⟨zR0, zR1, zR2, zR3, zR4, zR5, zR6⟩ := box7z (MSt.box (MSt.nth (L1 := [_]) H3.out))
    go_wp2_with fail
    obtain ⟨W7, hW, hg, y0, y1, y2, y3, y4, y5, y6⟩ := MSt.put (MSt.nth (L1 := [_]) H3.out) (.int .i64 6) (.int .i64 7) (.int .i64 0) (.string ⟨#[]⟩) (.slice none 0 0) (.slice none 0 0) (.slice none 0 0)
    rw [← hW]
    refine bodyPost_ret (v := .agg #[.int .i64 6, .int .i64 7, .int .i64 0, .string ⟨#[]⟩, .slice none 0 0, .slice none 0 0, .slice none 0 0]) (by simp [results, Tryz.results38, go_sem, y0, y1, y2, y3, y4, y5, y6]) rfl (toA_flat0 rfl hg.bel)
  · refine (specColIdx_any (HV.out.1 t (by simp)) (HV.out.2 t (by simp)) [.int .i64 ty0, .int .i64 ty1, .int .i64 ty2, .string ty3, .slice ty4 tn4 tc4, .slice ty5 t.co.length tc5, .slice ty6 t.rw.length tc6] ay3 _ ((HRt.out.below H1.out.bel).more H1.out.size) (k : Int) hidx.symm).mono ?_
    rintro e w2 ⟨rfl, hb⟩
    have H2 := Lib.hid (H1.out.later hb)
    clear hb
    clear fA0 fA1 fA2 fA3 fA4 fA5 fA6 fAlt fT0 fT1 fT2 fT3 fT4 fT5 fT6 fTlt
    have HID := Lib.hid hidx
    clear hidx
    by_cases h8 : 8 < t.rw.length
    · obtain rfl : d = errD 6 := HDD.out.trans (colD_long (by rw [HKa.out.2]; exact HID.out) h8)
      obtain ⟨fA0, fA1, fA2, fA3, fA4, fA5, fA6, fAlt⟩ := box7 (MSt.box (MSt.nth (L1 := [_, _, _]) H2.out))
      obtain ⟨fT0, fT1, fT2, fT3, fT4, fT5, fT6, fTlt⟩ := box7 (MSt.box (MSt.nth (L1 := [_, _]) H2.out))
      go_wp2_with fail
      refine (specErrorValue_any 6 _).mono ?_
      rintro e w3 ⟨rfl, hb⟩
      have H3 := Lib.hid (H2.out.later hb)
      clear hb
      clear fA0 fA1 fA2 fA3 fA4 fA5 fA6 fAlt fT0 fT1 fT2 fT3 fT4 fT5 fT6 fTlt
      obtain ⟨fR0, fR1, fR2, fR3, fR4, fR5, fR6, fRlt⟩ := box7 (MSt.box (MSt.nth (L1 := [_]) H3.out))
      obtain ⟨zR0, zR1, zR2, zR3, zR4, zR5, zR6⟩ := box7z (MSt.box (MSt.nth (L1 := [_]) H3.out))
      go_wp2_with fail
      obtain ⟨W7, hW, hg, y0, y1, y2, y3, y4, y5, y6⟩ := MSt.put (MSt.nth (L1 := [_]) H3.out) (.int .i64 6) (.int .i64 6) (.int .i64 0) (.string ⟨#[]⟩) (.slice none 0 0) (.slice none 0 0) (.slice none 0 0)
      rw [← hW]
      refine bodyPost_ret (v := .agg #[.int .i64 6, .int .i64 6, .int .i64 0, .string ⟨#[]⟩, .slice none 0 0, .slice none 0 0, .slice none 0 0]) (by simp [results, Tryz.results38, go_sem, y0, y1, y2, y3, y4, y5, y6]) rfl (toA_flat0 rfl hg.bel)
    · obtain rfl : d = valD 3 0 ⟨#[]⟩ ((colN t.rw k).map fun n => valD 1 n ⟨#[]⟩ []) := HDD.out.trans (colD_yes (by rw [HKa.out.2]; exact HID.out) h8)
      obtain ⟨fA0, fA1, fA2, fA3, fA4, fA5, fA6, fAlt⟩ := box7 (MSt.box (MSt.nth (L1 := [_, _, _]) H2.out))
      obtain ⟨fT0, fT1, fT2, fT3, fT4, fT5, fT6, fTlt⟩ := box7 (MSt.box (MSt.nth (L1 := [_, _]) H2.out))
      go_wp2_with fail
      clear fA0 fA1 fA2 fA3 fA4 fA5 fA6 fAlt fT0 fT1 fT2 fT3 fT4 fT5 fT6 fTlt
      have h2 := (H2.out.new 28 7 #[.int .i64 3, .int .i64 0, .int .i64 0, .string ⟨#[]⟩, .slice none 0 0, .slice none 0 0, .slice none 0 0] rfl).nilRow0 28 7
      obtain ⟨wS, rfl⟩ : ∃ wo : World, wo = w2 := ⟨_, rfl⟩
      have HS : Hid (MSt w [boxA 28 7 wS.heap.size [.int .i64 3, .int .i64 0, .int .i64 0, .string ⟨#[]⟩, (.slice none 0 0), .slice none 0 0, .slice none 0 0], rowA 28 7 (.slice none 0 0) 0 (numV (colN (t.rw.take 0) k)), boxA 28 7 (w.heap.size + 1 + 1) [.int .i64 0, .int .i64 0, .int .i64 0, .string ⟨#[]⟩, .slice none 0 0, .slice none 0 0, .slice none 0 0], boxA 28 7 (w.heap.size + 1) [.int .i64 ty0, .int .i64 ty1, .int .i64 ty2, .string ty3, .slice ty4 tn4 tc4, .slice ty5 t.co.length tc5, .slice ty6 t.rw.length tc6], boxA 28 7 (w.heap.size) [.int .i64 ay0, .int .i64 ay1, .int .i64 ay2, .string ay3, .slice ay4 an4 ac4, .slice ay5 an5 ac5, .slice ay6 an6 ac6]] _) := Lib.hid (MSt.subB h2.swap (.cons_cons _ (.cons_cons _ (.cons _ (List.Sublist.refl _)))))
      clear h2
      go_loopw [9] (fun i wr => ∃ (j : Nat) (v : Value), j ≤ t.rw.length ∧ i = .int .i64 (j : Int) ∧ Hid (MSt w [boxA 28 7 wS.heap.size [.int .i64 3, .int .i64 0, .int .i64 0, .string ⟨#[]⟩, v, .slice none 0 0, .slice none 0 0], rowA 28 7 v j (numV (colN (t.rw.take j) k)), boxA 28 7 (w.heap.size + 1 + 1) [.int .i64 0, .int .i64 0, .int .i64 0, .string ⟨#[]⟩, .slice none 0 0, .slice none 0 0, .slice none 0 0], boxA 28 7 (w.heap.size + 1) [.int .i64 ty0, .int .i64 ty1, .int .i64 ty2, .string ty3, .slice ty4 tn4 tc4, .slice ty5 t.co.length tc5, .slice ty6 t.rw.length tc6], boxA 28 7 (w.heap.size) [.int .i64 ay0, .int .i64 ay1, .int .i64 ay2, .string ay3, .slice ay4 an4 ac4, .slice ay5 an5 ac5, .slice ay6 an6 ac6]] wr)) (fun i _ => t.rw.length - (intOf i).toNat)
      case atStart => exact ⟨0, _, Nat.zero_le _, rfl, HS⟩
      case round =>
        obtain ⟨j, v, hj, rfl, H1⟩ := hrel
        obtain ⟨A3, q3, rfl⟩ := own_slice (MSt.row (MSt.nth (L1 := [_]) H1.out))
        by_cases hlt : j < t.rw.length
        · obtain ⟨b, o, cs, hA6, hbB, hrd, hlen, hcell⟩ := (HT.out.2.below H1.out.bel).at (k := 2) (fun x hx' => (rw_val (HV.out.1 t (by simp)) x hx').width) (by omega) j hlt
          subst hA6
          obtain ⟨x, hx⟩ : ∃ x, x = t.rw[j] := ⟨_, rfl⟩
          have hxr := HB.out.2.2 _ (List.getElem_mem hlt)
          rw [← hx] at hrd hxr
          obtain ⟨ns, os, rfl, hns, hos, hnn⟩ := hxr
          obtain ⟨B0, d0, B1, d1, rfl, r0, r1⟩ := Rd.ofRow hrd
          have HX := Lib.hid (And.intro hx (And.intro hns (And.intro hos (And.intro hnn (And.intro r0 r1)))))
          have h00 := hcell 0 (by omega)
          have h01 := hcell 1 (by omega)
          simp only [List.getElem?_cons_zero, List.getElem?_cons_succ, Nat.add_zero, List.length_map] at h00 h01
          have hws := H1.out.size
          have hbl : b < wr.heap.size := by omega
          have hj2 : (j : Int) < (t.rw.length : Int) := by omega
          obtain ⟨b0, o0, rfl, hb0, hc0⟩ := r0.ints k _ (intV_get ns k (by omega))
          obtain ⟨q, hq⟩ : ∃ q, q = ns[k]'(by omega) := ⟨_, rfl⟩
          rw [← hq] at hc0
          have HQ := Lib.hid (show Dt.at (.agg [.lst (ns.map .int), .lst os]) k = q by rw [at_mk (by omega), hq])
          have hk2 : (k : Int) < (ns.length : Int) := by omega
          have hbl0 : b0 < wr.heap.size := by omega
          clear hq
          have HNX := Lib.hid (colN_next hlt (n := q) (k := k) (by rw [← HX.out.1]; exact HQ.out))
          clear hrd hcell hlen r0 r1 hns hos hnn hx
          obtain ⟨fX0, fX1, fX2, fX3, fX4, fX5, fX6, fXlt⟩ := box7 (MSt.box H1.out)
          obtain ⟨fT0, fT1, fT2, fT3, fT4, fT5, fT6, fTlt⟩ := box7 (MSt.box (MSt.nth (L1 := [_, _, _]) H1.out))
          go_wp2_with fail
          go_region_law (first
            | (
              go_simp
              go_at_call 56
              refine (specNumberValue_any q _).mono ?_
              rintro e1 w2 ⟨rfl, hb⟩
              have H2 := Lib.hid (H1.out.drew.later hb)
              have hs2 := H2.out.size
              clear hb
              obtain ⟨fX0, fX1, fX2, fX3, fX4, fX5, fX6, fXlt⟩ := box7 (MSt.box H2.out))
            | (
              refine stepV _ (by rfl) (.tmp 41) (.tmp 52) (by rfl) w.heap.size (.slice A3 j q3) j (numV (colN (t.rw.take j) k)) (by rfl) (by exact (MSt.row (MSt.nth (L1 := [_]) (H2.out.alloc _)))) (some ⟨w2.heap.size, 0, none⟩) 1 1 (w2.heap.size + 1) (flatV 1 q 0 ⟨#[]⟩) (by rfl) rfl (row_new w2 (flatV 1 q 0 ⟨#[]⟩).toArray 28) (flat_one _ _ _ _) (by omega) (by simp; omega) ?_
              intro v3 w3 hown3 hgr3 hn3
              obtain ⟨A9, q9, rfl⟩ := own_slice hown3
              have h3 := MSt.swap (MSt.app (MSt.nth (L1 := [_]) (H2.out.alloc (.cells (flatV 1 q 0 ⟨#[]⟩).toArray 28))) hgr3 hown3 hn3.2)
              rw [HNX.out] at h3
              have H3 := Lib.hid h3
              clear h3 hown3 hgr3 hn3
              obtain ⟨fX0, fX1, fX2, fX3, fX4, fX5, fX6, fXlt⟩ := box7 (MSt.box H3.out)
              obtain ⟨zX0, zX1, zX2, zX3, zX4, zX5, zX6⟩ := box7z (MSt.box H3.out))
            | fail)
          all_goals
            go_wp2_with fail
            have h4 := H3.out.set1 4 (.slice A9 (j + 1) q9)
            have H4 := Lib.hid h4
            clear h4
            exact ⟨⟨j + 1, _, by omega, by simp, H4⟩, by simp [intOf]; omega⟩
        · obtain rfl : j = t.rw.length := by omega
          obtain ⟨fX0, fX1, fX2, fX3, fX4, fX5, fX6, fXlt⟩ := box7 (MSt.box H1.out)
          obtain ⟨fT0, fT1, fT2, fT3, fT4, fT5, fT6, fTlt⟩ := box7 (MSt.box (MSt.nth (L1 := [_, _, _]) H1.out))
          obtain ⟨fR0, fR1, fR2, fR3, fR4, fR5, fR6, fRlt⟩ := box7 (MSt.box (MSt.nth (L1 := [_, _]) H1.out))
          obtain ⟨zR0, zR1, zR2, zR3, zR4, zR5, zR6⟩ := box7z (MSt.box (MSt.nth (L1 := [_, _]) H1.out))
          go_wp2_with fail
          obtain ⟨W7, hW, hg, y0, y1, y2, y3, y4, y5, y6⟩ := MSt.put (MSt.nth (L1 := [_, _]) H1.out) (.int .i64 3) (.int .i64 0) (.int .i64 0) (.string ⟨#[]⟩) (.slice A3 t.rw.length q3) (.slice none 0 0) (.slice none 0 0)
          rw [← hW]
          rw [List.take_length] at hg
          refine bodyPost_ret (v := .agg #[.int .i64 3, .int .i64 0, .int .i64 0, .string ⟨#[]⟩, .slice A3 t.rw.length q3, .slice none 0 0, .slice none 0 0]) (by simp [results, Tryz.results38, go_sem, y0, y1, y2, y3, y4, y5, y6]) rfl (((MSt.nth (L1 := [_, _]) hg).close0 (xs := (colN t.rw k).map fun n => valD 1 n ⟨#[]⟩ []) (fun w' => ow_numV w' (colN t.rw k)) (by rw [List.length_map, colN_len])).list.give)

end Go.Proofs.YtdnneilbgekccaaGreatDoor
