/-
  Texts that the proof rests on, put together: TblH, TblI.
-/
import Derived.Test.YtooghbejbjfakaaGreatDoorMgO31
import Derived.Test.YtooghbejbjfakaaGreatDoorMgO25
import Derived.Test.YtooghbejbjfakaaGreatDoorMgO30
import Derived.Test.YtooghbejbjfakaaGreatDoorMgO29
import Derived.Maps.Views
import Derived.Deep.RegionLaw
import Derived.Deep.RegionHeld3
import Derived.Outline
import Derived.Test.YtooghbejbjfakaaGreatDoorMgO17
/-
  TableOf: names split. (Written by gentab.py.)
-/

namespace Go.Proofs.YtooghbejbjfakaaGreatDoor
open Go.RowKit Go.Maps
set_option linter.unusedVariables false
set_option linter.unusedSimpArgs false

theorem own_mono7 {w : World} {base base' : Nat} {e : TypeId} {k : Nat} {v : Value} {n : Nat} {xs : List Value} (h : w.ownsRow base e k v n xs) (hb : base' ≤ base) : w.ownsRow base' e k v n xs :=
  ⟨h.1, h.2.imp id fun ⟨g, cap, cur, h1, h2, h3⟩ => ⟨g, cap, cur, h1, Nat.le_trans hb h2, h3⟩⟩

theorem el_rd {w : World} {B : Nat} {x : Dt} (hx : IsVal x) {y0 y1 y2 : Int} {y3 : ByteArray} {y4 : Option Addr} {n4 c4 : Nat} {v5 v6 : Value} (h : Rd w B x [.int .i64 y0, .int .i64 y1, .int .i64 y2, .string y3, .slice y4 n4 c4, v5, v6]) : Rd w B (.lst x.el) [.slice y4 n4 c4] := by
  cases hx
  obtain ⟨A4, q4, A5, q5, A6, q6, e, r4, -, -⟩ := Rd.ofValue h
  simp only [List.cons.injEq, Value.slice.injEq, and_true, true_and] at e
  obtain ⟨-, -, -, -, ⟨rfl, rfl, rfl⟩, -⟩ := e
  exact r4
set_option maxHeartbeats 1600000 in
set_option maxRecDepth 100000 in
theorem splitNames_any (y0 y1 y2 : Int) (t : ByteArray) (v4 v5 v6 : Value) (hs : t.size ≤ 1048576) (cc : List ByteArray) (hcc : pcsB 32 t.data.toList = cc) (w : World) (hM : MaxL w) :
    Calls Tryz.prog 44 #[.agg #[.int .i64 y0, .int .i64 y1, .int .i64 y2, .string t, v4, v5, v6]] w fun e w' => ∃ g, e = .returned (.slice (some ⟨g, 0, none⟩) cc.length cc.length) ∧ w'.ownsRow w.heap.size 9 1 (.slice (some ⟨g, 0, none⟩) cc.length cc.length) cc.length (strV cc) ∧ Below w.heap.size w w' := by
  subst hcc
  have h0 := (MSt.start w).new 33 7 #[.int .i64 y0, .int .i64 y1, .int .i64 y2, .string t, v4, v5, v6] rfl
  have H0 := Lib.hid h0
  have HC := Lib.hid (implSplit_any t.data.toList 32 _ hs (hM.below h0.bel))
  clear h0 hM
  go_enter Tryz.func44, Tryz.ntmps44
  go_wp2_with fail
  refine HC.out.mono ?_
  rintro e w1 ⟨g, rfl, hown, hb⟩
  have HB := Lib.hid (And.intro hown (H0.out.bel.trans (hb.mono H0.out.size)))
  have hsz := H0.out.size
  have HO := Lib.hid (show w1.ownsRow w.heap.size 9 1 (.slice (some ⟨g, 0, none⟩) (pcsB 32 t.data.toList).length (pcsB 32 t.data.toList).length) (pcsB 32 t.data.toList).length (strV (pcsB 32 t.data.toList)) from own_mono7 hown hsz)
  clear hown hb HC
  go_wp2_with fail
  go_ret
  exact ⟨_, rfl, HO.out, HB.out.2⟩

end Go.Proofs.YtooghbejbjfakaaGreatDoor

/-
  TableOf, the program's. (Written by gentab.py.)
-/

namespace Go.Proofs.YtooghbejbjfakaaGreatDoor
open Go.RowKit Go.Maps
set_option linter.unusedVariables false
set_option linter.unusedSimpArgs false

set_option maxHeartbeats 6400000 in
set_option maxRecDepth 100000 in
theorem implTableOf_any {a b : Dt} (ha : IsVal a) (hb : IsVal b) (hwt : a.wt + b.wt ≤ 1048576) (csa csb : List Value) (w : World) (ra : Rd w w.heap.size a csa) (rb : Rd w w.heap.size b csb) (f : Dt) (hf : TableR a b f) (d : Dt) (hd : Nary [2, 3] [a, b] f d) (hM : MaxL w) :
    Calls Tryz.prog 13 #[.agg csa.toArray, .agg csb.toArray] w (ToA w d) := by
  have HV := Lib.hid (And.intro (show ∀ y ∈ [a, b], IsVal y by simp; exact ⟨ha, hb⟩) (show ∀ y ∈ [a, b], y.wt ≤ 1048576 by simp; omega))
  have HD := Lib.hid hd
  have HF := Lib.hid hf
  have HMX := Lib.hid hM
  clear hM
  obtain ⟨ay0, ay1, ay2, ay3, ay4, an4, ac4, ay5, an5, ac5, ay6, an6, ac6, rfl⟩ := ha.form ra
  obtain ⟨by0, by1, by2, by3, by4, bn4, bc4, by5, bn5, bc5, by6, bn6, bc6, rfl⟩ := hb.form rb
  have hel := el_rd hb rb
  obtain ⟨hn4, hq4, hx4⟩ := hel.lst_len
  subst hn4
  unfold maxLen at hx4
  have HEL := Lib.hid hel
  have hev := el_val hb
  have hew := el_wt hb
  have HEV := Lib.hid (And.intro hev (show Dt.wt (.lst b.el) ≤ 1048576 by omega))
  have HKa := Lib.hid (And.intro (kd_cell ha ra) (tx_cell ha ra))
  have HRa := Lib.hid ra
  have HKb := Lib.hid (And.intro (kd_cell hb rb) (tx_cell hb rb))
  have HRb := Lib.hid rb
  have HRL : Hid (RdL w w.heap.size [a, b] [.int .i64 ay0, .int .i64 ay1, .int .i64 ay2, .string ay3, .slice ay4 an4 ac4, .slice ay5 an5 ac5, .slice ay6 an6 ac6, .int .i64 by0, .int .i64 by1, .int .i64 by2, .string by3, .slice by4 b.el.length bc4, .slice by5 bn5 bc5, .slice by6 bn6 bc6]) := Lib.hid (rdl_2 ra (rdl_1 rb))
  have h0 := (((MSt.start w).new 33 7 #[.int .i64 ay0, .int .i64 ay1, .int .i64 ay2, .string ay3, .slice ay4 an4 ac4, .slice ay5 an5 ac5, .slice ay6 an6 ac6] rfl).new 33 7 #[.int .i64 by0, .int .i64 by1, .int .i64 by2, .string by3, .slice by4 b.el.length bc4, .slice by5 bn5 bc5, .slice by6 bn6 bc6] rfl).new 33 7 #[.int .i64 0, .int .i64 0, .int .i64 0, .string ⟨#[]⟩, .slice none 0 0, .slice none 0 0, .slice none 0 0] rfl
  simp only [World.size_alloc] at h0
  have H0 := Lib.hid h0
  clear h0 hd hf hwt hel hev hew ha hb ra rb
  go_enter Tryz.func13, Tryz.ntmps13
  obtain ⟨fA0, fA1, fA2, fA3, fA4, fA5, fA6, fAlt⟩ := box7 (MSt.box (MSt.nth (L1 := [_, _]) H0.out))
  obtain ⟨fB0, fB1, fB2, fB3, fB4, fB5, fB6, fBlt⟩ := box7 (MSt.box (MSt.nth (L1 := [_]) H0.out))
  go_wp2_with fail
  clear fA0 fA1 fA2 fA3 fA4 fA5 fA6 fAlt fB0 fB1 fB2 fB3 fB4 fB5 fB6 fBlt
  have h1 := H0.out.row_lit 33 7 2 #[.int .i64 ay0, .int .i64 ay1, .int .i64 ay2, .string ay3, .slice ay4 an4 ac4, .slice ay5 an5 ac5, .slice ay6 an6 ac6, .int .i64 by0, .int .i64 by1, .int .i64 by2, .string by3, .slice by4 b.el.length bc4, .slice by5 bn5 bc5, .slice by6 bn6 bc6] (by unfold maxLen; omega) rfl
  simp only [World.size_alloc] at h1
  have HL1 := Lib.hid h1
  clear h1
  have hrd := lst_read HL1.out (xs := [a, b]) rfl HRL.out
  refine (implFirst_any [a, b] HV.out.1 HV.out.2 _ _ _ hrd).mono ?_
  rintro e w1 ⟨⟨hfine, rfl⟩ | ⟨j, hj, ec, hfj, he, rfl⟩, hb⟩
  rotate_left
  all_goals clear hrd
  · obtain rfl := HD.out.one (.err ec (.inl ⟨j, hj, hfj, he⟩))
    clear he hfj
    have H1 := Lib.hid (((MSt.drop HL1.out).later hb).new 33 7 #[.int .i64 6, .int .i64 ec, .int .i64 0, .string ⟨#[]⟩, .slice none 0 0, .slice none 0 0, .slice none 0 0] rfl)
    have hz := hb.size
    first | simp at hz | skip
    clear hb
    obtain ⟨fR0, fR1, fR2, fR3, fR4, fR5, fR6, fRlt⟩ := box7 (MSt.box (MSt.nth (L1 := [_]) H1.out))
    obtain ⟨zR0, zR1, zR2, zR3, zR4, zR5, zR6⟩ := box7z (MSt.box (MSt.nth (L1 := [_]) H1.out))
    go_wp2_with fail
    obtain ⟨W7, hW, hg, y0, y1, y2, y3, y4, y5, y6⟩ := MSt.put (MSt.nth (L1 := [_]) H1.out) (.int .i64 6) (.int .i64 ec) (.int .i64 0) (.string ⟨#[]⟩) (.slice none 0 0) (.slice none 0 0) (.slice none 0 0)
    rw [← hW]
    refine bodyPost_ret (v := .agg #[.int .i64 6, .int .i64 ec, .int .i64 0, .string ⟨#[]⟩, .slice none 0 0, .slice none 0 0, .slice none 0 0]) (by simp [results, Tryz.results13, go_sem, y0, y1, y2, y3, y4, y5, y6]) rfl (toA_flat0 rfl hg.bel)
  have HH := Lib.hid (MSt.later (MSt.drop HL1.out) hb)
  have H1 := Lib.hid (((MSt.drop HL1.out).later hb).new 33 7 #[.int .i64 0, .int .i64 0, .int .i64 0, .string ⟨#[]⟩, .slice none 0 0, .slice none 0 0, .slice none 0 0] rfl)
  have hz := hb.size
  first | simp at hz | skip
  clear hb HL1 HH
  have HFI := Lib.hid hfine
  clear hfine
  by_cases hk2 : ay0 = 2
  rotate_left
  · have hn2 : (ay0 != 2) = true := by simpa using hk2
    obtain ⟨fA0, fA1, fA2, fA3, fA4, fA5, fA6, fAlt⟩ := box7 (MSt.box (MSt.nth (L1 := [_, _, _]) H1.out))
    obtain ⟨fB0, fB1, fB2, fB3, fB4, fB5, fB6, fBlt⟩ := box7 (MSt.box (MSt.nth (L1 := [_, _]) H1.out))
    go_wp2_with fail
    refine (implErrorValue_any 4 _).mono ?_
    rintro e w2 ⟨rfl, hb⟩
    have H2 := Lib.hid (H1.out.later hb)
    clear hb
    clear fA0 fA1 fA2 fA3 fA4 fA5 fA6 fAlt fB0 fB1 fB2 fB3 fB4 fB5 fB6 fBlt
    obtain ⟨fR0, fR1, fR2, fR3, fR4, fR5, fR6, fRlt⟩ := box7 (MSt.box (MSt.nth (L1 := [_]) H2.out))
    obtain ⟨zR0, zR1, zR2, zR3, zR4, zR5, zR6⟩ := box7z (MSt.box (MSt.nth (L1 := [_]) H2.out))
    go_wp2_with fail
    obtain ⟨W7, hW, hg, y0, y1, y2, y3, y4, y5, y6⟩ := MSt.put (MSt.nth (L1 := [_]) H2.out) (.int .i64 6) (.int .i64 4) (.int .i64 0) (.string ⟨#[]⟩) (.slice none 0 0) (.slice none 0 0) (.slice none 0 0)
    rw [← hW]
    obtain rfl := HD.out.one (.err 4 (.inr ⟨HFI.out, (fun hh => hk2 (by rw [← HKa.out.1.1]; simp at hh; exact hh.1)), rfl⟩))
    refine bodyPost_ret (v := .agg #[.int .i64 6, .int .i64 4, .int .i64 0, .string ⟨#[]⟩, .slice none 0 0, .slice none 0 0, .slice none 0 0]) (by simp [results, Tryz.results13, go_sem, y0, y1, y2, y3, y4, y5, y6]) rfl (toA_flat0 rfl hg.bel)
  subst hk2
  by_cases hk3 : by0 = 3
  rotate_left
  · have hn3 : (by0 != 3) = true := by simpa using hk3
    obtain ⟨fA0, fA1, fA2, fA3, fA4, fA5, fA6, fAlt⟩ := box7 (MSt.box (MSt.nth (L1 := [_, _, _]) H1.out))
    obtain ⟨fB0, fB1, fB2, fB3, fB4, fB5, fB6, fBlt⟩ := box7 (MSt.box (MSt.nth (L1 := [_, _]) H1.out))
    go_wp2_with fail
    refine (implErrorValue_any 4 _).mono ?_
    rintro e w2 ⟨rfl, hb⟩
    have H2 := Lib.hid (H1.out.later hb)
    clear hb
    clear fA0 fA1 fA2 fA3 fA4 fA5 fA6 fAlt fB0 fB1 fB2 fB3 fB4 fB5 fB6 fBlt
    obtain ⟨fR0, fR1, fR2, fR3, fR4, fR5, fR6, fRlt⟩ := box7 (MSt.box (MSt.nth (L1 := [_]) H2.out))
    obtain ⟨zR0, zR1, zR2, zR3, zR4, zR5, zR6⟩ := box7z (MSt.box (MSt.nth (L1 := [_]) H2.out))
    go_wp2_with fail
    obtain ⟨W7, hW, hg, y0, y1, y2, y3, y4, y5, y6⟩ := MSt.put (MSt.nth (L1 := [_]) H2.out) (.int .i64 6) (.int .i64 4) (.int .i64 0) (.string ⟨#[]⟩) (.slice none 0 0) (.slice none 0 0) (.slice none 0 0)
    rw [← hW]
    obtain rfl := HD.out.one (.err 4 (.inr ⟨HFI.out, (fun hh => hk3 (by rw [← HKb.out.1.1]; simp at hh; exact hh.2)), rfl⟩))
    refine bodyPost_ret (v := .agg #[.int .i64 6, .int .i64 4, .int .i64 0, .string ⟨#[]⟩, .slice none 0 0, .slice none 0 0, .slice none 0 0]) (by simp [results, Tryz.results13, go_sem, y0, y1, y2, y3, y4, y5, y6]) rfl (toA_flat0 rfl hg.bel)
  subst hk3
  have hok : OpOk [a, b] [2, 3] := ⟨HFI.out, by simp [HKa.out.1.1, HKb.out.1.1]⟩
  have HDD := Lib.hid (HD.out.one (.ok hok))
  have hkk := hok.2
  simp only [List.map_cons, List.map_nil, List.cons.injEq, and_true] at hkk
  have hts := txt_size (HV.out.1 a (by simp)) (hok.1 a (by simp)) hkk.1
  rw [HKa.out.2] at hts
  have hb8 := (lst_fine (HV.out.1 b (by simp)) (hok.1 b (by simp)) hkk.2).1
  obtain ⟨cc, hcc⟩ : ∃ cc, pcsB 32 ay3.data.toList = cc := ⟨_, rfl⟩
  have hcn : cc.length ≤ 21 := by rw [← hcc]; have h1 := pcsB_len 32 ay3.data.toList; have h2 : ay3.data.toList.length ≤ 20 := hts; omega
  have HCS : Hid (∀ s ∈ cc, s.size ≤ 1048576) := Lib.hid (by rw [← hcc]; intro s hs; have h1 := pcsB_size 32 _ s hs; have h2 : ay3.data.toList.length ≤ 20 := hts; omega)
  have HCC := Lib.hid (And.intro hcc (show colsOf a = cc by rw [colsOf_eq HKa.out.2, hcc]))
  clear hkk hok hcc
  have hts2 : ay3.size ≤ 1048576 := by omega
  obtain ⟨fA0, fA1, fA2, fA3, fA4, fA5, fA6, fAlt⟩ := box7 (MSt.box (MSt.nth (L1 := [_, _, _]) H1.out))
  obtain ⟨fB0, fB1, fB2, fB3, fB4, fB5, fB6, fBlt⟩ := box7 (MSt.box (MSt.nth (L1 := [_, _]) H1.out))
  go_wp2_with fail
  clear fA0 fA1 fA2 fA3 fA4 fA5 fA6 fAlt fB0 fB1 fB2 fB3 fB4 fB5 fB6 fBlt
  refine (splitNames_any _ _ _ ay3 _ _ _ hts2 cc HCC.out.1 _ (HMX.out.below H1.out.bel)).mono ?_
  rintro e w2 ⟨gC, rfl, hown, hb⟩
  have H2 := Lib.hid (H1.out.add hb (rowA_at hown))
  clear hown hb
  go_wp2_with fail
  refine (areCols_any (some ⟨gC, 0, none⟩) cc.length cc _ _ (own_row (MSt.row H2.out) (fun b hb => ((MSt.row H2.out).lt b hb).2)) (Nat.le_refl _) (Nat.le_refl _) (by omega) HCS.out).mono ?_
  rintro e w3 ⟨bc, rfl, hbc, hb⟩
  have H3 := Lib.hid (H2.out.later hb)
  clear hb
  have HBC := Lib.hid hbc
  clear hbc
  cases bc
  · obtain rfl : d = errD 7 := HDD.out.trans (HF.out.one (.col (fun hh => absurd (HBC.out.2 (by rw [← HCC.out.2]; exact hh)) (by simp))))
    go_wp2_with fail
    refine (implErrorValue_any 7 _).mono ?_
    rintro e w4 ⟨rfl, hb⟩
    have H4 := Lib.hid (H3.out.later hb)
    clear hb
    obtain ⟨fR0, fR1, fR2, fR3, fR4, fR5, fR6, fRlt⟩ := box7 (MSt.box (MSt.nth (L1 := [_, _]) H4.out))
    obtain ⟨zR0, zR1, zR2, zR3, zR4, zR5, zR6⟩ := box7z (MSt.box (MSt.nth (L1 := [_, _]) H4.out))
    go_wp2_with fail
    obtain ⟨W7, hW, hg, y0, y1, y2, y3, y4, y5, y6⟩ := MSt.put (MSt.nth (L1 := [_, _]) H4.out) (.int .i64 6) (.int .i64 7) (.int .i64 0) (.string ⟨#[]⟩) (.slice none 0 0) (.slice none 0 0) (.slice none 0 0)
    rw [← hW]
    refine bodyPost_ret (v := .agg #[.int .i64 6, .int .i64 7, .int .i64 0, .string ⟨#[]⟩, .slice none 0 0, .slice none 0 0, .slice none 0 0]) (by simp [results, Tryz.results13, go_sem, y0, y1, y2, y3, y4, y5, y6]) rfl (toA_flat0 rfl hg.bel)
  · have HCK : Hid (ColsOk (colsOf a)) := Lib.hid (by rw [HCC.out.2]; exact HBC.out.1 (by trivial))
    obtain ⟨fB0, fB1, fB2, fB3, fB4, fB5, fB6, fBlt⟩ := box7 (MSt.box (MSt.nth (L1 := [_, _, _]) H3.out))
    go_wp2_with fail
    clear fB0 fB1 fB2 fB3 fB4 fB5 fB6 fBlt
    obtain ⟨wS, rfl⟩ : ∃ wo : World, wo = w3 := ⟨_, rfl⟩
    have HS := Lib.hid (MSt.subB H3.out (.cons_cons _ (.cons _ (List.Sublist.refl _))))
    go_loopw [37] (fun i wr => ∃ j : Nat, j ≤ b.el.length ∧ i = .int .i64 (j : Int) ∧ Hid (MSt w [rowA 9 1 (.slice (some ⟨gC, 0, none⟩) cc.length cc.length) cc.length (strV cc), boxA 33 7 (w.heap.size + 1 + 1) [.int .i64 0, .int .i64 0, .int .i64 0, .string ⟨#[]⟩, .slice none 0 0, .slice none 0 0, .slice none 0 0], boxA 33 7 (w.heap.size + 1) [.int .i64 3, .int .i64 by1, .int .i64 by2, .string by3, .slice by4 b.el.length bc4, .slice by5 bn5 bc5, .slice by6 bn6 bc6], boxA 33 7 (w.heap.size) [.int .i64 2, .int .i64 ay1, .int .i64 ay2, .string ay3, .slice ay4 an4 ac4, .slice ay5 an5 ac5, .slice ay6 an6 ac6]] wr) ∧ Hid (∀ x ∈ b.el.take j, RowLike cc.length x)) (fun i _ => b.el.length - (intOf i).toNat)
    case atStart => exact ⟨0, Nat.zero_le _, rfl, HS, Lib.hid (by simp)⟩
    case round =>
      obtain ⟨j, hj, rfl, H1, HE⟩ := hrel
      have hws := H1.out.size
      by_cases hlt : j < b.el.length
      · have hj2 : (j : Int) < (b.el.length : Int) := by omega
        obtain ⟨bb, o, cs, rfl, hbB, hrd, hlen, hcell⟩ := (HEL.out.below H1.out.bel).at (k := 7) (fun x hx' => (HEV.out.1 x hx').width) (by omega) j hlt
        have hxv := HEV.out.1 _ (List.getElem_mem hlt)
        obtain ⟨x, hx⟩ : ∃ x, x = b.el[j] := ⟨_, rfl⟩
        rw [← hx] at hrd hxv
        obtain ⟨uy0, uy1, uy2, uy3, uy4, un4, uc4, uy5, un5, uc5, uy6, un6, uc6, rfl⟩ := IsVal.form hxv hrd
        have hkd := (kd_cell hxv hrd).1
        have HX := Lib.hid (And.intro hx hkd)
        have h00 := hcell 0 (by omega)
        have h01 := hcell 1 (by omega)
        have h02 := hcell 2 (by omega)
        have h03 := hcell 3 (by omega)
        have h04 := hcell 4 (by omega)
        have h05 := hcell 5 (by omega)
        have h06 := hcell 6 (by omega)
        simp only [List.getElem?_cons_zero, List.getElem?_cons_succ, Nat.add_zero] at h00 h01 h02 h03 h04 h05 h06
        have HXV := Lib.hid (And.intro hxv hrd)
        clear hrd hcell hlen hxv hx hkd
        have hbw : bb < wr.heap.size := by omega
        go_wp2_with fail
        refine (isRowOf_any cc.length (by omega) HXV.out.1 _ _ ((HXV.out.2.below ((Below.refl _ _).alloc hws _)).more (by simp; omega))).mono ?_
        rintro e w2 ⟨br, rfl, hbr, hb⟩
        have H2 := Lib.hid ((H1.out.alloc _).later hb)
        have HBR := Lib.hid hbr
        clear hb hbr h00 h01 h02 h03 h04 h05 h06 hbw
        cases br
        · obtain rfl : d = errD 4 := HDD.out.trans (HF.out.one (.typ HCK.out (fun hh => absurd (HBR.out.2 (by rw [HX.out.1, ← HCC.out.2]; exact hh _ (List.getElem_mem hlt))) (by simp))))
          go_wp2_with fail
          refine (implErrorValue_any 4 _).mono ?_
          rintro e w3 ⟨rfl, hb⟩
          have H3 := Lib.hid (H2.out.later hb)
          clear hb
          obtain ⟨fR0, fR1, fR2, fR3, fR4, fR5, fR6, fRlt⟩ := box7 (MSt.box (MSt.nth (L1 := [_]) H3.out))
          obtain ⟨zR0, zR1, zR2, zR3, zR4, zR5, zR6⟩ := box7z (MSt.box (MSt.nth (L1 := [_]) H3.out))
          go_wp2_with fail
          obtain ⟨W7, hW, hg, y0, y1, y2, y3, y4, y5, y6⟩ := MSt.put (MSt.nth (L1 := [_]) H3.out) (.int .i64 6) (.int .i64 4) (.int .i64 0) (.string ⟨#[]⟩) (.slice none 0 0) (.slice none 0 0) (.slice none 0 0)
          rw [← hW]
          refine bodyPost_ret (v := .agg #[.int .i64 6, .int .i64 4, .int .i64 0, .string ⟨#[]⟩, .slice none 0 0, .slice none 0 0, .slice none 0 0]) (by simp [results, Tryz.results13, go_sem, y0, y1, y2, y3, y4, y5, y6]) rfl (toA_flat0 rfl hg.bel)
        · go_wp2_with fail
          exact ⟨⟨j + 1, by omega, by simp, H2, Lib.hid (mem_take_next hlt HE.out (by rw [← HX.out.1]; exact HBR.out.1 (by trivial)))⟩, by simp [intOf]; omega⟩
      · obtain rfl : j = b.el.length := by omega
        have he := HE.out
        rw [List.take_length] at he
        obtain rfl : d = tblD cc (b.el.map toRow) := by rw [← HCC.out.2]; exact HDD.out.trans (HF.out.one (.ok HCK.out (by rw [HCC.out.2]; exact he)))
        clear he
        obtain ⟨fB0, fB1, fB2, fB3, fB4, fB5, fB6, fBlt⟩ := box7 (MSt.box (MSt.nth (L1 := [_, _]) H1.out))
        go_wp2_with fail
        clear fB0 fB1 fB2 fB3 fB4 fB5 fB6 fBlt
        refine (rowsOfLists_any7 by4 bc4 b.el HEV.out.1 HEV.out.2 _ ((HEL.out.below H1.out.bel).more H1.out.size)).mono ?_
        rintro e w2 ⟨v8, f8, rfl, hM⟩
        obtain ⟨A8, c8, e8, -⟩ := hM.objs.out.1.read.lst_form
        injection e8 with e8 _
        subst e8
        rw [List.length_map] at hM ⊢
        have H2 := Lib.hid (H1.out.trans hM)
        clear hM
        go_wp2_with fail
        refine (value5_any 0 0 ⟨#[]⟩ none (some ⟨gC, 0, none⟩) A8 0 0 cc.length cc.length b.el.length c8 _).mono ?_
        rintro e w3 ⟨rfl, hb⟩
        have H3 := Lib.hid (MSt.tbl (((MSt.nth (L1 := [_]) (H2.out.later hb)).close0 (xs := cc.map .str) (fun w' => OwL.strs w' cc) (by simp))))
        clear hb
        obtain ⟨fR0, fR1, fR2, fR3, fR4, fR5, fR6, fRlt⟩ := box7 (MSt.box (MSt.nth (L1 := [_]) H3.out))
        obtain ⟨zR0, zR1, zR2, zR3, zR4, zR5, zR6⟩ := box7z (MSt.box (MSt.nth (L1 := [_]) H3.out))
        go_wp2_with fail
        obtain ⟨W7, hW, hg, y0, y1, y2, y3, y4, y5, y6⟩ := MSt.put (MSt.nth (L1 := [_]) H3.out) (.int .i64 5) (.int .i64 0) (.int .i64 0) (.string ⟨#[]⟩) (.slice none 0 0) (.slice (some ⟨gC, 0, none⟩) cc.length cc.length) (.slice A8 b.el.length c8)
        rw [← hW]
        refine bodyPost_ret (v := .agg #[.int .i64 5, .int .i64 0, .int .i64 0, .string ⟨#[]⟩, .slice none 0 0, .slice (some ⟨gC, 0, none⟩) cc.length cc.length, .slice A8 b.el.length c8]) (by simp [results, Tryz.results13, go_sem, y0, y1, y2, y3, y4, y5, y6]) rfl ((MSt.nth (L1 := [_]) hg).give)

end Go.Proofs.YtooghbejbjfakaaGreatDoor
