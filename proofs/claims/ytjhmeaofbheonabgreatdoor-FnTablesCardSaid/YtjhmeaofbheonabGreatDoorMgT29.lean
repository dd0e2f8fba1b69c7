/-
  Texts that the proof rests on, put together: Pub7, TabCol, OwPart, TabWh, WRows, WhI.
-/
import Derived.Test.YtjhmeaofbheonabGreatDoorMgT13
import Derived.Test.YtjhmeaofbheonabGreatDoorMgT27
import Derived.Maps.Views
import Derived.Deep.RegionLaw
import Derived.Deep.RegionHeld3
import Derived.Outline
import Derived.Test.YtjhmeaofbheonabGreatDoorMgT14
import Derived.Test.YtjhmeaofbheonabGreatDoorMgT8
import Derived.Test.YtjhmeaofbheonabGreatDoorMgT23
import Derived.Test.YtjhmeaofbheonabGreatDoorMgT10
/-
  The table of operations, operation by operation; operands as a list. (Written by gentab.py.)
-/

namespace Go.Proofs.YtjhmeaofbheonabGreatDoor
open Go.RowKit Go.Maps
set_option linter.unusedVariables false
set_option linter.unusedSimpArgs false

theorem rdl_1 {w : World} {B : Nat} {a : Dt} {ca : List Value} (ha : Rd w B a ca) : RdL w B [a] ca := by simp only [RdL]; exact ⟨ca, [], by simp, ha, rfl⟩
theorem rdl_2 {w : World} {B : Nat} {a : Dt} {l : List Dt} {ca cl : List Value} (ha : Rd w B a ca) (hl : RdL w B l cl) : RdL w B (a :: l) (ca ++ cl) := by simp only [RdL]; exact ⟨ca, cl, rfl, ha, hl⟩
theorem lst_read {w w1 : World} {L : List Asn} {xs : List Dt} {g n : Nat} {cells : List Value} (h : MSt w (rowA 28 7 (.slice (some ⟨g, 0, none⟩) n n) n cells :: L) w1) (hn : n = xs.length) (hl : RdL w w.heap.size xs cells) : Rd w1 w1.heap.size (.lst xs) [.slice (some ⟨g, 0, none⟩) n n] :=
  rd_own1 h.row hn ((hl.below h.bel).more h.size)
theorem tabOp_where (w : World) : Calls Tryz.prog 19 #[.string ⟨#[119, 104, 101, 114, 101]⟩] w fun e w' => ∃ g, e = .returned (.agg #[.slice (some ⟨g, 0, none⟩) 2 2, .func (.func 43) #[] #[]]) ∧ RowOf w' w'.heap.size (some ⟨g, 0, none⟩) (intV [2, 1]) ∧ Below w.heap.size w w' := by
  refine (tabOp_any ⟨#[119, 104, 101, 114, 101]⟩ (by decide) (by simp [opNames]) w).mono ?_
  rintro e w' ⟨g1, g2, g3, g4, g5, g6, v, rfl, hv, hM⟩
  have hv : (tabD g1 g2 g3 g4 g5 g6).atKey (.string [119, 104, 101, 114, 101]) (.held zOp) = .held v := hv
  rw [tabD, atKey_put_other (by simp), atKey_put_other (by simp), atKey_put_other (by simp), atKey_put_same (((isMap_nil.put _ _).put _ _).put _ _) (by simp [WideAt.IsKeyLit])] at hv
  injection hv with hv
  subst hv
  exact ⟨_, rfl, (own_row (MSt.row (MSt.nth (L1 := [_, _, _]) hM)) fun b hb => ((MSt.row (MSt.nth (L1 := [_, _, _]) hM)).lt b hb).2), hM.bel⟩
theorem tx_cell {w : World} {B : Nat} {d : Dt} {y0 y1 y2 : Int} {y3 : ByteArray} {cs : List Value} (hd : IsVal d) (h : Rd w B d (.int .i64 y0 :: .int .i64 y1 :: .int .i64 y2 :: .string y3 :: cs)) : d.tx = y3 := by
  cases hd
  obtain ⟨A4, c4, A5, c5, A6, c6, hc, _⟩ := Rd.ofValue h
  simp only [List.cons.injEq, Value.int.injEq, Value.string.injEq] at hc
  exact hc.2.2.2.1.symm

end Go.Proofs.YtjhmeaofbheonabGreatDoor

/-
  Columns. (Written by gentab.py.)
-/

namespace Go.Proofs.YtjhmeaofbheonabGreatDoor
open Go.RowKit Go.Maps
set_option linter.unusedVariables false
set_option linter.unusedSimpArgs false

theorem tbl_of {t : Dt} (ht : IsVal t) (h : Fine t) (hk : t.kd = 5) : TblOk t.co t.rw := by
  obtain ⟨k, n, s, x, l, c, r, hl, hr⟩ := ht
  rw [co_mk, rw_mk]
  exact (tab_fine h hk).1
theorem at_mk {ns : List Int} {os : List Dt} {k : Nat} (h : k < ns.length) : Dt.at (.agg [.lst (ns.map .int), .lst os]) k = ns[k] := by
  unfold Dt.at
  rw [ce_mk, List.getElem?_eq_getElem h]
  rfl
theorem pos_of {cc : List ByteArray} {s : ByteArray} {k : Nat} (h : Lib.idxOfS cc s = ((k : Nat) : Int)) : pos cc s = k := by
  unfold pos
  rw [h]
  rfl
theorem idx_lt {cc : List ByteArray} {s : ByteArray} : Lib.idxOfS cc s = -1 ∨ ∃ k, k < cc.length ∧ Lib.idxOfS cc s = ((k : Nat) : Int) := by
  rcases idx_or cc s with ⟨h, _⟩ | ⟨k, h1, h2, _⟩
  · exact .inl h
  · exact .inr ⟨k, h1, h2⟩
end Go.Proofs.YtjhmeaofbheonabGreatDoor

/-
  A table that is owned, taken apart and put together. (Written by gentab.py.)
-/

namespace Go.Proofs.YtjhmeaofbheonabGreatDoor
open Go.RowKit Go.Maps
set_option linter.unusedVariables false
set_option linter.unusedSimpArgs false

theorem Objs.part {B : Nat} {w : World} {a b c : Asn} {L : List Asn} (h : Objs B w (c :: L)) (h1 : a.holds w) (h2 : b.holds w) (l1 : a.Loc) (l2 : b.Loc) (fa : ∀ k, a.foot k → c.foot k) (fb : ∀ k, b.foot k → c.foot k) (ap : ∀ k, a.foot k → ¬ b.foot k) : Objs B w (a :: b :: L) := by
  have hc := List.pairwise_cons.1 h.2
  have hcc := h.1 c (by simp)
  refine ⟨fun x hx => ?_, List.pairwise_cons.2 ⟨fun x hx => ?_, List.pairwise_cons.2 ⟨fun x hx k hk => hc.1 x hx k (fb k hk), hc.2⟩⟩⟩
  · rcases List.mem_cons.1 hx with rfl | hx
    · exact ⟨h1, l1, fun k hk => hcc.2.2 k (fa k hk)⟩
    · rcases List.mem_cons.1 hx with rfl | hx
      · exact ⟨h2, l2, fun k hk => hcc.2.2 k (fb k hk)⟩
      · exact h.1 x (List.mem_cons_of_mem _ hx)
  · rcases List.mem_cons.1 hx with rfl | hx
    · exact ap
    · exact fun k hk => hc.1 x hx k (fa k hk)
theorem owl_cons {w : World} {x : Dt} {xs : List Dt} {cs : List Value} {fp : List Nat} : OwL w (x :: xs) cs fp ↔ ∃ c1 c2 f1 f2, cs = c1 ++ c2 ∧ fp = f1 ++ f2 ∧ Ow w x c1 f1 ∧ OwL w xs c2 f2 := by rw [OwL]
theorem ow_lst1 {w : World} {xs : List Dt} {cs : List Value} {fp : List Nat} (h : Ow w (.lst xs) cs fp) : ∃ A c, cs = [.slice A xs.length c] := by
  simp only [Ow] at h
  obtain ⟨A, c, e, k, cells, fp', rfl, -⟩ := h
  exact ⟨A, c, rfl⟩
theorem own_cellAt {w : World} {base : Nat} {e : TypeId} {k g n c : Nat} {xs : List Value} (h : w.ownsRow base e k (.slice (some ⟨g, 0, none⟩) n c) n xs) {p : Nat} {u : Value} (hu : xs[p]? = some u) : w.cell? ⟨g, p, none⟩ = some u ∧ w.frozen? ⟨g, p, none⟩ = false ∧ g < w.heap.size := by
  have h1 := h.cells (g := g) rfl p u hu
  rw [show (⟨g, 0, none⟩ : Addr).add p = ⟨g, 0 + p, none⟩ by unfold Addr.add; split <;> simp_all, Nat.zero_add] at h1
  exact ⟨h1, h.frozenAt p, (h.lt g rfl).2⟩
theorem mid_get {cl cr : List Value} {a b : Value} {j : Nat} (h : cl.length = j * 2) : (cl ++ ([a, b] ++ cr))[j * 2 + 1]? = some b := by
  rw [List.getElem?_append_right (by omega), h, show j * 2 + 1 - j * 2 = 1 by omega]
  rfl
end Go.Proofs.YtjhmeaofbheonabGreatDoor

/-
  Rows chosen. (Written by gentab.py.)
-/

namespace Go.Proofs.YtjhmeaofbheonabGreatDoor
open Go.RowKit Go.Maps
set_option linter.unusedVariables false
set_option linter.unusedSimpArgs false

def eqAt (k : Nat) (n : Int) (r : Dt) : Bool := r.at k == n
theorem whereD_no {a n t : Dt} (h : Lib.idxOfS t.co a.tx = -1) : whereD a n t = errD 7 := by
  unfold whereD
  rw [if_pos (by omega)]
theorem whereD_yes {a n t : Dt} {k : Nat} (h : Lib.idxOfS t.co a.tx = ((k : Nat) : Int)) : whereD a n t = tblD t.co (t.rw.filter (eqAt k n.nm)) := by
  unfold whereD
  rw [if_neg (by omega), pos_of h]
  rfl
theorem filter_next {p : Dt → Bool} {rs : List Dt} {j : Nat} (hj : j < rs.length) : (rs.take (j + 1)).filter p = (rs.take j).filter p ++ (if p rs[j] = true then [rs[j]] else []) := by
  rw [List.take_succ_eq_append_getElem hj, List.filter_append]
  congr 1
  by_cases h : p rs[j] = true
  · rw [if_pos h, List.filter_cons_of_pos h, List.filter_nil]
  · rw [if_neg h, List.filter_cons_of_neg h, List.filter_nil]
theorem rd_ownk {w1 : World} {base n c k : Nat} {e : TypeId} {A : Option Addr} {cells : List Value} {l : List Dt} (hown : w1.ownsRow base e k (.slice A n c) n cells) (hn : n = l.length) (hrd : RdL w1 w1.heap.size l cells) : Rd w1 w1.heap.size (.lst l) [.slice A n c] := by
  subst hn
  simp only [Rd]
  exact ⟨A, c, cells, rfl, (own_cap hown).1, (own_cap hown).2, own_row hown (fun b hb => (hown.lt b hb).2), hrd⟩
theorem cloneRowsN_any (rs : List Dt) (n : Nat) (hn : n = rs.length) (hr : ∀ x ∈ rs, IsRow x) (hwt : Dt.wt (.lst rs) ≤ 1048576) (A : Option Addr) (c : Nat) (w : World) (h : Rd w w.heap.size (.lst rs) [.slice A n c]) :
    Calls Tryz.prog 101 #[.slice A n c] w fun e w' => ∃ A' c' fp, e = .returned (.slice A' n c') ∧ Ow w' (.lst rs) [.slice A' n c'] fp ∧ New w.heap.size fp ∧ Below w.heap.size w w' := by
  subst hn
  exact cloneRows_any rs hr hwt A c w h
theorem cloneS_any (A : Option Addr) (c : Nat) (ss : List ByteArray) (n : Nat) (hn : n = ss.length) (B : Nat) (w : World) (h : RowOf w B A (strV ss)) (hs : ss.length ≤ 1048576) :
    Calls Tryz.prog 100 #[.slice A n c] w fun e w' => ∃ A' c', e = .returned (.slice A' n c') ∧ w'.ownsRow w.heap.size 9 1 (.slice A' n c') n (strV ss) ∧ Below w.heap.size w w' := by
  subst hn
  refine (clone_any A c ss B w h hs).mono ?_
  rintro e w' ⟨v, rfl, hown, -, hb⟩
  rw [← strV_nb] at hown
  obtain ⟨A', c', rfl⟩ := own_slice hown
  exact ⟨A', c', rfl, hown, hb⟩
theorem wt_rows {t : Dt} (ht : IsVal t) (hw : t.wt ≤ 1048576) (p : Dt → Bool) : Dt.wt (.lst (t.rw.filter p)) ≤ 1048576 := by
  have h1 := wt_parts ht
  have h2 := wts_filter p t.rw
  simp only [Dt.wt]
  omega
theorem MSt.tbl {w wx : World} {L : List Asn} {cc : List ByteArray} {rs : List Dt} {v5 v6 : Value} {f5 f6 : List Nat} (h : MSt w (owA (.lst (cc.map .str)) [v5] f5 :: owA (.lst rs) [v6] f6 :: L) wx) :
    MSt w (owA (tblD cc rs) [.int .i64 5, .int .i64 0, .int .i64 0, .string ⟨#[]⟩, .slice none 0 0, v5, v6] ([] ++ (f5 ++ f6)) :: L) wx := (MSt.noLst h).value 5 0 0 ⟨#[]⟩

end Go.Proofs.YtjhmeaofbheonabGreatDoor

/-
  The rows for which a closure says yes. (Written by gentab.py.)
-/

namespace Go.Proofs.YtjhmeaofbheonabGreatDoor
open Go.RowKit Go.Maps
set_option linter.unusedVariables false
set_option linter.unusedSimpArgs false

set_option maxHeartbeats 6400000 in
set_option maxRecDepth 100000 in
theorem withRowsW_any {t : Dt} (ht : IsVal t) (hw : t.wt ≤ 1048576) (p : Dt → Bool) (u0 u1 : Value) (w : World) (A5 : Option Addr) (n5 c5 : Nat) (A6 : Option Addr) (n6 c6 : Nat) (tr : TabR w t A5 n5 c5 A6 n6 c6)
    (hp : ∀ x ∈ t.rw, ∀ (W : World) (cs : List Value), Below w.heap.size w W → Rd W w.heap.size x cs → Calls Tryz.prog 74 #[.agg cs.toArray, u0, u1] W fun e W' => e = .returned (.bool (p x)) ∧ Below W.heap.size W W') :
    Calls Tryz.prog 73 #[.agg #[.slice A5 n5 c5, .slice A6 n6 c6], .func (.func 74) #[] #[u0, u1]] w (ToA w (tblD t.co (t.rw.filter p))) := by
  obtain ⟨hn6, hq6, hx6⟩ := tr.2.lst_len
  subst hn6
  obtain ⟨hn5, hq5, -⟩ := tr.1.lst_len
  rw [List.length_map] at hn5
  subst hn5
  unfold maxLen at hx6
  have hwp := wt_parts ht
  have hr12 : t.rw.length ≤ 1048576 := by omega
  have hc12 : t.co.length ≤ 1048576 := by simp only [Dt.wt, List.length_map] at hwp; omega
  have HTR := Lib.hid tr
  have HP := Lib.hid hp
  have HV := Lib.hid (And.intro ht hw)
  clear tr hp ht hw hwp
  have h0 := ((MSt.start w).new 71 2 #[.slice A5 t.co.length c5, .slice A6 t.rw.length c6] rfl).new 28 7 #[.int .i64 0, .int .i64 0, .int .i64 0, .string ⟨#[]⟩, .slice none 0 0, .slice none 0 0, .slice none 0 0] rfl
  simp only [World.size_alloc] at h0
  have H0 := Lib.hid h0
  clear h0
  have HS := Lib.hid (MSt.nilRow0 H0.out 38 2)
  go_enter Tryz.func73, Tryz.ntmps73
  have hb2 := MSt.box (MSt.nth (L1 := [_]) H0.out)
  have fO0 := hb2.cellAt 0 (by decide)
  have fO1 := hb2.cellAt 1 (by decide)
  have fOlt := (hb2.lt _ rfl).2
  simp only [List.getElem?_cons_zero, List.getElem?_cons_succ] at fO0 fO1
  clear hb2
  go_wp2_with fail
  clear fO0 fO1 fOlt
  go_loopw [5, 11] (fun v i wr => ∃ (j m : Nat) (cl : List Value), j ≤ t.rw.length ∧ i = .int .i64 (j : Int) ∧ m ≤ j ∧ Hid (m = ((t.rw.take j).filter p).length ∧ RdL w w.heap.size ((t.rw.take j).filter p) cl) ∧ Hid (MSt w [rowA 38 2 v m cl, boxA 28 7 (w.heap.size + 1) [.int .i64 0, .int .i64 0, .int .i64 0, .string ⟨#[]⟩, .slice none 0 0, .slice none 0 0, .slice none 0 0], boxA 71 2 w.heap.size [.slice A5 t.co.length c5, .slice A6 t.rw.length c6]] wr)) (fun _ i _ => t.rw.length - (intOf i).toNat)
  case atStart => exact ⟨0, 0, [], Nat.zero_le _, rfl, Nat.le_refl _, Lib.hid ⟨rfl, by simp [RdL]⟩, HS⟩
  case round =>
    obtain ⟨j, m, cl, hj, rfl, hmj, HF, H1⟩ := hrel
    obtain ⟨A3, q3, rfl⟩ := own_slice H1.out.row
    by_cases hlt : j < t.rw.length
    · obtain ⟨b, o, cs, hA6, hbB, hrd, hlen, hcell⟩ := HTR.out.2.at (k := 2) (fun x hx' => (rw_val HV.out.1 x hx').width) (by omega) j hlt
      subst hA6
      obtain ⟨x, hx⟩ : ∃ x, x = t.rw[j] := ⟨_, rfl⟩
      have hxr := rw_val HV.out.1 _ (List.getElem_mem hlt)
      have hxm := List.getElem_mem hlt
      rw [← hx] at hrd hxr hxm
      have HPX := Lib.hid (HP.out x hxm)
      have hfn := filter_next (p := p) hlt
      rw [← hx] at hfn
      obtain ⟨bx, hbx⟩ : ∃ bx, bx = p x := ⟨_, rfl⟩
      rw [← hbx] at hfn HPX
      obtain ⟨ns, os, rfl, hos⟩ := hxr
      obtain ⟨B0, d0, B1, d1, rfl, r0, r1⟩ := Rd.ofRow hrd
      simp only [List.length_map] at hrd
      have HX := Lib.hid (And.intro hrd hfn)
      have h00 := (H1.out.bel.cell (p := ⟨b, o + j * 2 + 0, none⟩) hbB).trans (hcell 0 (by omega))
      have h01 := (H1.out.bel.cell (p := ⟨b, o + j * 2 + 1, none⟩) hbB).trans (hcell 1 (by omega))
      simp only [List.getElem?_cons_zero, List.getElem?_cons_succ, Nat.add_zero, List.length_map] at h00 h01
      have hws := H1.out.size
      have hbl : b < wr.heap.size := by omega
      have hj2 : (j : Int) < (t.rw.length : Int) := by omega
      clear hrd hfn hx hxm hlen hcell r0 r1 hos hbx
      go_wp2_with fail
      clear h00 h01
      have H2 := Lib.hid (H1.out.new 38 2 #[.slice B0 ns.length d0, .slice B1 os.length d1] rfl)
      have hws3 := H2.out.size
      have hb2 := MSt.box H2.out
      have fB0 := hb2.cellAt 0 (by decide)
      have fB1 := hb2.cellAt 1 (by decide)
      have fBlt := (hb2.lt _ rfl).2
      simp only [List.getElem?_cons_zero, List.getElem?_cons_succ] at fB0 fB1
      clear hb2
      first | go_wp2_with fail | skip
      refine (HPX.out _ [.slice B0 ns.length d0, .slice B1 os.length d1] H2.out.bel (HX.out.1.below H2.out.bel)).mono ?_
      rintro e w2 ⟨rfl, hb⟩
      have H3 := Lib.hid (H2.out.later hb)
      clear hb
      clear fB0 fB1 fBlt
      cases bx
      · go_wp2_with fail
        have hnx := HX.out.2
        rw [if_neg (by simp), List.append_nil] at hnx
        exact ⟨⟨j + 1, m, cl, by omega, by simp, by omega, Lib.hid ⟨by rw [hnx]; exact HF.out.1, by rw [hnx]; exact HF.out.2⟩, Lib.hid (MSt.drop H3.out)⟩, by simp [intOf]; omega⟩
      · have hb2 := MSt.box H3.out
        have fB0 := hb2.cellAt 0 (by decide)
        have fB1 := hb2.cellAt 1 (by decide)
        have fBlt := (hb2.lt _ rfl).2
        simp only [List.getElem?_cons_zero, List.getElem?_cons_succ] at fB0 fB1
        clear hb2
        have hsq := H3.out.size
        go_wp2_with (at_builtin; refine appR _ rfl (.tmp 18) (.tmp 20) rfl w.heap.size _ m cl rfl (((MSt.nth (L1 := [_]) H3.out).alloc _).row) (some ⟨_, 0, none⟩) 1 1 _ [.slice B0 ns.length d0, .slice B1 os.length d1] rfl rfl (row_new _ #[.slice B0 ns.length d0, .slice B1 os.length d1] 38) (by intro u hu; simp at hu; rcases hu with rfl | rfl <;> rfl) (by omega) (by simp; omega) ?_; intro v3 w3 hown3 hgr3 hn3)
        have h3 := MSt.subB (((MSt.nth (L1 := [_]) H3.out).alloc (.cells #[.slice B0 ns.length d0, .slice B1 os.length d1] 38)).app hgr3 hown3 hn3.2) (.cons_cons _ (.cons _ (List.Sublist.refl _)))
        have H9 := Lib.hid h3
        clear h3 hown3 hgr3 hn3
        have hnx := HX.out.2
        rw [if_pos (by trivial)] at hnx
        refine ⟨⟨j + 1, m + 1, _, by omega, by simp, by omega, Lib.hid ⟨?_, ?_⟩, H9⟩, by simp [intOf]; omega⟩
        · rw [hnx, List.length_append, ← HF.out.1]; rfl
        · rw [hnx]; exact (RdL.append _ _ _).2 ⟨_, _, rfl, HF.out.2, rdl_1 HX.out.1⟩
    · obtain rfl : j = t.rw.length := by omega
      have hf := HF.out
      rw [List.take_length] at hf
      have hrd := rd_ownk H1.out.row hf.1 ((hf.2.below H1.out.bel).more H1.out.size)
      have HRD := Lib.hid hrd
      have HFL := Lib.hid hf.1
      clear hf hrd HF
      have hb2 := MSt.box (MSt.nth (L1 := [_, _]) H1.out)
      have fO0 := hb2.cellAt 0 (by decide)
      have fO1 := hb2.cellAt 1 (by decide)
      have fOlt := (hb2.lt _ rfl).2
      simp only [List.getElem?_cons_zero, List.getElem?_cons_succ] at fO0 fO1
      clear hb2
      go_wp2_with fail
      clear fO0 fO1 fOlt
      refine (cloneS_any A5 c5 t.co t.co.length rfl w.heap.size _ (HTR.out.1.strs.keep H1.out.bel.block) (by omega)).mono ?_
      rintro e w2 ⟨A7, c7, rfl, hown, hb⟩
      have H2 := Lib.hid (H1.out.add hb (rowA_at hown))
      have HRD2 := Lib.hid ((HRD.out.below hb).more hb.size)
      clear hown hb HRD
      go_wp2_with fail
      refine (cloneRowsN_any (t.rw.filter p) m HFL.out (fun x hx => rw_val HV.out.1 x (List.mem_filter.1 hx).1) (wt_rows HV.out.1 HV.out.2 _) A3 q3 _ HRD2.out).mono ?_
      rintro e w3 ⟨A8, c8, f8, rfl, how, hnf, hb⟩
      have H3 := Lib.hid (H2.out.add hb (owA_at how hnf))
      clear how hnf hb
      go_wp2_with fail
      refine (value5_any 0 0 ⟨#[]⟩ none A7 A8 0 0 t.co.length c7 m c8 _).mono ?_
      rintro e w4 ⟨rfl, hb⟩
      have H4 := Lib.hid (MSt.tbl (((MSt.nth (L1 := [_]) (H3.out.later hb)).close0 (xs := t.co.map .str) (fun w' => OwL.strs w' t.co) (by simp))))
      clear hb
      obtain ⟨fR0, fR1, fR2, fR3, fR4, fR5, fR6, fRlt⟩ := box7 (MSt.box (MSt.nth (L1 := [_, _]) H4.out))
      obtain ⟨zR0, zR1, zR2, zR3, zR4, zR5, zR6⟩ := box7z (MSt.box (MSt.nth (L1 := [_, _]) H4.out))
      go_wp2_with fail
      obtain ⟨W7, hW, hg, y0, y1, y2, y3, y4, y5, y6⟩ := MSt.put (MSt.nth (L1 := [_, _]) H4.out) (.int .i64 5) (.int .i64 0) (.int .i64 0) (.string ⟨#[]⟩) (.slice none 0 0) (.slice A7 t.co.length c7) (.slice A8 m c8)
      rw [← hW]
      refine bodyPost_ret (v := .agg #[.int .i64 5, .int .i64 0, .int .i64 0, .string ⟨#[]⟩, .slice none 0 0, .slice A7 t.co.length c7, .slice A8 m c8]) (by simp [results, Tryz.results73, go_sem, y0, y1, y2, y3, y4, y5, y6]) rfl ((MSt.nth (L1 := [_]) hg).give)

set_option maxHeartbeats 1600000 in
set_option maxRecDepth 100000 in
theorem whereEqual1_any (gk go k : Nat) (m : Nat) (ns : List Int) (os : List Dt) (hk : k < ns.length) (cs : List Value) (ba oa c : Nat) (by1 : Int) (W : World) (B : Nat) (hB : B ≤ W.heap.size) (h : Rd W B (.agg [.lst (ns.map .int), .lst os]) cs)
    (fk : W.cell? ⟨gk, 0, none⟩ = some (.int .i64 (k : Int))) (fo : W.cell? ⟨go, 0, none⟩ = some (.slice (some ⟨ba, oa, none⟩) 2 c)) (fb : W.cell? ⟨ba, oa + 7 + 1, none⟩ = some (.int .i64 by1)) (hgk : gk < W.heap.size) (hgo : go < W.heap.size) (hba : ba < W.heap.size) :
    Calls Tryz.prog 74 #[.agg cs.toArray, .pointer (some ⟨gk, 0, none⟩), .pointer (some ⟨go, 0, none⟩)] W fun e W' => e = .returned (.bool (eqAt k by1 (.agg [.lst (ns.map .int), .lst os]))) ∧ Below W.heap.size W W' := by
  obtain ⟨B0, d0, B1, d1, rfl, r0, r1⟩ := Rd.ofRow h
  simp only [List.length_map]
  obtain ⟨b0, o0, rfl, hb0, hc0⟩ := r0.ints k _ (intV_get ns k hk)
  obtain ⟨q, hq⟩ : ∃ q, q = ns[k] := ⟨_, rfl⟩
  rw [← hq] at hc0
  have he : eqAt k by1 (.agg [.lst (ns.map .int), .lst os]) = (q == by1) := by unfold eqAt; rw [at_mk hk, hq]
  rw [he]
  have H0 := Lib.hid ((MSt.start W).new 38 2 #[.slice (some ⟨b0, o0, none⟩) ns.length d0, .slice B1 os.length d1] rfl)
  have hk2 : (k : Int) < (ns.length : Int) := by omega
  have hb0w : b0 < W.heap.size := by omega
  have hn0 : ¬ b0 = W.heap.size := by omega
  have hn1 : ¬ gk = W.heap.size := by omega
  have hn2 : ¬ go = W.heap.size := by omega
  have hn3 : ¬ ba = W.heap.size := by omega
  have hz : (1 : Int) < 2 := by omega
  obtain ⟨bq, hbq⟩ : ∃ bq, bq = (q == by1) := ⟨_, rfl⟩
  rw [← hbq]
  have hbq2 := hbq.symm
  clear h r0 r1 he hq hbq
  go_enter Tryz.func74, Tryz.ntmps74
  go_wp2_with fail
  go_quiet (fail)
  go_wp2_with fail
  go_ret
  exact ⟨rfl, (MSt.drewN H0.out _).bel⟩

end Go.Proofs.YtjhmeaofbheonabGreatDoor

/-
  WhereEqual, the program's. (Written by gentab.py.)
-/

namespace Go.Proofs.YtjhmeaofbheonabGreatDoor
open Go.RowKit Go.Maps
set_option linter.unusedVariables false
set_option linter.unusedSimpArgs false

set_option maxHeartbeats 6400000 in
set_option maxRecDepth 100000 in
theorem whereEqual_any {a b t : Dt} (hv : ∀ y ∈ [a, b, t], IsVal y) (hw : ∀ y ∈ [a, b, t], y.wt ≤ 1048576) (ok : OpOk [a, b, t] ([2, 1] ++ [5])) (w : World) (A : Option Addr) (c : Nat) (A5 : Option Addr) (n5 c5 : Nat) (A6 : Option Addr) (n6 c6 : Nat) (tr : TabR w t A5 n5 c5 A6 n6 c6)
    (ro : Rd w w.heap.size (.lst [a, b]) [.slice A 2 c]) : Calls Tryz.prog 43 #[.agg #[.slice A5 n5 c5, .slice A6 n6 c6], .slice A 2 c] w (ToA w (whereD a b t)) := by
  obtain ⟨hn6, hq6, hx6⟩ := tr.2.lst_len
  subst hn6
  obtain ⟨hn5, hq5, -⟩ := tr.1.lst_len
  rw [List.length_map] at hn5
  subst hn5
  obtain ⟨-, hcA, hcB⟩ := ro.lst_len
  unfold maxLen at hx6 hcB
  have hkk := ok.2
  simp only [List.map_cons, List.map_nil, List.cons_append, List.nil_append, List.cons.injEq, and_true] at hkk
  obtain ⟨ka, kb, kt⟩ := hkk
  have htb := tbl_of (hv t (by simp)) (ok.1 t (by simp)) kt
  have HB := Lib.hid htb
  have hr12 := htb.2.1
  have hc4 := htb.1.1.2
  obtain ⟨ba, oa, csa, hAa, hba, hrda, -, hca⟩ := ro.at (k := 7) (fun y hy => (hv y (List.mem_append_left [t] hy)).width) (by omega) 0 (by simp)
  simp only [List.getElem_cons_zero, List.getElem_cons_zero, List.getElem_cons_succ] at hrda
  subst hAa
  obtain ⟨ay0, ay1, ay2, ay3, ay4, an4, ac4, ay5, an5, ac5, ay6, an6, ac6, rfl⟩ := (hv a (by simp)).form hrda
  have HKa := Lib.hid (And.intro (kd_cell (hv a (by simp)) hrda) (tx_cell (hv a (by simp)) hrda))
  have ha0 := hca 0 (by omega)
  have ha1 := hca 1 (by omega)
  have ha2 := hca 2 (by omega)
  have ha3 := hca 3 (by omega)
  have ha4 := hca 4 (by omega)
  have ha5 := hca 5 (by omega)
  have ha6 := hca 6 (by omega)
  simp only [List.getElem?_cons_zero, List.getElem?_cons_succ, Nat.add_zero, Nat.zero_mul, Nat.one_mul, Nat.reduceMul] at ha0 ha1 ha2 ha3 ha4 ha5 ha6
  clear hca
  obtain ⟨bb, ob, csb, hAb, hbb, hrdb, -, hcb⟩ := ro.at (k := 7) (fun y hy => (hv y (List.mem_append_left [t] hy)).width) (by omega) 1 (by simp)
  simp only [List.getElem_cons_zero, List.getElem_cons_zero, List.getElem_cons_succ] at hrdb
  simp only [Option.some.injEq, Addr.mk.injEq, and_true] at hAb
  obtain ⟨rfl, rfl⟩ := hAb
  obtain ⟨by0, by1, by2, by3, by4, bn4, bc4, by5, bn5, bc5, by6, bn6, bc6, rfl⟩ := (hv b (by simp)).form hrdb
  have HKb := Lib.hid (And.intro (kd_cell (hv b (by simp)) hrdb) (tx_cell (hv b (by simp)) hrdb))
  have hb0 := hcb 0 (by omega)
  have hb1 := hcb 1 (by omega)
  have hb2 := hcb 2 (by omega)
  have hb3 := hcb 3 (by omega)
  have hb4 := hcb 4 (by omega)
  have hb5 := hcb 5 (by omega)
  have hb6 := hcb 6 (by omega)
  simp only [List.getElem?_cons_zero, List.getElem?_cons_succ, Nat.add_zero, Nat.zero_mul, Nat.one_mul, Nat.reduceMul] at hb0 hb1 hb2 hb3 hb4 hb5 hb6
  clear hcb
  have HTR := Lib.hid tr
  have HRO := Lib.hid ro
  have HV := Lib.hid (And.intro hv (And.intro hw ok))
  clear hv hw ok tr ro htb ka kb kt hrda hrdb
  have h0 := (((MSt.start w).new 71 2 #[.slice A5 t.co.length c5, .slice A6 t.rw.length c6] rfl).new 24 1 #[.slice (some ⟨ba, oa, none⟩) 2 c] rfl).new 28 7 #[.int .i64 0, .int .i64 0, .int .i64 0, .string ⟨#[]⟩, .slice none 0 0, .slice none 0 0, .slice none 0 0] rfl
  simp only [World.size_alloc] at h0
  have H0 := Lib.hid h0
  clear h0
  rcases idx_lt (cc := t.co) (s := ay3) with hidx | ⟨k, hkc, hidx⟩
  · rw [whereD_no (by rw [HKa.out.2]; exact hidx)]
    have HID := Lib.hid hidx
    clear hidx
    have hz0 : (0 : Int) < 2 := by omega
    have hz1 : (1 : Int) < 2 := by omega
    go_enter Tryz.func43, Tryz.ntmps43
    have hb2 := MSt.box (MSt.nth (L1 := [_, _]) H0.out)
    have fO0 := hb2.cellAt 0 (by decide)
    have fO1 := hb2.cellAt 1 (by decide)
    have fOlt := (hb2.lt _ rfl).2
    simp only [List.getElem?_cons_zero, List.getElem?_cons_succ] at fO0 fO1
    clear hb2
    have hb1 := MSt.box (MSt.nth (L1 := [_]) H0.out)
    have fP0 := hb1.cellAt 0 (by decide)
    have fPlt := (hb1.lt _ rfl).2
    simp only [List.getElem?_cons_zero] at fP0
    clear hb1
    have ga3 := (H0.out.bel.cell (p := ⟨ba, oa + 3, none⟩) hba).trans ha3
    have hws0 := H0.out.size
    have hblt := Nat.lt_of_lt_of_le hba hws0
    go_wp2_with fail
    go_region_held3 (fun w' => w'.cell? ⟨w.heap.size, 0, none⟩ = some (.slice A5 t.co.length c5) ∧ w'.cell? ⟨w.heap.size + 1, 0, none⟩ = some (.slice (some ⟨ba, oa, none⟩) 2 c) ∧ w'.cell? ⟨ba, oa + 3, none⟩ = some (.string ay3)) (first | (with_reducible exact ⟨fO0, fP0, ga3⟩) | (with_reducible exact ⟨drw fO0, drw fP0, drw ga3⟩) | (with_reducible exact ⟨alcd fOlt fO0, alcd fPlt fP0, alcd hblt ga3⟩) | (with_reducible exact ⟨alc fOlt fO0, alc fPlt fP0, alc hblt ga3⟩) | (with_reducible exact ⟨alce fOlt fO0, alce fPlt fP0, alce hblt ga3⟩) | (with_reducible exact ⟨st1 (by omega) (alcd fOlt fO0), st1 (by omega) (alcd fPlt fP0), st1 (by omega) (alcd hblt ga3)⟩) | (with_reducible exact ⟨st1 (by omega) (alc fOlt fO0), st1 (by omega) (alc fPlt fP0), st1 (by omega) (alc hblt ga3)⟩))
      (first | (go_at_call 31; (first | refine (implIndex_any A5 c5 t.co ay3 w.heap.size _ (HTR.out.1.strs.keep H0.out.drew.bel.block) (by omega)).mono ?_ | refine (implIndex_any A5 c5 t.co ay3 w.heap.size _ (HTR.out.1.strs.keep (H0.out.drew.alloc _).bel.block) (by omega)).mono ?_ | refine (implIndex_any A5 c5 t.co ay3 w.heap.size _ (HTR.out.1.strs.keep (H0.out.alloc _).drew.bel.block) (by omega)).mono ?_); rintro e w1 ⟨rfl, rfl⟩; rw [HID.out]))
    all_goals
      first
        | (obtain ⟨wX, hX⟩ : ∃ x : World, x = ((((w.alloc (.cells #[.slice A5 t.co.length c5, .slice A6 t.rw.length c6] 71)).alloc (.cells #[.slice (some ⟨ba, oa, none⟩) 2 c] 24)).alloc (.cells #[.int .i64 0, .int .i64 0, .int .i64 0, .string ⟨#[]⟩, .slice none 0 0, .slice none 0 0, .slice none 0 0] 28)).alloc (.cells #[.int .i64 (-1)] 3)).drew := ⟨_, rfl⟩; have h1 : MSt w [boxA 3 1 (w.heap.size + 1 + 1 + 1) [.int .i64 (-1)], boxA 28 7 (w.heap.size + 1 + 1) [.int .i64 0, .int .i64 0, .int .i64 0, .string ⟨#[]⟩, .slice none 0 0, .slice none 0 0, .slice none 0 0], boxA 24 1 (w.heap.size + 1) [.slice (some ⟨ba, oa, none⟩) 2 c], boxA 71 2 w.heap.size [.slice A5 t.co.length c5, .slice A6 t.rw.length c6]] wX := (by rw [hX]; have h := MSt.drew (H0.out.new 3 1 #[.int .i64 (-1)] rfl); simp only [World.size_drew, World.size_alloc] at h; exact h); rw [← hX]; clear hX)
        | (obtain ⟨wX, hX⟩ : ∃ x : World, x = (((w.alloc (.cells #[.slice A5 t.co.length c5, .slice A6 t.rw.length c6] 71)).alloc (.cells #[.slice (some ⟨ba, oa, none⟩) 2 c] 24)).alloc (.cells #[.int .i64 0, .int .i64 0, .int .i64 0, .string ⟨#[]⟩, .slice none 0 0, .slice none 0 0, .slice none 0 0] 28)).drew.alloc (.cells #[.int .i64 (-1)] 3) := ⟨_, rfl⟩; have h1 : MSt w [boxA 3 1 (w.heap.size + 1 + 1 + 1) [.int .i64 (-1)], boxA 28 7 (w.heap.size + 1 + 1) [.int .i64 0, .int .i64 0, .int .i64 0, .string ⟨#[]⟩, .slice none 0 0, .slice none 0 0, .slice none 0 0], boxA 24 1 (w.heap.size + 1) [.slice (some ⟨ba, oa, none⟩) 2 c], boxA 71 2 w.heap.size [.slice A5 t.co.length c5, .slice A6 t.rw.length c6]] wX := (by rw [hX]; have h := (MSt.drew H0.out).new 3 1 #[.int .i64 (-1)] rfl; simp only [World.size_drew, World.size_alloc] at h; exact h); rw [← hX]; clear hX)
        | (obtain ⟨wX, hX⟩ : ∃ x : World, x = (((w.alloc (.cells #[.slice A5 t.co.length c5, .slice A6 t.rw.length c6] 71)).alloc (.cells #[.slice (some ⟨ba, oa, none⟩) 2 c] 24)).alloc (.cells #[.int .i64 0, .int .i64 0, .int .i64 0, .string ⟨#[]⟩, .slice none 0 0, .slice none 0 0, .slice none 0 0] 28)).alloc (.cells #[.int .i64 (-1)] 3) := ⟨_, rfl⟩; have h1 : MSt w [boxA 3 1 (w.heap.size + 1 + 1 + 1) [.int .i64 (-1)], boxA 28 7 (w.heap.size + 1 + 1) [.int .i64 0, .int .i64 0, .int .i64 0, .string ⟨#[]⟩, .slice none 0 0, .slice none 0 0, .slice none 0 0], boxA 24 1 (w.heap.size + 1) [.slice (some ⟨ba, oa, none⟩) 2 c], boxA 71 2 w.heap.size [.slice A5 t.co.length c5, .slice A6 t.rw.length c6]] wX := (by rw [hX]; have h := H0.out.new 3 1 #[.int .i64 (-1)] rfl; simp only [World.size_drew, World.size_alloc] at h; exact h); rw [← hX]; clear hX)
      have H1 := Lib.hid h1
      clear h1
      clear fO0 fO1 fOlt fP0 fPlt
      clear ga3 hws0 hblt
      have hb1 := MSt.box H1.out
      have fK0 := hb1.cellAt 0 (by decide)
      have fKlt := (hb1.lt _ rfl).2
      simp only [List.getElem?_cons_zero] at fK0
      clear hb1
      go_wp2_with fail
      refine (implErrorValue_any 7 _).mono ?_
      rintro e w2 ⟨rfl, hb⟩
      have H2 := Lib.hid (H1.out.later hb)
      clear hb
      clear fK0 fKlt
      obtain ⟨fR0, fR1, fR2, fR3, fR4, fR5, fR6, fRlt⟩ := box7 (MSt.box (MSt.nth (L1 := [_]) H2.out))
      obtain ⟨zR0, zR1, zR2, zR3, zR4, zR5, zR6⟩ := box7z (MSt.box (MSt.nth (L1 := [_]) H2.out))
      go_wp2_with fail
      obtain ⟨W7, hW, hg, y0, y1, y2, y3, y4, y5, y6⟩ := MSt.put (MSt.nth (L1 := [_]) H2.out) (.int .i64 6) (.int .i64 7) (.int .i64 0) (.string ⟨#[]⟩) (.slice none 0 0) (.slice none 0 0) (.slice none 0 0)
      rw [← hW]
      refine bodyPost_ret (v := .agg #[.int .i64 6, .int .i64 7, .int .i64 0, .string ⟨#[]⟩, .slice none 0 0, .slice none 0 0, .slice none 0 0]) (by simp [results, Tryz.results43, go_sem, y0, y1, y2, y3, y4, y5, y6]) rfl (toA_flat0 rfl hg.bel)
  · rw [whereD_yes (by rw [HKa.out.2]; exact hidx), HKb.out.1.2]
    have HID := Lib.hid hidx
    clear hidx
    have hz0 : (0 : Int) < 2 := by omega
    have hz1 : (1 : Int) < 2 := by omega
    go_enter Tryz.func43, Tryz.ntmps43
    have hb2 := MSt.box (MSt.nth (L1 := [_, _]) H0.out)
    have fO0 := hb2.cellAt 0 (by decide)
    have fO1 := hb2.cellAt 1 (by decide)
    have fOlt := (hb2.lt _ rfl).2
    simp only [List.getElem?_cons_zero, List.getElem?_cons_succ] at fO0 fO1
    clear hb2
    have hb1 := MSt.box (MSt.nth (L1 := [_]) H0.out)
    have fP0 := hb1.cellAt 0 (by decide)
    have fPlt := (hb1.lt _ rfl).2
    simp only [List.getElem?_cons_zero] at fP0
    clear hb1
    have ga3 := (H0.out.bel.cell (p := ⟨ba, oa + 3, none⟩) hba).trans ha3
    have hws0 := H0.out.size
    have hblt := Nat.lt_of_lt_of_le hba hws0
    go_wp2_with fail
    go_region_held3 (fun w' => w'.cell? ⟨w.heap.size, 0, none⟩ = some (.slice A5 t.co.length c5) ∧ w'.cell? ⟨w.heap.size + 1, 0, none⟩ = some (.slice (some ⟨ba, oa, none⟩) 2 c) ∧ w'.cell? ⟨ba, oa + 3, none⟩ = some (.string ay3)) (first | (with_reducible exact ⟨fO0, fP0, ga3⟩) | (with_reducible exact ⟨drw fO0, drw fP0, drw ga3⟩) | (with_reducible exact ⟨alcd fOlt fO0, alcd fPlt fP0, alcd hblt ga3⟩) | (with_reducible exact ⟨alc fOlt fO0, alc fPlt fP0, alc hblt ga3⟩) | (with_reducible exact ⟨alce fOlt fO0, alce fPlt fP0, alce hblt ga3⟩) | (with_reducible exact ⟨st1 (by omega) (alcd fOlt fO0), st1 (by omega) (alcd fPlt fP0), st1 (by omega) (alcd hblt ga3)⟩) | (with_reducible exact ⟨st1 (by omega) (alc fOlt fO0), st1 (by omega) (alc fPlt fP0), st1 (by omega) (alc hblt ga3)⟩))
      (first | (go_at_call 31; (first | refine (implIndex_any A5 c5 t.co ay3 w.heap.size _ (HTR.out.1.strs.keep H0.out.drew.bel.block) (by omega)).mono ?_ | refine (implIndex_any A5 c5 t.co ay3 w.heap.size _ (HTR.out.1.strs.keep (H0.out.drew.alloc _).bel.block) (by omega)).mono ?_ | refine (implIndex_any A5 c5 t.co ay3 w.heap.size _ (HTR.out.1.strs.keep (H0.out.alloc _).drew.bel.block) (by omega)).mono ?_); rintro e w1 ⟨rfl, rfl⟩; rw [HID.out]))
    all_goals
      first
        | (obtain ⟨wX, hX⟩ : ∃ x : World, x = ((((w.alloc (.cells #[.slice A5 t.co.length c5, .slice A6 t.rw.length c6] 71)).alloc (.cells #[.slice (some ⟨ba, oa, none⟩) 2 c] 24)).alloc (.cells #[.int .i64 0, .int .i64 0, .int .i64 0, .string ⟨#[]⟩, .slice none 0 0, .slice none 0 0, .slice none 0 0] 28)).alloc (.cells #[.int .i64 (k : Int)] 3)).drew := ⟨_, rfl⟩; have h1 : MSt w [boxA 3 1 (w.heap.size + 1 + 1 + 1) [.int .i64 (k : Int)], boxA 28 7 (w.heap.size + 1 + 1) [.int .i64 0, .int .i64 0, .int .i64 0, .string ⟨#[]⟩, .slice none 0 0, .slice none 0 0, .slice none 0 0], boxA 24 1 (w.heap.size + 1) [.slice (some ⟨ba, oa, none⟩) 2 c], boxA 71 2 w.heap.size [.slice A5 t.co.length c5, .slice A6 t.rw.length c6]] wX := (by rw [hX]; have h := MSt.drew (H0.out.new 3 1 #[.int .i64 (k : Int)] rfl); simp only [World.size_drew, World.size_alloc] at h; exact h); rw [← hX]; clear hX)
        | (obtain ⟨wX, hX⟩ : ∃ x : World, x = (((w.alloc (.cells #[.slice A5 t.co.length c5, .slice A6 t.rw.length c6] 71)).alloc (.cells #[.slice (some ⟨ba, oa, none⟩) 2 c] 24)).alloc (.cells #[.int .i64 0, .int .i64 0, .int .i64 0, .string ⟨#[]⟩, .slice none 0 0, .slice none 0 0, .slice none 0 0] 28)).drew.alloc (.cells #[.int .i64 (k : Int)] 3) := ⟨_, rfl⟩; have h1 : MSt w [boxA 3 1 (w.heap.size + 1 + 1 + 1) [.int .i64 (k : Int)], boxA 28 7 (w.heap.size + 1 + 1) [.int .i64 0, .int .i64 0, .int .i64 0, .string ⟨#[]⟩, .slice none 0 0, .slice none 0 0, .slice none 0 0], boxA 24 1 (w.heap.size + 1) [.slice (some ⟨ba, oa, none⟩) 2 c], boxA 71 2 w.heap.size [.slice A5 t.co.length c5, .slice A6 t.rw.length c6]] wX := (by rw [hX]; have h := (MSt.drew H0.out).new 3 1 #[.int .i64 (k : Int)] rfl; simp only [World.size_drew, World.size_alloc] at h; exact h); rw [← hX]; clear hX)
        | (obtain ⟨wX, hX⟩ : ∃ x : World, x = (((w.alloc (.cells #[.slice A5 t.co.length c5, .slice A6 t.rw.length c6] 71)).alloc (.cells #[.slice (some ⟨ba, oa, none⟩) 2 c] 24)).alloc (.cells #[.int .i64 0, .int .i64 0, .int .i64 0, .string ⟨#[]⟩, .slice none 0 0, .slice none 0 0, .slice none 0 0] 28)).alloc (.cells #[.int .i64 (k : Int)] 3) := ⟨_, rfl⟩; have h1 : MSt w [boxA 3 1 (w.heap.size + 1 + 1 + 1) [.int .i64 (k : Int)], boxA 28 7 (w.heap.size + 1 + 1) [.int .i64 0, .int .i64 0, .int .i64 0, .string ⟨#[]⟩, .slice none 0 0, .slice none 0 0, .slice none 0 0], boxA 24 1 (w.heap.size + 1) [.slice (some ⟨ba, oa, none⟩) 2 c], boxA 71 2 w.heap.size [.slice A5 t.co.length c5, .slice A6 t.rw.length c6]] wX := (by rw [hX]; have h := H0.out.new 3 1 #[.int .i64 (k : Int)] rfl; simp only [World.size_drew, World.size_alloc] at h; exact h); rw [← hX]; clear hX)
      have H1 := Lib.hid h1
      clear h1
      clear fO0 fO1 fOlt fP0 fPlt
      clear ga3 hws0 hblt
      have hb1 := MSt.box H1.out
      have fK0 := hb1.cellAt 0 (by decide)
      have fKlt := (hb1.lt _ rfl).2
      simp only [List.getElem?_cons_zero] at fK0
      clear hb1
      have hb2 := MSt.box (MSt.nth (L1 := [_, _, _]) H1.out)
      have fO0 := hb2.cellAt 0 (by decide)
      have fO1 := hb2.cellAt 1 (by decide)
      have fOlt := (hb2.lt _ rfl).2
      simp only [List.getElem?_cons_zero, List.getElem?_cons_succ] at fO0 fO1
      clear hb2
      have hk0 : ¬ ((k : Int) < 0) := by omega
      go_wp2_with fail
      clear fK0 fKlt fO0 fO1 fOlt
      refine (withRowsW_any (HV.out.1 t (by simp)) (HV.out.2.1 t (by simp)) (eqAt k by1) _ _ _ A5 _ c5 A6 _ c6 (HTR.out.later H1.out.bel) (fun x hx W cs hb hr => ?_)).mono ?_
      · obtain ⟨ns, os, rfl, hns, -, -⟩ := HB.out.2.2 x hx
        have hbx := hb.trans (Below.refl _ _)
        have hsz := hb.size
        have kK := MSt.box H1.out
        have kP := MSt.box (MSt.nth (L1 := [_, _]) H1.out)
        have lK := (kK.lt _ rfl).2
        have lP := (kP.lt _ rfl).2
        have fK := (hb.cell (p := ⟨w.heap.size + 1 + 1 + 1, 0, none⟩) lK).trans (kK.cellAt 0 (by decide))
        have fP := (hb.cell (p := ⟨w.heap.size + 1, 0, none⟩) lP).trans (kP.cellAt 0 (by decide))
        have hws1 := H1.out.size
        have lb : ba < _ := Nat.lt_of_lt_of_le hba hws1
        have fb := (hb.cell (p := ⟨ba, oa + 7 + 1, none⟩) lb).trans ((H1.out.bel.cell (p := ⟨ba, oa + 7 + 1, none⟩) hba).trans hb1)
        exact whereEqual1_any (w.heap.size + 1 + 1 + 1) (w.heap.size + 1) k t.co.length ns os (by omega) cs ba oa c by1 W _ hsz hr fK fP fb (Nat.lt_of_lt_of_le lK hsz) (Nat.lt_of_lt_of_le lP hsz) (Nat.lt_of_lt_of_le lb hsz)
      rintro e w2 ⟨csT, fpT, rfl, how, hnf, hb⟩
      obtain ⟨vy0, vy1, vy2, vy3, vy4, vn4, vc4, vy5, vn5, vc5, vy6, vn6, vc6, rfl⟩ := IsVal.form (isVal_tblD _ _ (fun x hx => rw_val (HV.out.1 t (by simp)) x (List.mem_filter.1 hx).1)) how.read
      have H2 := Lib.hid (H1.out.add hb (owA_at how hnf))
      clear how hnf hb
      obtain ⟨fR0, fR1, fR2, fR3, fR4, fR5, fR6, fRlt⟩ := box7 (MSt.box (MSt.nth (L1 := [_, _]) H2.out))
      obtain ⟨zR0, zR1, zR2, zR3, zR4, zR5, zR6⟩ := box7z (MSt.box (MSt.nth (L1 := [_, _]) H2.out))
      go_wp2_with fail
      obtain ⟨W7, hW, hg, y0, y1, y2, y3, y4, y5, y6⟩ := MSt.put (MSt.nth (L1 := [_, _]) H2.out) (.int .i64 vy0) (.int .i64 vy1) (.int .i64 vy2) (.string vy3) (.slice vy4 vn4 vc4) (.slice vy5 vn5 vc5) (.slice vy6 vn6 vc6)
      rw [← hW]
      refine bodyPost_ret (v := .agg #[.int .i64 vy0, .int .i64 vy1, .int .i64 vy2, .string vy3, .slice vy4 vn4 vc4, .slice vy5 vn5 vc5, .slice vy6 vn6 vc6]) (by simp [results, Tryz.results43, go_sem, y0, y1, y2, y3, y4, y5, y6]) rfl (MSt.give (MSt.nth (L1 := [_]) hg))

set_option maxHeartbeats 6400000 in
set_option maxRecDepth 100000 in
theorem implWhereEqual_any {a b t : Dt} (ha : IsVal a) (hb : IsVal b) (ht : IsVal t) (hwt : a.wt + b.wt + t.wt ≤ 1048576) (csa csb cst : List Value) (w : World) (ra : Rd w w.heap.size a csa) (rb : Rd w w.heap.size b csb) (rt : Rd w w.heap.size t cst) (d : Dt) (hd : Nary ([2, 1] ++ [5]) [a, b, t] (whereD a b t) d) :
    Calls Tryz.prog 6 #[.agg csa.toArray, .agg csb.toArray, .agg cst.toArray] w (ToA w d) := by
  have HV := Lib.hid (And.intro (show ∀ y ∈ [a, b, t], IsVal y by simp; exact ⟨ha, hb, ht⟩) (show ∀ y ∈ [a, b, t], y.wt ≤ 1048576 by simp; omega))
  have HD := Lib.hid hd
  obtain ⟨ay0, ay1, ay2, ay3, ay4, an4, ac4, ay5, an5, ac5, ay6, an6, ac6, rfl⟩ := ha.form ra
  obtain ⟨by0, by1, by2, by3, by4, bn4, bc4, by5, bn5, bc5, by6, bn6, bc6, rfl⟩ := hb.form rb
  obtain ⟨ty0, ty1, ty2, ty3, ty4, tn4, tc4, ty5, tn5, tc5, ty6, tn6, tc6, rfl⟩ := ht.form rt
  have HRL : Hid (RdL w w.heap.size [a, b, t] [.int .i64 ay0, .int .i64 ay1, .int .i64 ay2, .string ay3, .slice ay4 an4 ac4, .slice ay5 an5 ac5, .slice ay6 an6 ac6, .int .i64 by0, .int .i64 by1, .int .i64 by2, .string by3, .slice by4 bn4 bc4, .slice by5 bn5 bc5, .slice by6 bn6 bc6, .int .i64 ty0, .int .i64 ty1, .int .i64 ty2, .string ty3, .slice ty4 tn4 tc4, .slice ty5 tn5 tc5, .slice ty6 tn6 tc6]) := Lib.hid (rdl_2 ra (rdl_2 rb (rdl_1 rt)))
  have HM : Hid (∀ (w1 : World) (A : Option Addr) (c : Nat) (A5 : Option Addr) (n5 c5 : Nat) (A6 : Option Addr) (n6 c6 : Nat), OpOk [a, b, t] ([2, 1] ++ [5]) → TabR w1 t A5 n5 c5 A6 n6 c6 → Rd w1 w1.heap.size (.lst ([a, b, t].take 2)) [.slice A 2 c] → Calls Tryz.prog 43 #[.agg #[.slice A5 n5 c5, .slice A6 n6 c6], .slice A 2 c] w1 (ToA w1 (whereD a b t))) := Lib.hid fun w1 A c A5 n5 c5 A6 n6 c6 ok tr ro => whereEqual_any HV.out.1 HV.out.2 ok w1 A c A5 n5 c5 A6 n6 c6 tr ro
  have h0 := ((((MSt.start w).new 28 7 #[.int .i64 ay0, .int .i64 ay1, .int .i64 ay2, .string ay3, .slice ay4 an4 ac4, .slice ay5 an5 ac5, .slice ay6 an6 ac6] rfl).new 28 7 #[.int .i64 by0, .int .i64 by1, .int .i64 by2, .string by3, .slice by4 bn4 bc4, .slice by5 bn5 bc5, .slice by6 bn6 bc6] rfl).new 28 7 #[.int .i64 ty0, .int .i64 ty1, .int .i64 ty2, .string ty3, .slice ty4 tn4 tc4, .slice ty5 tn5 tc5, .slice ty6 tn6 tc6] rfl).new 28 7 #[.int .i64 0, .int .i64 0, .int .i64 0, .string ⟨#[]⟩, .slice none 0 0, .slice none 0 0, .slice none 0 0] rfl
  simp only [World.size_alloc] at h0
  have H0 := Lib.hid h0
  clear h0 hd hwt ha ra hb rb ht rt
  go_enter Tryz.func6, Tryz.ntmps6
  obtain ⟨fA0, fA1, fA2, fA3, fA4, fA5, fA6, fAlt⟩ := box7 (MSt.box (MSt.nth (L1 := [_, _, _]) H0.out))
  obtain ⟨fB0, fB1, fB2, fB3, fB4, fB5, fB6, fBlt⟩ := box7 (MSt.box (MSt.nth (L1 := [_, _]) H0.out))
  obtain ⟨fT0, fT1, fT2, fT3, fT4, fT5, fT6, fTlt⟩ := box7 (MSt.box (MSt.nth (L1 := [_]) H0.out))
  go_wp2_with fail
  go_region_law (first
    | (
      go_simp
      go_at_call 19
      refine (tabOp_where _).mono ?_
      rintro e w2 ⟨gk, rfl, hrk, hb⟩
      first | (have HL := Lib.hid (H0.out.drew.later hb)) | (have hx0 := (H0.out.drew.row_lit 28 7 3 #[.int .i64 ay0, .int .i64 ay1, .int .i64 ay2, .string ay3, .slice ay4 an4 ac4, .slice ay5 an5 ac5, .slice ay6 an6 ac6, .int .i64 by0, .int .i64 by1, .int .i64 by2, .string by3, .slice by4 bn4 bc4, .slice by5 bn5 bc5, .slice by6 bn6 bc6, .int .i64 ty0, .int .i64 ty1, .int .i64 ty2, .string ty3, .slice ty4 tn4 tc4, .slice ty5 tn5 tc5, .slice ty6 tn6 tc6] (by unfold maxLen; omega) rfl).later hb; simp only [World.size_drew, World.size_alloc] at hx0; have HX := Lib.hid hx0; clear hx0) | fail
      have hws2 := hb.size
      first | simp at hws2 | skip
      clear hb
      have HK := Lib.hid hrk
      clear hrk
      first | have hbm := MSt.hasB HL.out (a := boxA 28 7 (w.heap.size) [.int .i64 ay0, .int .i64 ay1, .int .i64 ay2, .string ay3, .slice ay4 an4 ac4, .slice ay5 an5 ac5, .slice ay6 an6 ac6]) (by simp) | have hbm := MSt.hasB HX.out (a := boxA 28 7 (w.heap.size) [.int .i64 ay0, .int .i64 ay1, .int .i64 ay2, .string ay3, .slice ay4 an4 ac4, .slice ay5 an5 ac5, .slice ay6 an6 ac6]) (by simp) | fail
      obtain ⟨fA0, fA1, fA2, fA3, fA4, fA5, fA6, fAlt⟩ := box7 hbm
      clear hbm
      first | have hbm := MSt.hasB HL.out (a := boxA 28 7 (w.heap.size + 1) [.int .i64 by0, .int .i64 by1, .int .i64 by2, .string by3, .slice by4 bn4 bc4, .slice by5 bn5 bc5, .slice by6 bn6 bc6]) (by simp) | have hbm := MSt.hasB HX.out (a := boxA 28 7 (w.heap.size + 1) [.int .i64 by0, .int .i64 by1, .int .i64 by2, .string by3, .slice by4 bn4 bc4, .slice by5 bn5 bc5, .slice by6 bn6 bc6]) (by simp) | fail
      obtain ⟨fB0, fB1, fB2, fB3, fB4, fB5, fB6, fBlt⟩ := box7 hbm
      clear hbm
      first | have hbm := MSt.hasB HL.out (a := boxA 28 7 (w.heap.size + 1 + 1) [.int .i64 ty0, .int .i64 ty1, .int .i64 ty2, .string ty3, .slice ty4 tn4 tc4, .slice ty5 tn5 tc5, .slice ty6 tn6 tc6]) (by simp) | have hbm := MSt.hasB HX.out (a := boxA 28 7 (w.heap.size + 1 + 1) [.int .i64 ty0, .int .i64 ty1, .int .i64 ty2, .string ty3, .slice ty4 tn4 tc4, .slice ty5 tn5 tc5, .slice ty6 tn6 tc6]) (by simp) | fail
      obtain ⟨fT0, fT1, fT2, fT3, fT4, fT5, fT6, fTlt⟩ := box7 hbm
      clear hbm)
    | (
      go_simp
      go_at_call 20
      first | (have HY := HX) | (have HY := Lib.hid (HL.out.row_lit 28 7 3 #[.int .i64 ay0, .int .i64 ay1, .int .i64 ay2, .string ay3, .slice ay4 an4 ac4, .slice ay5 an5 ac5, .slice ay6 an6 ac6, .int .i64 by0, .int .i64 by1, .int .i64 by2, .string by3, .slice by4 bn4 bc4, .slice by5 bn5 bc5, .slice by6 bn6 bc6, .int .i64 ty0, .int .i64 ty1, .int .i64 ty2, .string ty3, .slice ty4 tn4 tc4, .slice ty5 tn5 tc5, .slice ty6 tn6 tc6] (by unfold maxLen; omega) rfl)) | fail
      have hrd := lst_read HY.out (xs := [a, b, t]) rfl HRL.out
      have hrk : RowOf _ _ _ _ := HK.out
      refine (on_any [2, 1] _ _ 43 (enters_of Tryz.func43 (by kernel_rfl) rfl) [a, b, t] 2 rfl t rfl HV.out.1 HV.out.2 rfl _ _ _ hrd (by first | exact hrk | exact (hrk.keep fun k hk => ((Below.refl _ _).alloc (Nat.le_refl _) _).block k hk).more (by simp)) (whereD a b t) d HD.out (fun _ => isVal_whereD a b (HV.out.1 t (by simp))) (fun w1 A5 n5 c5 A6 n6 c6 ok tr ro => HM.out w1 _ _ A5 n5 c5 A6 n6 c6 ok tr ro)).mono ?_
      rintro e w3 ⟨csT, fpT, rfl, how, hnf, hb⟩
      obtain ⟨vy0, vy1, vy2, vy3, vy4, vn4, vc4, vy5, vn5, vc5, vy6, vn6, vc6, rfl⟩ := IsVal.form (HD.out.val (fun _ => isVal_whereD a b (HV.out.1 t (by simp)))) how.read
      have HZ := Lib.hid (HY.out.add hb (owA_at how hnf))
      clear how hnf hb hrd hrk
      have hbm := MSt.hasB HZ.out (a := boxA 28 7 (w.heap.size + 1 + 1 + 1) [.int .i64 0, .int .i64 0, .int .i64 0, .string ⟨#[]⟩, .slice none 0 0, .slice none 0 0, .slice none 0 0]) (by simp)
      obtain ⟨fR0, fR1, fR2, fR3, fR4, fR5, fR6, fRlt⟩ := box7 hbm
      obtain ⟨zR0, zR1, zR2, zR3, zR4, zR5, zR6⟩ := box7z hbm
      clear hbm)
    | fail)
  all_goals
    go_wp2_with fail
    obtain ⟨W7, hW, hg, y0, y1, y2, y3, y4, y5, y6⟩ := MSt.put (MSt.nth (L1 := [_, _]) HZ.out) (.int .i64 vy0) (.int .i64 vy1) (.int .i64 vy2) (.string vy3) (.slice vy4 vn4 vc4) (.slice vy5 vn5 vc5) (.slice vy6 vn6 vc6)
    rw [← hW]
    refine bodyPost_ret (v := .agg #[.int .i64 vy0, .int .i64 vy1, .int .i64 vy2, .string vy3, .slice vy4 vn4 vc4, .slice vy5 vn5 vc5, .slice vy6 vn6 vc6]) (by simp [results, Tryz.results6, go_sem, y0, y1, y2, y3, y4, y5, y6]) rfl (MSt.give (MSt.nth (L1 := [_]) hg))

end Go.Proofs.YtjhmeaofbheonabGreatDoor
