/-
  Texts that the proof rests on, put together: Pub7, TabCol, TabWh.
-/
import Derived.Test.YtcdklpflgafokaaGreatDoorMgKGround18
import Derived.Test.YtcdklpflgafokaaGreatDoorMgKGround38
import Derived.Maps.Views
import Derived.Deep.RegionLaw
import Derived.Deep.RegionHeld3
import Derived.Outline
import Derived.Test.YtcdklpflgafokaaGreatDoorMgKGround21
import Derived.Test.YtcdklpflgafokaaGreatDoorMgKGround16
import Derived.Test.YtcdklpflgafokaaGreatDoorMgKGround20
import Derived.Test.YtcdklpflgafokaaGreatDoorMgKGround31
/-
  The table of operations, operation by operation; operands as a list. (Written by gentab.py.)
-/

namespace Go.Proofs.YtcdklpflgafokaaGreatDoor
open Go.RowKit Go.Maps
set_option linter.unusedVariables false
set_option linter.unusedSimpArgs false

theorem rdl_1 {w : World} {B : Nat} {a : Dt} {ca : List Value} (ha : Rd w B a ca) : RdL w B [a] ca := by simp only [RdL]; exact ⟨ca, [], by simp, ha, rfl⟩
theorem rdl_2 {w : World} {B : Nat} {a : Dt} {l : List Dt} {ca cl : List Value} (ha : Rd w B a ca) (hl : RdL w B l cl) : RdL w B (a :: l) (ca ++ cl) := by simp only [RdL]; exact ⟨ca, cl, rfl, ha, hl⟩
theorem lst_read {w w1 : World} {L : List Asn} {xs : List Dt} {g n : Nat} {cells : List Value} (h : MSt w (rowA 28 7 (.slice (some ⟨g, 0, none⟩) n n) n cells :: L) w1) (hn : n = xs.length) (hl : RdL w w.heap.size xs cells) : Rd w1 w1.heap.size (.lst xs) [.slice (some ⟨g, 0, none⟩) n n] :=
  rd_own1 h.row hn ((hl.below h.bel).more h.size)
theorem rowOf_none (w : World) (B : Nat) : RowOf w B none (intV []) := by
  intro k v h
  simp [intV] at h
theorem tabOp_rows (w : World) : Calls Tryz.prog 51 #[.string ⟨#[114, 111, 119, 115]⟩] w fun e w' => e = .returned (.agg #[.slice none 0 0, .func (.func 101) #[] #[]]) ∧ Below w.heap.size w w' := by
  refine (tabOp_any ⟨#[114, 111, 119, 115]⟩ (by decide) (by simp [opNames]) w).mono ?_
  rintro e w' ⟨g1, g2, g3, g4, g5, g6, v, rfl, hv, hM⟩
  have hv : (tabD g1 g2 g3 g4 g5 g6).atKey (.string [114, 111, 119, 115]) (.held zOp) = .held v := hv
  rw [tabD, atKey_put_other (by simp), atKey_put_other (by simp), atKey_put_other (by simp), atKey_put_other (by simp), atKey_put_other (by simp), atKey_put_other (by simp), atKey_put_same isMap_nil (by simp [WideAt.IsKeyLit])] at hv
  injection hv with hv
  subst hv
  exact ⟨rfl, hM.bel⟩
theorem tabOp_column (w : World) : Calls Tryz.prog 51 #[.string ⟨#[99, 111, 108, 117, 109, 110]⟩] w fun e w' => ∃ g, e = .returned (.agg #[.slice (some ⟨g, 0, none⟩) 1 1, .func (.func 102) #[] #[]]) ∧ RowOf w' w'.heap.size (some ⟨g, 0, none⟩) (intV [2]) ∧ Below w.heap.size w w' := by
  refine (tabOp_any ⟨#[99, 111, 108, 117, 109, 110]⟩ (by decide) (by simp [opNames]) w).mono ?_
  rintro e w' ⟨g1, g2, g3, g4, g5, g6, v, rfl, hv, hM⟩
  have hv : (tabD g1 g2 g3 g4 g5 g6).atKey (.string [99, 111, 108, 117, 109, 110]) (.held zOp) = .held v := hv
  rw [tabD, atKey_put_other (by simp), atKey_put_other (by simp), atKey_put_other (by simp), atKey_put_other (by simp), atKey_put_other (by simp), atKey_put_same (isMap_nil.put _ _) (by simp [WideAt.IsKeyLit])] at hv
  injection hv with hv
  subst hv
  exact ⟨_, rfl, (own_row (MSt.row (MSt.nth (L1 := [_, _, _, _, _]) hM)) fun b hb => ((MSt.row (MSt.nth (L1 := [_, _, _, _, _]) hM)).lt b hb).2), hM.bel⟩
theorem tabOp_keep (w : World) : Calls Tryz.prog 51 #[.string ⟨#[107, 101, 101, 112]⟩] w fun e w' => ∃ g, e = .returned (.agg #[.slice (some ⟨g, 0, none⟩) 1 1, .func (.func 103) #[] #[]]) ∧ RowOf w' w'.heap.size (some ⟨g, 0, none⟩) (intV [2]) ∧ Below w.heap.size w w' := by
  refine (tabOp_any ⟨#[107, 101, 101, 112]⟩ (by decide) (by simp [opNames]) w).mono ?_
  rintro e w' ⟨g1, g2, g3, g4, g5, g6, v, rfl, hv, hM⟩
  have hv : (tabD g1 g2 g3 g4 g5 g6).atKey (.string [107, 101, 101, 112]) (.held zOp) = .held v := hv
  rw [tabD, atKey_put_other (by simp), atKey_put_other (by simp), atKey_put_other (by simp), atKey_put_other (by simp), atKey_put_same ((isMap_nil.put _ _).put _ _) (by simp [WideAt.IsKeyLit])] at hv
  injection hv with hv
  subst hv
  exact ⟨_, rfl, (own_row (MSt.row (MSt.nth (L1 := [_, _, _, _]) hM)) fun b hb => ((MSt.row (MSt.nth (L1 := [_, _, _, _]) hM)).lt b hb).2), hM.bel⟩
theorem tabOp_where (w : World) : Calls Tryz.prog 51 #[.string ⟨#[119, 104, 101, 114, 101]⟩] w fun e w' => ∃ g, e = .returned (.agg #[.slice (some ⟨g, 0, none⟩) 2 2, .func (.func 104) #[] #[]]) ∧ RowOf w' w'.heap.size (some ⟨g, 0, none⟩) (intV [2, 1]) ∧ Below w.heap.size w w' := by
  refine (tabOp_any ⟨#[119, 104, 101, 114, 101]⟩ (by decide) (by simp [opNames]) w).mono ?_
  rintro e w' ⟨g1, g2, g3, g4, g5, g6, v, rfl, hv, hM⟩
  have hv : (tabD g1 g2 g3 g4 g5 g6).atKey (.string [119, 104, 101, 114, 101]) (.held zOp) = .held v := hv
  rw [tabD, atKey_put_other (by simp), atKey_put_other (by simp), atKey_put_other (by simp), atKey_put_same (((isMap_nil.put _ _).put _ _).put _ _) (by simp [WideAt.IsKeyLit])] at hv
  injection hv with hv
  subst hv
  exact ⟨_, rfl, (own_row (MSt.row (MSt.nth (L1 := [_, _, _]) hM)) fun b hb => ((MSt.row (MSt.nth (L1 := [_, _, _]) hM)).lt b hb).2), hM.bel⟩
theorem tabOp_add (w : World) : Calls Tryz.prog 51 #[.string ⟨#[97, 100, 100]⟩] w fun e w' => ∃ g, e = .returned (.agg #[.slice (some ⟨g, 0, none⟩) 3 3, .func (.func 105) #[] #[]]) ∧ RowOf w' w'.heap.size (some ⟨g, 0, none⟩) (intV [2, 2, 2]) ∧ Below w.heap.size w w' := by
  refine (tabOp_any ⟨#[97, 100, 100]⟩ (by decide) (by simp [opNames]) w).mono ?_
  rintro e w' ⟨g1, g2, g3, g4, g5, g6, v, rfl, hv, hM⟩
  have hv : (tabD g1 g2 g3 g4 g5 g6).atKey (.string [97, 100, 100]) (.held zOp) = .held v := hv
  rw [tabD, atKey_put_other (by simp), atKey_put_other (by simp), atKey_put_same ((((isMap_nil.put _ _).put _ _).put _ _).put _ _) (by simp [WideAt.IsKeyLit])] at hv
  injection hv with hv
  subst hv
  exact ⟨_, rfl, (own_row (MSt.row (MSt.nth (L1 := [_, _]) hM)) fun b hb => ((MSt.row (MSt.nth (L1 := [_, _]) hM)).lt b hb).2), hM.bel⟩
theorem tabOp_group (w : World) : Calls Tryz.prog 51 #[.string ⟨#[103, 114, 111, 117, 112]⟩] w fun e w' => ∃ g, e = .returned (.agg #[.slice (some ⟨g, 0, none⟩) 2 2, .func (.func 106) #[] #[]]) ∧ RowOf w' w'.heap.size (some ⟨g, 0, none⟩) (intV [2, 2]) ∧ Below w.heap.size w w' := by
  refine (tabOp_any ⟨#[103, 114, 111, 117, 112]⟩ (by decide) (by simp [opNames]) w).mono ?_
  rintro e w' ⟨g1, g2, g3, g4, g5, g6, v, rfl, hv, hM⟩
  have hv : (tabD g1 g2 g3 g4 g5 g6).atKey (.string [103, 114, 111, 117, 112]) (.held zOp) = .held v := hv
  rw [tabD, atKey_put_other (by simp), atKey_put_same (((((isMap_nil.put _ _).put _ _).put _ _).put _ _).put _ _) (by simp [WideAt.IsKeyLit])] at hv
  injection hv with hv
  subst hv
  exact ⟨_, rfl, (own_row (MSt.row (MSt.nth (L1 := [_]) hM)) fun b hb => ((MSt.row (MSt.nth (L1 := [_]) hM)).lt b hb).2), hM.bel⟩
theorem tabOp_join (w : World) : Calls Tryz.prog 51 #[.string ⟨#[106, 111, 105, 110]⟩] w fun e w' => ∃ g, e = .returned (.agg #[.slice (some ⟨g, 0, none⟩) 2 2, .func (.func 107) #[] #[]]) ∧ RowOf w' w'.heap.size (some ⟨g, 0, none⟩) (intV [2, 5]) ∧ Below w.heap.size w w' := by
  refine (tabOp_any ⟨#[106, 111, 105, 110]⟩ (by decide) (by simp [opNames]) w).mono ?_
  rintro e w' ⟨g1, g2, g3, g4, g5, g6, v, rfl, hv, hM⟩
  have hv : (tabD g1 g2 g3 g4 g5 g6).atKey (.string [106, 111, 105, 110]) (.held zOp) = .held v := hv
  rw [tabD, atKey_put_same ((((((isMap_nil.put _ _).put _ _).put _ _).put _ _).put _ _).put _ _) (by simp [WideAt.IsKeyLit])] at hv
  injection hv with hv
  subst hv
  exact ⟨_, rfl, (own_row (MSt.row (MSt.nth (L1 := []) hM)) fun b hb => ((MSt.row (MSt.nth (L1 := []) hM)).lt b hb).2), hM.bel⟩

theorem tx_cell {w : World} {B : Nat} {d : Dt} {y0 y1 y2 : Int} {y3 : ByteArray} {cs : List Value} (hd : IsVal d) (h : Rd w B d (.int .i64 y0 :: .int .i64 y1 :: .int .i64 y2 :: .string y3 :: cs)) : d.tx = y3 := by
  cases hd
  obtain ⟨A4, c4, A5, c5, A6, c6, hc, _⟩ := Rd.ofValue h
  simp only [List.cons.injEq, Value.int.injEq, Value.string.injEq] at hc
  exact hc.2.2.2.1.symm

end Go.Proofs.YtcdklpflgafokaaGreatDoor

/-
  Columns. (Written by gentab.py.)
-/

namespace Go.Proofs.YtcdklpflgafokaaGreatDoor
open Go.RowKit Go.Maps
set_option linter.unusedVariables false
set_option linter.unusedSimpArgs false

theorem tbl_of {t : Dt} (ht : IsVal t) (h : Fine t) (hk : t.kd = 5) : TblOk t.co t.rw := by
  obtain ⟨k, n, s, x, l, c, r, hl, hr⟩ := ht
  rw [co_mk, rw_mk]
  exact (tab_fine h hk).1
theorem at_mk {ns : List Int} {os : List Dt} {k : Nat} (h : k < ns.length) : Dt.at (.agg [.lst (ns.map .int), .lst os]) k = ns[k] := by
  unfold Dt.at
  rw [ce_mk, List.getElem?_eq_getElem h]
  rfl
theorem pos_of {cc : List ByteArray} {s : ByteArray} {k : Nat} (h : Lib.idxOfS cc s = ((k : Nat) : Int)) : pos cc s = k := by
  unfold pos
  rw [h]
  rfl
/-- The cells of a column. -/
def colN (rs : List Dt) (k : Nat) : List Int := rs.map fun r => r.at k
theorem colN_len (rs : List Dt) (k : Nat) : (colN rs k).length = rs.length := List.length_map _
theorem colN_next {rs : List Dt} {j k : Nat} (hj : j < rs.length) {n : Int} (hn : rs[j].at k = n) : numV (colN (rs.take j) k) ++ flatV 1 n 0 ⟨#[]⟩ = numV (colN (rs.take (j + 1)) k) := by
  rw [List.take_succ_eq_append_getElem hj]
  simp only [colN, numV, List.map_append, List.flatMap_append, List.map_cons, List.map_nil, List.flatMap_cons, List.flatMap_nil, List.append_nil, hn]
theorem colD_no {a t : Dt} (h : Lib.idxOfS t.co a.tx = -1) : colD a t = errD 7 := by
  unfold colD
  rw [if_pos (by omega)]
theorem colD_long {a t : Dt} {k : Nat} (h : Lib.idxOfS t.co a.tx = ((k : Nat) : Int)) (hr : 8 < t.rw.length) : colD a t = errD 6 := by
  unfold colD
  rw [if_neg (by omega), if_pos hr]
theorem colD_yes {a t : Dt} {k : Nat} (h : Lib.idxOfS t.co a.tx = ((k : Nat) : Int)) (hr : ¬ 8 < t.rw.length) : colD a t = valD 3 0 ⟨#[]⟩ ((colN t.rw k).map fun n => valD 1 n ⟨#[]⟩ []) := by
  unfold colD
  rw [if_neg (by omega), if_neg hr, pos_of h]
  unfold colN
  rw [List.map_map]
  rfl
theorem idx_lt {cc : List ByteArray} {s : ByteArray} : Lib.idxOfS cc s = -1 ∨ ∃ k, k < cc.length ∧ Lib.idxOfS cc s = ((k : Nat) : Int) := by
  rcases idx_or cc s with ⟨h, _⟩ | ⟨k, h1, h2, _⟩
  · exact .inl h
  · exact .inr ⟨k, h1, h2⟩
theorem implListN_any (l : List Dt) (n : Nat) (hn : n = l.length) (hl : ∀ x ∈ l, IsVal x) (hwt : Dt.wt (.lst l) ≤ 1048576) (A4 : Option Addr) (c4 : Nat) (w : World) (h : Rd w w.heap.size (.lst l) [.slice A4 n c4]) :
    Calls Tryz.prog 144 #[.slice A4 n c4] w (ToA w (valD 3 0 ⟨#[]⟩ l)) := by
  subst hn
  exact implList_any l hl hwt A4 c4 w h
theorem isVal_nums (ns : List Int) : ∀ x ∈ ns.map (fun n => valD 1 n ⟨#[]⟩ []), IsVal x := by
  intro x hx
  obtain ⟨n, _, rfl⟩ := List.mem_map.1 hx
  exact isVal_flatD _ _ _
theorem wt_nums (ns : List Int) : Dt.wt (.lst (ns.map fun n => valD 1 n ⟨#[]⟩ [])) = ns.length := by
  have h : ∀ l : List Int, wts (l.map fun n => valD 1 n ⟨#[]⟩ []) = 0 := by
    intro l
    induction l with
    | nil => rfl
    | cons x l ih => simp only [List.map_cons, wts, wt_flatD, ih]
  simp [Dt.wt, h]

end Go.Proofs.YtcdklpflgafokaaGreatDoor

/-
  Rows chosen. (Written by gentab.py.)
-/

namespace Go.Proofs.YtcdklpflgafokaaGreatDoor
open Go.RowKit Go.Maps
set_option linter.unusedVariables false
set_option linter.unusedSimpArgs false

def eqAt (k : Nat) (n : Int) (r : Dt) : Bool := r.at k == n
theorem whereD_no {a n t : Dt} (h : Lib.idxOfS t.co a.tx = -1) : whereD a n t = errD 7 := by
  unfold whereD
  rw [if_pos (by omega)]
theorem whereD_yes {a n t : Dt} {k : Nat} (h : Lib.idxOfS t.co a.tx = ((k : Nat) : Int)) : whereD a n t = tblD t.co (t.rw.filter (eqAt k n.nm)) := by
  unfold whereD
  rw [if_neg (by omega), pos_of h]
  rfl
theorem filter_next {p : Dt → Bool} {rs : List Dt} {j : Nat} (hj : j < rs.length) : (rs.take (j + 1)).filter p = (rs.take j).filter p ++ (if p rs[j] = true then [rs[j]] else []) := by
  rw [List.take_succ_eq_append_getElem hj, List.filter_append]
  congr 1
  by_cases h : p rs[j] = true
  · rw [if_pos h, List.filter_cons_of_pos h, List.filter_nil]
  · rw [if_neg h, List.filter_cons_of_neg h, List.filter_nil]
theorem rd_ownk {w1 : World} {base n c k : Nat} {e : TypeId} {A : Option Addr} {cells : List Value} {l : List Dt} (hown : w1.ownsRow base e k (.slice A n c) n cells) (hn : n = l.length) (hrd : RdL w1 w1.heap.size l cells) : Rd w1 w1.heap.size (.lst l) [.slice A n c] := by
  subst hn
  simp only [Rd]
  exact ⟨A, c, cells, rfl, (own_cap hown).1, (own_cap hown).2, own_row hown (fun b hb => (hown.lt b hb).2), hrd⟩
theorem cloneRowsN_any (rs : List Dt) (n : Nat) (hn : n = rs.length) (hr : ∀ x ∈ rs, IsRow x) (hwt : Dt.wt (.lst rs) ≤ 1048576) (A : Option Addr) (c : Nat) (w : World) (h : Rd w w.heap.size (.lst rs) [.slice A n c]) :
    Calls Tryz.prog 148 #[.slice A n c] w fun e w' => ∃ A' c' fp, e = .returned (.slice A' n c') ∧ Ow w' (.lst rs) [.slice A' n c'] fp ∧ New w.heap.size fp ∧ Below w.heap.size w w' := by
  subst hn
  exact cloneRows_any rs hr hwt A c w h
theorem cloneS_any (A : Option Addr) (c : Nat) (ss : List ByteArray) (n : Nat) (hn : n = ss.length) (B : Nat) (w : World) (h : RowOf w B A (strV ss)) (hs : ss.length ≤ 1048576) :
    Calls Tryz.prog 147 #[.slice A n c] w fun e w' => ∃ A' c', e = .returned (.slice A' n c') ∧ w'.ownsRow w.heap.size 9 1 (.slice A' n c') n (strV ss) ∧ Below w.heap.size w w' := by
  subst hn
  refine (clone_any A c ss B w h hs).mono ?_
  rintro e w' ⟨v, rfl, hown, -, hb⟩
  rw [← strV_nb] at hown
  obtain ⟨A', c', rfl⟩ := own_slice hown
  exact ⟨A', c', rfl, hown, hb⟩
theorem row_is {m : Nat} {x : Dt} (h : RowOk m x) (hx : IsRow x) : IsRow x := hx
theorem wt_rows {t : Dt} (ht : IsVal t) (hw : t.wt ≤ 1048576) (p : Dt → Bool) : Dt.wt (.lst (t.rw.filter p)) ≤ 1048576 := by
  have h1 := wt_parts ht
  have h2 := wts_filter p t.rw
  simp only [Dt.wt]
  omega
theorem MSt.tbl {w wx : World} {L : List Asn} {cc : List ByteArray} {rs : List Dt} {v5 v6 : Value} {f5 f6 : List Nat} (h : MSt w (owA (.lst (cc.map .str)) [v5] f5 :: owA (.lst rs) [v6] f6 :: L) wx) :
    MSt w (owA (tblD cc rs) [.int .i64 5, .int .i64 0, .int .i64 0, .string ⟨#[]⟩, .slice none 0 0, v5, v6] ([] ++ (f5 ++ f6)) :: L) wx := (MSt.noLst h).value 5 0 0 ⟨#[]⟩

end Go.Proofs.YtcdklpflgafokaaGreatDoor
