/-
  Texts that the proof rests on, put together: Pub7, TabCol, TabWh, OwPart, WRowsR.
-/
import Derived.Test.YtabcmnlmmpbmnaaGreatMgS13
import Derived.Test.YtabcmnlmmpbmnaaGreatMgS42
import Derived.Maps.Views
import Derived.Deep.RegionLaw
import Derived.Deep.RegionHeld3
import Derived.Outline
import Derived.Test.YtabcmnlmmpbmnaaGreatMgS15
import Derived.Test.YtabcmnlmmpbmnaaGreatMgS11
import Derived.Test.YtabcmnlmmpbmnaaGreatMgS14
import Derived.Test.YtabcmnlmmpbmnaaGreatMgS33
/-
  The table of operations, operation by operation; operands as a list. (Written by gentab.py.)
-/

namespace Go.Proofs.YtabcmnlmmpbmnaaGreat
open Go.RowKit Go.Maps
set_option linter.unusedVariables false
set_option linter.unusedSimpArgs false

theorem rdl_1 {w : World} {B : Nat} {a : Dt} {ca : List Value} (ha : Rd w B a ca) : RdL w B [a] ca := by simp only [RdL]; exact ⟨ca, [], by simp, ha, rfl⟩
end Go.Proofs.YtabcmnlmmpbmnaaGreat

/-
  Columns. (Written by gentab.py.)
-/

namespace Go.Proofs.YtabcmnlmmpbmnaaGreat
open Go.RowKit Go.Maps
set_option linter.unusedVariables false
set_option linter.unusedSimpArgs false

theorem tbl_of {t : Dt} (ht : IsVal t) (h : Fine t) (hk : t.kd = 5) : TblOk t.co t.rw := by
  obtain ⟨k, n, s, x, l, c, r, hl, hr⟩ := ht
  rw [co_mk, rw_mk]
  exact (tab_fine h hk).1
end Go.Proofs.YtabcmnlmmpbmnaaGreat

/-
  Rows chosen. (Written by gentab.py.)
-/

namespace Go.Proofs.YtabcmnlmmpbmnaaGreat
open Go.RowKit Go.Maps
set_option linter.unusedVariables false
set_option linter.unusedSimpArgs false

theorem filter_next {p : Dt → Bool} {rs : List Dt} {j : Nat} (hj : j < rs.length) : (rs.take (j + 1)).filter p = (rs.take j).filter p ++ (if p rs[j] = true then [rs[j]] else []) := by
  rw [List.take_succ_eq_append_getElem hj, List.filter_append]
  congr 1
  by_cases h : p rs[j] = true
  · rw [if_pos h, List.filter_cons_of_pos h, List.filter_nil]
  · rw [if_neg h, List.filter_cons_of_neg h, List.filter_nil]
theorem rd_ownk {w1 : World} {base n c k : Nat} {e : TypeId} {A : Option Addr} {cells : List Value} {l : List Dt} (hown : w1.ownsRow base e k (.slice A n c) n cells) (hn : n = l.length) (hrd : RdL w1 w1.heap.size l cells) : Rd w1 w1.heap.size (.lst l) [.slice A n c] := by
  subst hn
  simp only [Rd]
  exact ⟨A, c, cells, rfl, (own_cap hown).1, (own_cap hown).2, own_row hown (fun b hb => (hown.lt b hb).2), hrd⟩
theorem cloneRowsN_any (rs : List Dt) (n : Nat) (hn : n = rs.length) (hr : ∀ x ∈ rs, IsRow x) (hwt : Dt.wt (.lst rs) ≤ 1048576) (A : Option Addr) (c : Nat) (w : World) (h : Rd w w.heap.size (.lst rs) [.slice A n c]) :
    Calls Tryz.prog 151 #[.slice A n c] w fun e w' => ∃ A' c' fp, e = .returned (.slice A' n c') ∧ Ow w' (.lst rs) [.slice A' n c'] fp ∧ New w.heap.size fp ∧ Below w.heap.size w w' := by
  subst hn
  exact cloneRows_any rs hr hwt A c w h
theorem cloneS_any (A : Option Addr) (c : Nat) (ss : List ByteArray) (n : Nat) (hn : n = ss.length) (B : Nat) (w : World) (h : RowOf w B A (strV ss)) (hs : ss.length ≤ 1048576) :
    Calls Tryz.prog 96 #[.slice A n c] w fun e w' => ∃ A' c', e = .returned (.slice A' n c') ∧ w'.ownsRow w.heap.size 9 1 (.slice A' n c') n (strV ss) ∧ Below w.heap.size w w' := by
  subst hn
  refine (clone_any A c ss B w h hs).mono ?_
  rintro e w' ⟨v, rfl, hown, -, hb⟩
  rw [← strV_nb] at hown
  obtain ⟨A', c', rfl⟩ := own_slice hown
  exact ⟨A', c', rfl, hown, hb⟩
theorem wt_rows {t : Dt} (ht : IsVal t) (hw : t.wt ≤ 1048576) (p : Dt → Bool) : Dt.wt (.lst (t.rw.filter p)) ≤ 1048576 := by
  have h1 := wt_parts ht
  have h2 := wts_filter p t.rw
  simp only [Dt.wt]
  omega
theorem MSt.tbl {w wx : World} {L : List Asn} {cc : List ByteArray} {rs : List Dt} {v5 v6 : Value} {f5 f6 : List Nat} (h : MSt w (owA (.lst (cc.map .str)) [v5] f5 :: owA (.lst rs) [v6] f6 :: L) wx) :
    MSt w (owA (tblD cc rs) [.int .i64 5, .int .i64 0, .int .i64 0, .string ⟨#[]⟩, .slice none 0 0, v5, v6] ([] ++ (f5 ++ f6)) :: L) wx := (MSt.noLst h).value 5 0 0 ⟨#[]⟩

end Go.Proofs.YtabcmnlmmpbmnaaGreat

/-
  A table that is owned, taken apart and put together. (Written by gentab.py.)
-/

namespace Go.Proofs.YtabcmnlmmpbmnaaGreat
open Go.RowKit Go.Maps
set_option linter.unusedVariables false
set_option linter.unusedSimpArgs false

theorem Objs.part {B : Nat} {w : World} {a b c : Asn} {L : List Asn} (h : Objs B w (c :: L)) (h1 : a.holds w) (h2 : b.holds w) (l1 : a.Loc) (l2 : b.Loc) (fa : ∀ k, a.foot k → c.foot k) (fb : ∀ k, b.foot k → c.foot k) (ap : ∀ k, a.foot k → ¬ b.foot k) : Objs B w (a :: b :: L) := by
  have hc := List.pairwise_cons.1 h.2
  have hcc := h.1 c (by simp)
  refine ⟨fun x hx => ?_, List.pairwise_cons.2 ⟨fun x hx => ?_, List.pairwise_cons.2 ⟨fun x hx k hk => hc.1 x hx k (fb k hk), hc.2⟩⟩⟩
  · rcases List.mem_cons.1 hx with rfl | hx
    · exact ⟨h1, l1, fun k hk => hcc.2.2 k (fa k hk)⟩
    · rcases List.mem_cons.1 hx with rfl | hx
      · exact ⟨h2, l2, fun k hk => hcc.2.2 k (fb k hk)⟩
      · exact h.1 x (List.mem_cons_of_mem _ hx)
  · rcases List.mem_cons.1 hx with rfl | hx
    · exact ap
    · exact fun k hk => hc.1 x hx k (fa k hk)
theorem owl_cons {w : World} {x : Dt} {xs : List Dt} {cs : List Value} {fp : List Nat} : OwL w (x :: xs) cs fp ↔ ∃ c1 c2 f1 f2, cs = c1 ++ c2 ∧ fp = f1 ++ f2 ∧ Ow w x c1 f1 ∧ OwL w xs c2 f2 := by rw [OwL]
/-- The first of some trees is a thing of its own. -/
theorem MSt.uncons {w wx : World} {L : List Asn} {x : Dt} {xs : List Dt} {cs : List Value} {fp : List Nat} (h : MSt w (owLA (x :: xs) cs fp :: L) wx) : ∃ c1 c2 f1 f2, cs = c1 ++ c2 ∧ fp = f1 ++ f2 ∧ Ow wx x c1 f1 ∧ MSt w (owA x c1 f1 :: owLA xs c2 f2 :: L) wx := by
  obtain ⟨hh, hnd⟩ := h.1.head
  obtain ⟨c1, c2, f1, f2, rfl, rfl, h1, h2⟩ := owl_cons.1 hh
  have hn := List.nodup_append.1 hnd
  exact ⟨c1, c2, f1, f2, rfl, rfl, h1, h.alter fun o => o.part ⟨h1, hn.1⟩ ⟨h2, hn.2.1⟩ (owA_loc _ _ _) (owLA_loc _ _ _) (fun k hk => List.mem_append.2 (.inl hk)) (fun k hk => List.mem_append.2 (.inr hk)) (fun k hk hk2 => hn.2.2 k hk k hk2 rfl)⟩
theorem MSt.unnil {w wx : World} {L : List Asn} {cs : List Value} {fp : List Nat} (h : MSt w (owLA [] cs fp :: L) wx) : cs = [] ∧ MSt w L wx := by
  obtain ⟨hh, -⟩ := h.1.head
  simp only [OwL] at hh
  exact ⟨hh.1, h.drop⟩
theorem MSt.unagg {w wx : World} {L : List Asn} {fs : List Dt} {cs : List Value} {fp : List Nat} (h : MSt w (owA (.agg fs) cs fp :: L) wx) : MSt w (owLA fs cs fp :: L) wx :=
  h.alter fun o => o.weak (fun h => ⟨by have h1 := h.1; simp only [Ow] at h1; exact h1, h.2⟩) (owLA_loc _ _ _) (fun _ h => h)
theorem ow_lst1 {w : World} {xs : List Dt} {cs : List Value} {fp : List Nat} (h : Ow w (.lst xs) cs fp) : ∃ A c, cs = [.slice A xs.length c] := by
  simp only [Ow] at h
  obtain ⟨A, c, e, k, cells, fp', rfl, -⟩ := h
  exact ⟨A, c, rfl⟩
/-- A list is a row and trees. -/
theorem MSt.unlst {w wx : World} {L : List Asn} {xs : List Dt} {v : Value} {fp : List Nat} (h : MSt w (owA (.lst xs) [v] fp :: L) wx) : ∃ A c e k cells f, v = .slice A xs.length c ∧ MSt w (rowA e k (.slice A xs.length c) xs.length cells :: owLA xs cells f :: L) wx := by
  obtain ⟨hh, hnd⟩ := h.1.head
  simp only [Ow] at hh
  obtain ⟨A, c, e, k, cells, f, he, h1, h2, rfl⟩ := hh
  injection he with he
  have hn := List.nodup_append.1 hnd
  exact ⟨A, c, e, k, cells, f, he, h.alter fun o => o.part h1 ⟨h2, hn.2.1⟩ (rowA_loc _ _ _ _ _) (owLA_loc _ _ _) (fun k hk => List.mem_append.2 (.inl (by have hk : (Value.slice A xs.length c).ownBlock = some k := hk; rw [hk]; simp))) (fun k hk => List.mem_append.2 (.inr hk))
    (fun k hk hk2 => hn.2.2 k (by have hk : (Value.slice A xs.length c).ownBlock = some k := hk; rw [hk]; simp) k hk2 rfl)⟩
/-- A row of a table: its cells stay, its origins are given up. -/
theorem MSt.unrow {w wx : World} {L : List Asn} {a b : List Dt} {cs : List Value} {fp : List Nat} (h : MSt w (owA (.agg [.lst a, .lst b]) cs fp :: L) wx) : ∃ A c s1 f0, cs = [.slice A a.length c, s1] ∧ MSt w (owA (.lst a) [.slice A a.length c] f0 :: L) wx := by
  obtain ⟨c1, c2, f1, f2, rfl, rfl, h1, h2⟩ := h.unagg.uncons
  obtain ⟨A, c, rfl⟩ := ow_lst1 h1
  obtain ⟨c3, c4, f3, f4, rfl, rfl, h3, h4⟩ := h2.swap.uncons
  obtain ⟨A', c', rfl⟩ := ow_lst1 h3
  obtain ⟨rfl, h5⟩ := h4.swap.unnil
  exact ⟨A, c, _, _, rfl, h5.drop⟩
/-- A table taken apart. -/
theorem MSt.untab {w wx : World} {L : List Asn} {t : Dt} {co : List ByteArray} {rs : List Dt} (ht : t = tblD co rs) {cs : List Value} {fp : List Nat} (h : MSt w (owA t cs fp :: L) wx) : ∃ s4 s5 s6 f4 f5 f6, cs = [.int .i64 5, .int .i64 0, .int .i64 0, .string ⟨#[]⟩, s4, s5, s6] ∧ MSt w (owA (.lst rs) [s6] f6 :: owA (.lst (co.map .str)) [s5] f5 :: owA (.lst []) [s4] f4 :: L) wx := by
  subst ht
  obtain ⟨c0, r0, f0, g0, rfl, rfl, h0, k0⟩ := h.unagg.uncons
  simp only [Ow] at h0
  obtain ⟨rfl, rfl⟩ := h0
  obtain ⟨c1, r1, f1, g1, rfl, rfl, h1, k1⟩ := k0.drop.uncons
  simp only [Ow] at h1
  obtain ⟨rfl, rfl⟩ := h1
  obtain ⟨c2, r2, f2, g2, rfl, rfl, h2, k2⟩ := k1.drop.uncons
  simp only [Ow] at h2
  obtain ⟨rfl, rfl⟩ := h2
  obtain ⟨c3, r3, f3, g3, rfl, rfl, h3, k3⟩ := k2.drop.uncons
  simp only [Ow] at h3
  obtain ⟨rfl, rfl⟩ := h3
  obtain ⟨c4, r4, f4, g4, rfl, rfl, h4, k4⟩ := k3.drop.uncons
  obtain ⟨A4, q4, rfl⟩ := ow_lst1 h4
  obtain ⟨c5, r5, f5, g5, rfl, rfl, h5, k5⟩ := k4.swap.uncons
  obtain ⟨A5, q5, rfl⟩ := ow_lst1 h5
  obtain ⟨c6, r6, f6, g6, rfl, rfl, h6, k6⟩ := k5.swap.uncons
  obtain ⟨A6, q6, rfl⟩ := ow_lst1 h6
  obtain ⟨rfl, k7⟩ := k6.swap.unnil
  exact ⟨_, _, _, _, _, _, rfl, k7⟩
/-- A table put together. -/
theorem MSt.retab {w wx : World} {L : List Asn} {co : List ByteArray} {rs : List Dt} {s4 s5 s6 : Value} {f4 f5 f6 : List Nat} (h : MSt w (owA (.lst []) [s4] f4 :: owA (.lst (co.map .str)) [s5] f5 :: owA (.lst rs) [s6] f6 :: L) wx) :
    ∃ fp, MSt w (owA (tblD co rs) [.int .i64 5, .int .i64 0, .int .i64 0, .string ⟨#[]⟩, s4, s5, s6] fp :: L) wx := by
  refine ⟨f4 ++ (f5 ++ f6), h.alter fun o => ?_⟩
  have o1 := Objs.pair (Objs.single (Objs.nth (L1 := [_, _]) (Objs.single (Objs.nth (L1 := [_, _]) o))))
  have o2 := Objs.pair (Objs.single (Objs.swap o1))
  refine Objs.agg (o2.weak (fun h => ⟨?_, h.2⟩) (owLA_loc _ _ _) (fun _ h => h))
  have h1 := h.1
  exact owl_cons.2 ⟨[_], _, [], _, rfl, rfl, by simp [Ow], owl_cons.2 ⟨[_], _, [], _, rfl, rfl, by simp [Ow], owl_cons.2 ⟨[_], _, [], _, rfl, rfl, by simp [Ow], owl_cons.2 ⟨[_], _, [], _, rfl, rfl, by simp [Ow], h1⟩⟩⟩⟩
theorem tbl_eq {t : Dt} (ht : IsVal t) (hk : t.kd = 5) (hs : t.SV) : t = tblD t.co t.rw := by
  have hf : Fine t := ⟨hs, by rw [hk]; decide⟩
  obtain ⟨k, n, s, x, l, c, r, hl, hr⟩ := ht
  obtain ⟨-, rfl, rfl, rfl, rfl⟩ := tab_fine hf hk
  rw [co_mk, rw_mk]
  have hk5 : k = 5 := hk
  subst hk5
  rfl
theorem own_cellAt {w : World} {base : Nat} {e : TypeId} {k g n c : Nat} {xs : List Value} (h : w.ownsRow base e k (.slice (some ⟨g, 0, none⟩) n c) n xs) {p : Nat} {u : Value} (hu : xs[p]? = some u) : w.cell? ⟨g, p, none⟩ = some u ∧ w.frozen? ⟨g, p, none⟩ = false ∧ g < w.heap.size := by
  have h1 := h.cells (g := g) rfl p u hu
  rw [show (⟨g, 0, none⟩ : Addr).add p = ⟨g, 0 + p, none⟩ by unfold Addr.add; split <;> simp_all, Nat.zero_add] at h1
  exact ⟨h1, h.frozenAt p, (h.lt g rfl).2⟩
theorem mid_get {cl cr : List Value} {a b : Value} {j : Nat} (h : cl.length = j * 2) : (cl ++ ([a, b] ++ cr))[j * 2 + 1]? = some b := by
  rw [List.getElem?_append_right (by omega), h, show j * 2 + 1 - j * 2 = 1 by omega]
  rfl
theorem mid_set {cl cr : List Value} {a b u : Value} {j : Nat} (h : cl.length = j * 2) : setsAt (cl ++ ([a, b] ++ cr)) (j * 2 + 1) [u] = (cl ++ [a, u]) ++ cr := by
  have h1 := setsAt_mid [u] [b] (cl ++ [a]) cr rfl
  rw [List.length_append, h] at h1
  simpa using h1

end Go.Proofs.YtabcmnlmmpbmnaaGreat

/-
  The rows for which the closure of RestrictTable says yes. (Written by gentab.py.)
-/

namespace Go.Proofs.YtabcmnlmmpbmnaaGreat
open Go.RowKit Go.Maps
set_option linter.unusedVariables false
set_option linter.unusedSimpArgs false

set_option maxHeartbeats 6400000 in
set_option maxRecDepth 100000 in
theorem withRowsR_any {t : Dt} (ht : IsVal t) (hw : t.wt ≤ 1048576) (p : Dt → Bool) (u0 : Value) (w : World) (A5 : Option Addr) (n5 c5 : Nat) (A6 : Option Addr) (n6 c6 : Nat) (tr : TabR w t A5 n5 c5 A6 n6 c6)
    (hp : ∀ x ∈ t.rw, ∀ (W : World) (cs : List Value), Below w.heap.size w W → Rd W w.heap.size x cs → Calls Tryz.prog 104 #[.agg cs.toArray, u0] W fun e W' => e = .returned (.bool (p x)) ∧ Below W.heap.size W W') :
    Calls Tryz.prog 103 #[.agg #[.slice A5 n5 c5, .slice A6 n6 c6], .func (.func 104) #[] #[u0]] w (ToA w (tblD t.co (t.rw.filter p))) := by
  obtain ⟨hn6, hq6, hx6⟩ := tr.2.lst_len
  subst hn6
  obtain ⟨hn5, hq5, -⟩ := tr.1.lst_len
  rw [List.length_map] at hn5
  subst hn5
  unfold maxLen at hx6
  have hwp := wt_parts ht
  have hr12 : t.rw.length ≤ 1048576 := by omega
  have hc12 : t.co.length ≤ 1048576 := by simp only [Dt.wt, List.length_map] at hwp; omega
  have HTR := Lib.hid tr
  have HP := Lib.hid hp
  have HV := Lib.hid (And.intro ht hw)
  clear tr hp ht hw hwp
  have h0 := ((MSt.start w).new 101 2 #[.slice A5 t.co.length c5, .slice A6 t.rw.length c6] rfl).new 28 7 #[.int .i64 0, .int .i64 0, .int .i64 0, .string ⟨#[]⟩, .slice none 0 0, .slice none 0 0, .slice none 0 0] rfl
  simp only [World.size_alloc] at h0
  have H0 := Lib.hid h0
  clear h0
  have HS := Lib.hid (MSt.nilRow0 H0.out 99 2)
  go_enter Tryz.func103, Tryz.ntmps103
  have hb2 := MSt.box (MSt.nth (L1 := [_]) H0.out)
  have fO0 := hb2.cellAt 0 (by decide)
  have fO1 := hb2.cellAt 1 (by decide)
  have fOlt := (hb2.lt _ rfl).2
  simp only [List.getElem?_cons_zero, List.getElem?_cons_succ] at fO0 fO1
  clear hb2
  go_wp2_with fail
  clear fO0 fO1 fOlt
  go_loopw [5, 11] (fun v i wr => ∃ (j m : Nat) (cl : List Value), j ≤ t.rw.length ∧ i = .int .i64 (j : Int) ∧ m ≤ j ∧ Hid (m = ((t.rw.take j).filter p).length ∧ RdL w w.heap.size ((t.rw.take j).filter p) cl) ∧ Hid (MSt w [rowA 99 2 v m cl, boxA 28 7 (w.heap.size + 1) [.int .i64 0, .int .i64 0, .int .i64 0, .string ⟨#[]⟩, .slice none 0 0, .slice none 0 0, .slice none 0 0], boxA 101 2 w.heap.size [.slice A5 t.co.length c5, .slice A6 t.rw.length c6]] wr)) (fun _ i _ => t.rw.length - (intOf i).toNat)
  case atStart => exact ⟨0, 0, [], Nat.zero_le _, rfl, Nat.le_refl _, Lib.hid ⟨rfl, by simp [RdL]⟩, HS⟩
  case round =>
    obtain ⟨j, m, cl, hj, rfl, hmj, HF, H1⟩ := hrel
    obtain ⟨A3, q3, rfl⟩ := own_slice H1.out.row
    by_cases hlt : j < t.rw.length
    · obtain ⟨b, o, cs, hA6, hbB, hrd, hlen, hcell⟩ := HTR.out.2.at (k := 2) (fun x hx' => (rw_val HV.out.1 x hx').width) (by omega) j hlt
      subst hA6
      obtain ⟨x, hx⟩ : ∃ x, x = t.rw[j] := ⟨_, rfl⟩
      have hxr := rw_val HV.out.1 _ (List.getElem_mem hlt)
      have hxm := List.getElem_mem hlt
      rw [← hx] at hrd hxr hxm
      have HPX := Lib.hid (HP.out x hxm)
      have hfn := filter_next (p := p) hlt
      rw [← hx] at hfn
      obtain ⟨bx, hbx⟩ : ∃ bx, bx = p x := ⟨_, rfl⟩
      rw [← hbx] at hfn HPX
      obtain ⟨ns, os, rfl, hos⟩ := hxr
      obtain ⟨B0, d0, B1, d1, rfl, r0, r1⟩ := Rd.ofRow hrd
      simp only [List.length_map] at hrd
      have HX := Lib.hid (And.intro hrd hfn)
      have h00 := (H1.out.bel.cell (p := ⟨b, o + j * 2 + 0, none⟩) hbB).trans (hcell 0 (by omega))
      have h01 := (H1.out.bel.cell (p := ⟨b, o + j * 2 + 1, none⟩) hbB).trans (hcell 1 (by omega))
      simp only [List.getElem?_cons_zero, List.getElem?_cons_succ, Nat.add_zero, List.length_map] at h00 h01
      have hws := H1.out.size
      have hbl : b < wr.heap.size := by omega
      have hj2 : (j : Int) < (t.rw.length : Int) := by omega
      clear hrd hfn hx hxm hlen hcell r0 r1 hos hbx
      go_wp2_with fail
      clear h00 h01
      have H2 := Lib.hid (H1.out.new 99 2 #[.slice B0 ns.length d0, .slice B1 os.length d1] rfl)
      have hws3 := H2.out.size
      have hb2 := MSt.box H2.out
      have fB0 := hb2.cellAt 0 (by decide)
      have fB1 := hb2.cellAt 1 (by decide)
      have fBlt := (hb2.lt _ rfl).2
      simp only [List.getElem?_cons_zero, List.getElem?_cons_succ] at fB0 fB1
      clear hb2
      first | go_wp2_with fail | skip
      refine (HPX.out _ [.slice B0 ns.length d0, .slice B1 os.length d1] H2.out.bel (HX.out.1.below H2.out.bel)).mono ?_
      rintro e w2 ⟨rfl, hb⟩
      have H3 := Lib.hid (H2.out.later hb)
      clear hb
      clear fB0 fB1 fBlt
      cases bx
      · go_wp2_with fail
        have hnx := HX.out.2
        rw [if_neg (by simp), List.append_nil] at hnx
        exact ⟨⟨j + 1, m, cl, by omega, by simp, by omega, Lib.hid ⟨by rw [hnx]; exact HF.out.1, by rw [hnx]; exact HF.out.2⟩, Lib.hid (MSt.drop H3.out)⟩, by simp [intOf]; omega⟩
      · have hb2 := MSt.box H3.out
        have fB0 := hb2.cellAt 0 (by decide)
        have fB1 := hb2.cellAt 1 (by decide)
        have fBlt := (hb2.lt _ rfl).2
        simp only [List.getElem?_cons_zero, List.getElem?_cons_succ] at fB0 fB1
        clear hb2
        have hsq := H3.out.size
        go_wp2_with (at_builtin; refine appR _ rfl (.tmp 18) (.tmp 20) rfl w.heap.size _ m cl rfl (((MSt.nth (L1 := [_]) H3.out).alloc _).row) (some ⟨_, 0, none⟩) 1 1 _ [.slice B0 ns.length d0, .slice B1 os.length d1] rfl rfl (row_new _ #[.slice B0 ns.length d0, .slice B1 os.length d1] 99) (by intro u hu; simp at hu; rcases hu with rfl | rfl <;> rfl) (by omega) (by simp; omega) ?_; intro v3 w3 hown3 hgr3 hn3)
        have h3 := MSt.subB (((MSt.nth (L1 := [_]) H3.out).alloc (.cells #[.slice B0 ns.length d0, .slice B1 os.length d1] 99)).app hgr3 hown3 hn3.2) (.cons_cons _ (.cons _ (List.Sublist.refl _)))
        have H9 := Lib.hid h3
        clear h3 hown3 hgr3 hn3
        have hnx := HX.out.2
        rw [if_pos (by trivial)] at hnx
        refine ⟨⟨j + 1, m + 1, _, by omega, by simp, by omega, Lib.hid ⟨?_, ?_⟩, H9⟩, by simp [intOf]; omega⟩
        · rw [hnx, List.length_append, ← HF.out.1]; rfl
        · rw [hnx]; exact (RdL.append _ _ _).2 ⟨_, _, rfl, HF.out.2, rdl_1 HX.out.1⟩
    · obtain rfl : j = t.rw.length := by omega
      have hf := HF.out
      rw [List.take_length] at hf
      have hrd := rd_ownk H1.out.row hf.1 ((hf.2.below H1.out.bel).more H1.out.size)
      have HRD := Lib.hid hrd
      have HFL := Lib.hid hf.1
      clear hf hrd HF
      have hb2 := MSt.box (MSt.nth (L1 := [_, _]) H1.out)
      have fO0 := hb2.cellAt 0 (by decide)
      have fO1 := hb2.cellAt 1 (by decide)
      have fOlt := (hb2.lt _ rfl).2
      simp only [List.getElem?_cons_zero, List.getElem?_cons_succ] at fO0 fO1
      clear hb2
      go_wp2_with fail
      clear fO0 fO1 fOlt
      refine (cloneS_any A5 c5 t.co t.co.length rfl w.heap.size _ (HTR.out.1.strs.keep H1.out.bel.block) (by omega)).mono ?_
      rintro e w2 ⟨A7, c7, rfl, hown, hb⟩
      have H2 := Lib.hid (H1.out.add hb (rowA_at hown))
      have HRD2 := Lib.hid ((HRD.out.below hb).more hb.size)
      clear hown hb HRD
      go_wp2_with fail
      refine (cloneRowsN_any (t.rw.filter p) m HFL.out (fun x hx => rw_val HV.out.1 x (List.mem_filter.1 hx).1) (wt_rows HV.out.1 HV.out.2 _) A3 q3 _ HRD2.out).mono ?_
      rintro e w3 ⟨A8, c8, f8, rfl, how, hnf, hb⟩
      have H3 := Lib.hid (H2.out.add hb (owA_at how hnf))
      clear how hnf hb
      go_wp2_with fail
      refine (value5_any 0 0 ⟨#[]⟩ none A7 A8 0 0 t.co.length c7 m c8 _).mono ?_
      rintro e w4 ⟨rfl, hb⟩
      have H4 := Lib.hid (MSt.tbl (((MSt.nth (L1 := [_]) (H3.out.later hb)).close0 (xs := t.co.map .str) (fun w' => OwL.strs w' t.co) (by simp))))
      clear hb
      obtain ⟨fR0, fR1, fR2, fR3, fR4, fR5, fR6, fRlt⟩ := box7 (MSt.box (MSt.nth (L1 := [_, _]) H4.out))
      obtain ⟨zR0, zR1, zR2, zR3, zR4, zR5, zR6⟩ := box7z (MSt.box (MSt.nth (L1 := [_, _]) H4.out))
      go_wp2_with fail
      obtain ⟨W7, hW, hg, y0, y1, y2, y3, y4, y5, y6⟩ := MSt.put (MSt.nth (L1 := [_, _]) H4.out) (.int .i64 5) (.int .i64 0) (.int .i64 0) (.string ⟨#[]⟩) (.slice none 0 0) (.slice A7 t.co.length c7) (.slice A8 m c8)
      rw [← hW]
      refine bodyPost_ret (v := .agg #[.int .i64 5, .int .i64 0, .int .i64 0, .string ⟨#[]⟩, .slice none 0 0, .slice A7 t.co.length c7, .slice A8 m c8]) (by simp [results, Tryz.results103, go_sem, y0, y1, y2, y3, y4, y5, y6]) rfl ((MSt.nth (L1 := [_]) hg).give)

end Go.Proofs.YtabcmnlmmpbmnaaGreat
