/-
  Texts that the proof rests on, put together: OrgA, OrgsI, OrgsS.
-/
import Derived.Test.YtdnneilbgekccabMg24
import Derived.Test.YtdnneilbgekccabMg17
import Derived.Test.YtdnneilbgekccabMg6
import Derived.Test.YtdnneilbgekccabMg19
/-
  The origins of rows, the program's. (Written by gen8.py.)
-/

namespace Go.Proofs.Ytdnneilbgekccab
open Go.RowKit Go.Lib Go.Sort
set_option linter.unusedVariables false
set_option linter.unusedSimpArgs false

theorem slOInfo : (Try.prog.info? 24).map (fun i => (i.zero, i.size, i.bytes)) = some (some (.slice none 0 0), 1, 24) := by kernel_rfl
theorem appLo {ops : Array Oper} {rest : List Oper} {o : Oper} {a : Act} {Q : Exit → Act → World → Prop} (w : World) (hgd : o.guard = none) (s x : Operand)
    (ho : o.op = .call { callee := .builtin .append, args := #[s, x], argTypes := #[75, 75] })
    (base : Nat) (v : Value) (n : Nat) (xs : List Value) (hs : a.eval s = v) (hown : w.ownsRow base 24 1 v n xs)
    (A : Option Addr) (m c B : Nat) (news : List Value) (hx : a.eval x = .slice A m c) (hl : news.length = m * 1) (hrow : RowOf w B A news) (h1 : ∀ u ∈ news, u.oneCell' = true)
    (hb : n + m ≤ 4194304) (hbase : base ≤ w.heap.size)
    (h : ∀ v' w', w'.ownsRow base 24 1 v' (n + m) (xs ++ news) → w.grownBy w' v.ownBlock → ((v' = .slice none 0 0 ↔ v = .slice none 0 0 ∧ m = 0) ∧ (v'.ownBlock = v.ownBlock ∨ v'.ownBlock = some w.heap.size)) → wpList Try.prog ops Q rest (a.put o.dst v') w') : wpList Try.prog ops Q (o :: rest) a w := by
  obtain ⟨i0, hi, hz0, hz1, hz2⟩ := info_parts slOInfo
  exact wpList_plain hgd fun _ hK => wp_append_src w s x 75 ho base 24 i0 _ 1 24 Try.underlying75 hi hz0 hz1 hz2 rfl (by decide) v n xs hs hown A m c B news hx hl hrow h1 (by unfold maxLen; omega) (by omega) hbase fun v' w' h2 h3 h4 => hK _ _ (h v' w' h2 h3 h4)
/-- The origins of rows, list by list. -/
def frs (rs : List Dt) : List (List (Int × Int)) := rs.map fun r => r.fr.map pr
theorem frs_len (rs : List Dt) : (frs rs).length = rs.length := List.length_map _
theorem frs_wt : ∀ rs : List Dt, (∀ x ∈ rs, IsRow x) → (frs rs).flatten.length ≤ wts rs
  | [], _ => by simp [frs, wts]
  | x :: rs, h => by
    have ih := frs_wt rs fun y hy => h y (List.mem_cons_of_mem _ hy)
    obtain ⟨ns, os, rfl, -⟩ := h x (by simp)
    unfold frs at *
    simp only [List.map_cons, List.flatten_cons, List.length_append, List.length_map, wts, Dt.wt, fr_mk]
    omega
theorem lstsD_snoc (ls : List (List (Int × Int))) (l : List (Int × Int)) : lstsD (ls ++ [l]) = lstsD ls ++ [.lst (orgsD l)] := by simp [lstsD]
theorem frs_next {rs : List Dt} {j : Nat} (hj : j < rs.length) : frs (rs.take (j + 1)) = frs (rs.take j) ++ [rs[j].fr.map pr] := by
  unfold frs
  rw [List.take_succ_eq_append_getElem hj, List.map_append]
  rfl
set_option maxHeartbeats 3200000 in
set_option maxRecDepth 100000 in
theorem originsAll_any (rs : List Dt) (hr : ∀ x ∈ rs, IsRow x) (hw : rs.length ≤ 1048576) (hw2 : (frs rs).flatten.length ≤ 1048576) (A : Option Addr) (n c : Nat) (hn : n = rs.length) (w : World) (h : Rd w w.heap.size (.lst rs) [.slice A n c]) :
    Calls Try.prog 35 #[.slice A n c] w fun e w' => ∃ v, e = .returned v ∧ MSt w [orgA v (setO (frs rs).flatten)] w' := by
  subst hn
  have H := Lib.hid (And.intro h hr)
  have H0 : Hid (MSt w [rowA 24 1 (.slice none 0 0) 0 []] w) := Lib.hid ((MSt.start w).nilRow0 24 1)
  clear h hr
  go_enter Try.func35, Try.ntmps35
  go_wp2_with fail
  go_loopw [3, 8] (fun v i wr => ∃ (j : Nat) (cl : List Value), j ≤ rs.length ∧ i = .int .i64 (j : Int) ∧ Hid (RdL w w.heap.size (lstsD (frs (rs.take j))) cl) ∧ Hid (MSt w [rowA 24 1 v j cl] wr)) (fun _ i _ => rs.length - (intOf i).toNat)
  case atStart => exact ⟨0, [], Nat.zero_le _, rfl, Lib.hid (by simp [frs, lstsD, RdL]), H0⟩
  case round =>
    obtain ⟨j, cl, hj, rfl, HL, H1⟩ := hrel
    obtain ⟨A3, q3, rfl⟩ := own_slice (MSt.row H1.out)
    have hws := H1.out.size
    by_cases hlt : j < rs.length
    · obtain ⟨b, o, cs, rfl, hbB, hrd, hlen, hcell⟩ := H.out.1.at (k := 2) (fun x hx' => (H.out.2 x hx').width) (by omega) j hlt
      have hxr := H.out.2 _ (List.getElem_mem hlt)
      have hnx := frs_next hlt
      generalize rs[j] = x at hrd hxr hnx
      obtain ⟨ns, os, rfl, hos⟩ := hxr
      obtain ⟨B0, d0, B1, d1, rfl, r0, r1⟩ := Rd.ofRow hrd
      have h00 := (H1.out.bel.cell (p := ⟨b, o + j * 2 + 0, none⟩) hbB).trans (hcell 0 (by omega))
      have h01 := (H1.out.bel.cell (p := ⟨b, o + j * 2 + 1, none⟩) hbB).trans (hcell 1 (by omega))
      simp only [List.getElem?_cons_zero, List.getElem?_cons_succ, Nat.add_zero, List.length_map] at h00 h01
      rw [fr_mk] at hnx
      have hrl : RdL w w.heap.size (lstsD (frs (rs.take (j + 1)))) (cl ++ [.slice B1 os.length d1]) := by
        rw [hnx, lstsD_snoc, orgsD_pr hos]
        refine HL.out.app ?_
        simp only [RdL]
        exact ⟨_, [], by simp, r1, rfl⟩
      have HRL := Lib.hid hrl
      have hbw : b < wr.heap.size := by omega
      have hnb : ¬ b = wr.heap.size := by omega
      have hli : (j : Int) < (rs.length : Int) := by omega
      clear hrd hlen hcell hnx r0 r1 hrl hos
      go_wp2_with (at_builtin; refine appLo _ rfl (.tmp 12) (.tmp 15) rfl w.heap.size _ _ _ rfl (MSt.row ((H1.out.alloc _).alloc _)) (some ⟨_, 0, none⟩) 1 1 _ [.slice B1 os.length d1] rfl rfl (row_newG8 _ #[.slice B1 os.length d1] 24 _ (by simp)) (by intro u hu; simp only [List.mem_singleton] at hu; subst hu; rfl) (by omega) (by simp; omega) ?_; intro v3 w3 hown3 hgr3 hn3; obtain ⟨A9, q9, rfl⟩ := own_slice hown3; have h3 := MSt.app ((H1.out.alloc (.cells #[.slice B0 ns.length d0, .slice B1 os.length d1] 64)).alloc (.cells #[.slice B1 os.length d1] 24)) hgr3 hown3 hn3.2; have H3 := Lib.hid h3; clear h3 hown3 hgr3 hn3 h00 h01)
      exact ⟨⟨j + 1, _, by omega, by simp, HRL, H3⟩, by simp [intOf]; omega⟩
    · obtain rfl : j = rs.length := by omega
      have hl := HL.out
      rw [List.take_length] at hl
      obtain ⟨hcap, hmx⟩ := own_cap (MSt.row H1.out)
      have hrd : Rd wr wr.heap.size (.lst (lstsD (frs rs))) [.slice A3 rs.length q3] := by
        simp only [Rd]
        exact ⟨A3, q3, cl, by rw [lstsD_len, frs_len], by rw [lstsD_len, frs_len]; exact hcap, hmx, own_row (MSt.row H1.out) fun b hb => ((MSt.row H1.out).lt b hb).2, (hl.below H1.out.bel).more hws⟩
      have HRD := Lib.hid hrd
      clear hrd hl
      go_wp2_with fail
      refine (setOf_any (frs rs) (by rw [frs_len]; exact hw) hw2 A3 rs.length q3 (frs_len rs).symm _ HRD.out).mono ?_
      rintro e w2 ⟨v, rfl, h2⟩
      have H2 := Lib.hid (MSt.subB (M := [orgA v (setO (frs rs).flatten)]) (MSt.trans H1.out h2) (.cons_cons _ (List.nil_sublist _)))
      clear h2
      have hfd := field_set (.func (.func 27) #[] #[]) v
      go_wp2_with fail
      go_ret
      exact ⟨_, rfl, H2.out⟩
end Go.Proofs.Ytdnneilbgekccab

/-
  OriginsOf, the program's. (Written by gen8.py.)
-/

namespace Go.Proofs.Ytdnneilbgekccab
open Go.RowKit Go.Lib Go.Sort
set_option linter.unusedVariables false
set_option linter.unusedSimpArgs false

set_option maxHeartbeats 3200000 in
set_option maxRecDepth 100000 in
theorem implOrigins_any {a : Dt} (ha : IsVal a) (hwt : a.wt ≤ 1048576) (U : List (Int × Int)) (hU : U = setO (frs a.rw).flatten) (cs : List Value) (w : World) (h : Rd w w.heap.size a cs) :
    Calls Try.prog 16 #[.agg cs.toArray] w fun e w' => ∃ v, e = .returned v ∧ MSt w [orgA v U] w' := by
  have hwp := wt_parts8 ha
  have hrv := rw_val8 ha
  have HR := Lib.hid (And.intro hrv (And.intro (frs_wt a.rw hrv) hU))
  obtain ⟨y0, y1, y2, y3, y4, n4, c4, y5, n5, c5, y6, n6, c6, rfl⟩ := ha.form h
  have hr6 := rd_rows8 ha h
  obtain ⟨hn6, -, -⟩ := hr6.lst_len
  subst hn6
  have HRD := Lib.hid hr6
  have hlen : a.rw.length ≤ 1048576 := by omega
  have hwr : wts a.rw ≤ 1048576 := by omega
  have H0 := Lib.hid ((MSt.start w).new 40 7 #[.int .i64 y0, .int .i64 y1, .int .i64 y2, .string y3, .slice y4 n4 c4, .slice y5 n5 c5, .slice y6 a.rw.length c6] rfl)
  clear ha h hwt hwp hrv hr6 hU
  go_enter Try.func16, Try.ntmps16
  go_wp2_with fail
  refine (originsAll_any a.rw HR.out.1 hlen (Nat.le_trans HR.out.2.1 hwr) y6 _ c6 rfl _ ((HRD.out.below (MSt.bel H0.out)).more (MSt.size H0.out))).mono ?_
  rintro e w1 ⟨v, rfl, h1⟩
  rw [← HR.out.2.2] at h1
  have H1 := Lib.hid (MSt.subB (M := [orgA v U]) (MSt.trans H0.out h1) (.cons_cons _ (List.nil_sublist _)))
  clear h1
  go_wp2_with fail
  go_ret
  exact ⟨_, rfl, H1.out⟩
end Go.Proofs.Ytdnneilbgekccab

/-
  OriginsOf, the model's. (Written by gen8.py.)
-/

namespace Go.Proofs.Ytdnneilbgekccab
open Go.RowKit Go.Lib Go.Sort
set_option linter.unusedVariables false
set_option linter.unusedSimpArgs false

theorem wts_take_le : ∀ (rs : List Dt) (j : Nat), wts (rs.take j) ≤ wts rs
  | [], j => by simp [wts]
  | x :: rs, 0 => by simp [wts]
  | x :: rs, j + 1 => by
    have := wts_take_le rs j
    simp only [List.take_succ_cons, wts]
    omega
set_option maxHeartbeats 3200000 in
set_option maxRecDepth 100000 in
theorem specOrigins_any {a : Dt} (ha : IsVal a) (hwt : a.wt ≤ 1048576) (U : List (Int × Int)) (hU : U = setO (frs a.rw).flatten) (cs : List Value) (w : World) (h : Rd w w.heap.size a cs) :
    Calls Try.prog 14 #[.agg cs.toArray] w fun e w' => ∃ v, e = .returned v ∧ MSt w [orgA v U] w' := by
  have hwp := wt_parts8 ha
  have hrv := rw_val8 ha
  have HR := Lib.hid (And.intro hrv (And.intro (frs_wt a.rw hrv) hU))
  obtain ⟨y0, y1, y2, y3, y4, n4, c4, y5, n5, c5, y6, n6, c6, rfl⟩ := ha.form h
  have hr6 := rd_rows8 ha h
  obtain ⟨hn6, -, -⟩ := hr6.lst_len
  subst hn6
  have HRD := Lib.hid hr6
  have hlen : a.rw.length ≤ 1048576 := by omega
  have hwr : wts a.rw ≤ 1048576 := by omega
  have H0 := Lib.hid ((MSt.start w).new 40 7 #[.int .i64 y0, .int .i64 y1, .int .i64 y2, .string y3, .slice y4 n4 c4, .slice y5 n5 c5, .slice y6 a.rw.length c6] rfl)
  clear ha h hwt hwp hrv hr6 hU
  go_enter Try.func14, Try.ntmps14
  have h1 := MSt.row_lit H0.out 49 2 0 #[] (by unfold maxLen; omega) rfl
  simp only [World.size_alloc] at h1
  have H1 : Hid (MSt w [orgA (.slice (some ⟨w.heap.size + 1, 0, none⟩) 0 0) (setO (frs (a.rw.take 0)).flatten), boxA 40 7 w.heap.size [.int .i64 y0, .int .i64 y1, .int .i64 y2, .string y3, .slice y4 n4 c4, .slice y5 n5 c5, .slice y6 a.rw.length c6]] _) := Lib.hid h1
  clear H0 h1
  go_wp2_with fail
  go_loopw [3, 4] (fun v i wr => ∃ (j : Nat), j ≤ a.rw.length ∧ i = .int .i64 (j : Int) ∧ Hid (MSt w [orgA v (setO (frs (a.rw.take j)).flatten), boxA 40 7 w.heap.size [.int .i64 y0, .int .i64 y1, .int .i64 y2, .string y3, .slice y4 n4 c4, .slice y5 n5 c5, .slice y6 a.rw.length c6]] wr)) (fun _ i _ => a.rw.length - (intOf i).toNat)
  case atStart => exact ⟨0, Nat.zero_le _, rfl, H1⟩
  case round =>
    clear H1
    obtain ⟨j, hj, rfl, H1⟩ := hrel
    obtain ⟨A3, q3, rfl, -, -⟩ := MSt.orgV H1.out
    obtain ⟨fB0, fB1, fB2, fB3, fB4, fB5, fB6, fBlt⟩ := box7 (MSt.box (MSt.nth (L1 := [_]) H1.out))
    by_cases hlt : j < a.rw.length
    · obtain ⟨b, o, cs, hA6, hbB, hrd, hlen2, hcell⟩ := HRD.out.at (k := 2) (fun x hx' => (HR.out.1 x hx').width) (by omega) j hlt
      have hxr := HR.out.1 _ (List.getElem_mem hlt)
      have hwx := wts_mem (List.getElem_mem hlt)
      have hnx := frs_next hlt
      generalize a.rw[j] = x at hrd hxr hnx hwx
      obtain ⟨ns, os, rfl, hos⟩ := hxr
      obtain ⟨B0, d0, B1, d1, rfl, r0, r1⟩ := Rd.ofRow hrd
      have h00 := (H1.out.bel.cell (p := ⟨b, o + j * 2 + 0, none⟩) hbB).trans (hcell 0 (by omega))
      have h01 := (H1.out.bel.cell (p := ⟨b, o + j * 2 + 1, none⟩) hbB).trans (hcell 1 (by omega))
      simp only [List.getElem?_cons_zero, List.getElem?_cons_succ, Nat.add_zero, List.length_map] at h00 h01
      rw [fr_mk] at hnx
      have hsl := setO_len (frs (a.rw.take j)).flatten
      have hfl := frs_wt (a.rw.take j) (fun y hy => HR.out.1 y (List.mem_of_mem_take hy))
      have hwl := wts_take_le a.rw j
      have hosl := size_in8 hwx
      have hnn : setO (frs (a.rw.take (j + 1))).flatten = setO (setO (frs (a.rw.take j)).flatten ++ os.map pr) := by rw [hnx, List.flatten_append, setO_app]; simp
      have HN := Lib.hid hnn
      have hor := rd_orgs (l := os.map pr) (by rw [orgsD_pr hos]; exact r1)
      have HO := Lib.hid hor.2.2.2
      have hsz := MSt.size H1.out
      have hbw := Nat.lt_of_lt_of_le hbB hsz
      have hli : (j : Int) < (a.rw.length : Int) := by omega
      have hSl : (setO (frs (a.rw.take j)).flatten).length ≤ 1048576 := by omega
      generalize hS : setO (frs (a.rw.take j)).flatten = S at *
      subst hA6
      clear hrd hlen2 hcell hnx r0 r1 hnn hor hS hwx hsl hfl hwl
      go_wp2_with fail
      refine (specUnion_any S (os.map pr) (by simp; omega) A3 B1 S.length os.length q3 d1 rfl (by simp) _ (MSt.orgR H1.out rfl) ((HO.out.below (MSt.bel H1.out)).more hsz)).mono ?_
      rintro e w1 ⟨v, rfl, h2⟩
      rw [← HN.out] at h2
      have H2 := Lib.hid (MSt.subB (M := [orgA v (setO (frs (a.rw.take (j + 1))).flatten), _]) (MSt.trans H1.out h2) (.cons_cons _ (.cons _ (List.Sublist.refl _))))
      clear h2 h00 h01 fB0 fB1 fB2 fB3 fB4 fB5 fB6 fBlt
      go_wp2_with fail
      exact ⟨⟨j + 1, by omega, by simp, H2⟩, by simp [intOf]; omega⟩
    · obtain rfl : j = a.rw.length := by omega
      go_wp2_with fail
      go_ret
      refine ⟨_, rfl, ?_⟩
      rw [show U = setO (frs (a.rw.take a.rw.length)).flatten by rw [List.take_length]; exact HR.out.2.2]
      exact MSt.drop (MSt.nth (L1 := [_]) H1.out)
end Go.Proofs.Ytdnneilbgekccab
