/-
  Texts that the proof rests on, put together: OrgA, Org1.
-/
import Derived.Test.YtdnneilbgekccaaGreatDoorMg30
import Derived.Test.YtdnneilbgekccaaGreatDoorMg32
import Derived.Test.YtdnneilbgekccaaGreatDoorMg33
import Derived.Test.YtdnneilbgekccaaGreatDoorMg13
/-
  The origins of rows, the program's. (Written by gen8.py.)
-/

namespace Go.Proofs.YtdnneilbgekccaaGreatDoor
open Go.RowKit Go.Lib Go.Sort
set_option linter.unusedVariables false
set_option linter.unusedSimpArgs false

theorem slOInfo : (Tryz.prog.info? 36).map (fun i => (i.zero, i.size, i.bytes)) = some (some (.slice none 0 0), 1, 24) := by kernel_rfl
theorem appLo {ops : Array Oper} {rest : List Oper} {o : Oper} {a : Act} {Q : Exit → Act → World → Prop} (w : World) (hgd : o.guard = none) (s x : Operand)
    (ho : o.op = .call { callee := .builtin .append, args := #[s, x], argTypes := #[142, 142] })
    (base : Nat) (v : Value) (n : Nat) (xs : List Value) (hs : a.eval s = v) (hown : w.ownsRow base 36 1 v n xs)
    (A : Option Addr) (m c B : Nat) (news : List Value) (hx : a.eval x = .slice A m c) (hl : news.length = m * 1) (hrow : RowOf w B A news) (h1 : ∀ u ∈ news, u.oneCell' = true)
    (hb : n + m ≤ 4194304) (hbase : base ≤ w.heap.size)
    (h : ∀ v' w', w'.ownsRow base 36 1 v' (n + m) (xs ++ news) → w.grownBy w' v.ownBlock → ((v' = .slice none 0 0 ↔ v = .slice none 0 0 ∧ m = 0) ∧ (v'.ownBlock = v.ownBlock ∨ v'.ownBlock = some w.heap.size)) → wpList Tryz.prog ops Q rest (a.put o.dst v') w') : wpList Tryz.prog ops Q (o :: rest) a w := by
  obtain ⟨i0, hi, hz0, hz1, hz2⟩ := info_parts slOInfo
  exact wpList_plain hgd fun _ hK => wp_append_src w s x 142 ho base 36 i0 _ 1 24 Tryz.underlying142 hi hz0 hz1 hz2 rfl (by decide) v n xs hs hown A m c B news hx hl hrow h1 (by unfold maxLen; omega) (by omega) hbase fun v' w' h2 h3 h4 => hK _ _ (h v' w' h2 h3 h4)
/-- The origins of rows, list by list. -/
def frs (rs : List Dt) : List (List (Int × Int)) := rs.map fun r => r.fr.map pr
theorem frs_len (rs : List Dt) : (frs rs).length = rs.length := List.length_map _
theorem lstsD_snoc (ls : List (List (Int × Int))) (l : List (Int × Int)) : lstsD (ls ++ [l]) = lstsD ls ++ [.lst (orgsD l)] := by simp [lstsD]
theorem frs_next {rs : List Dt} {j : Nat} (hj : j < rs.length) : frs (rs.take (j + 1)) = frs (rs.take j) ++ [rs[j].fr.map pr] := by
  unfold frs
  rw [List.take_succ_eq_append_getElem hj, List.map_append]
  rfl
set_option maxHeartbeats 3200000 in
set_option maxRecDepth 100000 in
theorem originsAll_any (rs : List Dt) (hr : ∀ x ∈ rs, IsRow x) (hw : rs.length ≤ 1048576) (hw2 : (frs rs).flatten.length ≤ 1048576) (A : Option Addr) (n c : Nat) (hn : n = rs.length) (w : World) (h : Rd w w.heap.size (.lst rs) [.slice A n c]) :
    Calls Tryz.prog 100 #[.slice A n c] w fun e w' => ∃ v, e = .returned v ∧ MSt w [orgA v (setO (frs rs).flatten)] w' := by
  subst hn
  have H := Lib.hid (And.intro h hr)
  have H0 : Hid (MSt w [rowA 36 1 (.slice none 0 0) 0 []] w) := Lib.hid ((MSt.start w).nilRow0 36 1)
  clear h hr
  go_enter Tryz.func100, Tryz.ntmps100
  go_wp2_with fail
  go_loopw [3, 8] (fun v i wr => ∃ (j : Nat) (cl : List Value), j ≤ rs.length ∧ i = .int .i64 (j : Int) ∧ Hid (RdL w w.heap.size (lstsD (frs (rs.take j))) cl) ∧ Hid (MSt w [rowA 36 1 v j cl] wr)) (fun _ i _ => rs.length - (intOf i).toNat)
  case atStart => exact ⟨0, [], Nat.zero_le _, rfl, Lib.hid (by simp [frs, lstsD, RdL]), H0⟩
  case round =>
    obtain ⟨j, cl, hj, rfl, HL, H1⟩ := hrel
    obtain ⟨A3, q3, rfl⟩ := own_slice (MSt.row H1.out)
    have hws := H1.out.size
    by_cases hlt : j < rs.length
    · obtain ⟨b, o, cs, rfl, hbB, hrd, hlen, hcell⟩ := H.out.1.at (k := 2) (fun x hx' => (H.out.2 x hx').width) (by omega) j hlt
      have hxr := H.out.2 _ (List.getElem_mem hlt)
      have hnx := frs_next hlt
      generalize rs[j] = x at hrd hxr hnx
      obtain ⟨ns, os, rfl, hos⟩ := hxr
      obtain ⟨B0, d0, B1, d1, rfl, r0, r1⟩ := Rd.ofRow hrd
      have h00 := (H1.out.bel.cell (p := ⟨b, o + j * 2 + 0, none⟩) hbB).trans (hcell 0 (by omega))
      have h01 := (H1.out.bel.cell (p := ⟨b, o + j * 2 + 1, none⟩) hbB).trans (hcell 1 (by omega))
      simp only [List.getElem?_cons_zero, List.getElem?_cons_succ, Nat.add_zero, List.length_map] at h00 h01
      rw [fr_mk] at hnx
      have hrl : RdL w w.heap.size (lstsD (frs (rs.take (j + 1)))) (cl ++ [.slice B1 os.length d1]) := by
        rw [hnx, lstsD_snoc, orgsD_pr hos]
        refine HL.out.app ?_
        simp only [RdL]
        exact ⟨_, [], by simp, r1, rfl⟩
      have HRL := Lib.hid hrl
      have hbw : b < wr.heap.size := by omega
      have hnb : ¬ b = wr.heap.size := by omega
      have hli : (j : Int) < (rs.length : Int) := by omega
      clear hrd hlen hcell hnx r0 r1 hrl hos
      go_wp2_with (at_builtin; refine appLo _ rfl (.tmp 12) (.tmp 15) rfl w.heap.size _ _ _ rfl (MSt.row ((H1.out.alloc _).alloc _)) (some ⟨_, 0, none⟩) 1 1 _ [.slice B1 os.length d1] rfl rfl (row_newG8 _ #[.slice B1 os.length d1] 36 _ (by simp)) (by intro u hu; simp only [List.mem_singleton] at hu; subst hu; rfl) (by omega) (by simp; omega) ?_; intro v3 w3 hown3 hgr3 hn3; obtain ⟨A9, q9, rfl⟩ := own_slice hown3; have h3 := MSt.app ((H1.out.alloc (.cells #[.slice B0 ns.length d0, .slice B1 os.length d1] 38)).alloc (.cells #[.slice B1 os.length d1] 36)) hgr3 hown3 hn3.2; have H3 := Lib.hid h3; clear h3 hown3 hgr3 hn3 h00 h01)
      exact ⟨⟨j + 1, _, by omega, by simp, HRL, H3⟩, by simp [intOf]; omega⟩
    · obtain rfl : j = rs.length := by omega
      have hl := HL.out
      rw [List.take_length] at hl
      obtain ⟨hcap, hmx⟩ := own_cap (MSt.row H1.out)
      have hrd : Rd wr wr.heap.size (.lst (lstsD (frs rs))) [.slice A3 rs.length q3] := by
        simp only [Rd]
        exact ⟨A3, q3, cl, by rw [lstsD_len, frs_len], by rw [lstsD_len, frs_len]; exact hcap, hmx, own_row (MSt.row H1.out) fun b hb => ((MSt.row H1.out).lt b hb).2, (hl.below H1.out.bel).more hws⟩
      have HRD := Lib.hid hrd
      clear hrd hl
      go_wp2_with fail
      refine (setOf_any (frs rs) (by rw [frs_len]; exact hw) hw2 A3 rs.length q3 (frs_len rs).symm _ HRD.out).mono ?_
      rintro e w2 ⟨v, rfl, h2⟩
      have H2 := Lib.hid (MSt.subB (M := [orgA v (setO (frs rs).flatten)]) (MSt.trans H1.out h2) (.cons_cons _ (List.nil_sublist _)))
      clear h2
      have hfd := field_set (.func (.func 103) #[] #[]) v
      go_wp2_with fail
      go_ret
      exact ⟨_, rfl, H2.out⟩
end Go.Proofs.YtdnneilbgekccaaGreatDoor

/-
  The origins of one row, the program's. (Written by gen8.py.)
-/

namespace Go.Proofs.YtdnneilbgekccaaGreatDoor
open Go.RowKit Go.Lib Go.Sort
set_option linter.unusedVariables false
set_option linter.unusedSimpArgs false

theorem originsOne_any {ns : List Int} {os : List Dt} {m : Nat} (hr : RowOkP m ns os) (hos : ∀ x ∈ os, IsOrg x) (ho : os.length ≤ 1048576) (A : Option Addr) (c : Nat) (w : World) (h : Rd w w.heap.size (.lst [.agg [.lst (ns.map .int), .lst os]]) [.slice A 1 c]) :
    Calls Tryz.prog 100 #[.slice A 1 c] w fun e w' => ∃ A' c' fp, e = .returned (.slice A' os.length c') ∧ Ow w' (.lst os) [.slice A' os.length c'] fp ∧ New w.heap.size fp ∧ Below w.heap.size w w' := by
  have hf : (frs [Dt.agg [.lst (ns.map .int), .lst os]]).flatten = os.map pr := by simp [frs, fr_mk]
  refine (originsAll_any [.agg [.lst (ns.map .int), .lst os]] (by intro x hx; simp at hx; subst hx; exact ⟨ns, os, rfl, hos⟩) (by simp) (by rw [hf]; simpa using ho) A 1 c rfl w h).mono ?_
  rintro e w' ⟨v, rfl, h1⟩
  rw [hf, setO_self (pair_org hr.2.1)] at h1
  obtain ⟨A', c', rfl, -, -⟩ := MSt.orgV h1
  have h2 := MSt.orgOw h1
  rw [orgsD_pr hos] at h2
  rw [List.length_map] at h2 ⊢
  exact ⟨A', c', _, rfl, h2.objs.out.1, h2.objs.out.2, h2.bel⟩
end Go.Proofs.YtdnneilbgekccaaGreatDoor
