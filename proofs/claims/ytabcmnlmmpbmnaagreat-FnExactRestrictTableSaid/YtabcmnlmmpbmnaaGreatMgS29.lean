/-
  Texts that the proof rests on, put together: Orgs, OrgLaw, HasS.
-/
import Derived.Test.YtabcmnlmmpbmnaaGreatMgS28
import Derived.Test.YtabcmnlmmpbmnaaGreatMgS11
import Derived.Test.YtabcmnlmmpbmnaaGreatMgS13
import Derived.Test.YtabcmnlmmpbmnaaGreatMgS6
import Derived.Test.YtabcmnlmmpbmnaaGreatMgS9
import Derived.Test.YtabcmnlmmpbmnaaGreatMgS4
import Derived.Test.YtabcmnlmmpbmnaaGreatMgS10
import Derived.Deep.RegionHeld3
/-
  Rows of origins. (Written by gen8.py.)
-/

namespace Go.Proofs.YtabcmnlmmpbmnaaGreat
open Go.RowKit Go.Lib Go.Sort
set_option linter.unusedVariables false
set_option linter.unusedSimpArgs false

/-- An origin as a datum. -/
def orgP (p : Int × Int) : Dt := .agg [.int p.1, .int p.2]
def orgsD (l : List (Int × Int)) : List Dt := l.map orgP
theorem isOrg_orgP (p : Int × Int) : IsOrg (orgP p) := ⟨p.1, p.2, rfl⟩
theorem orgsD_org (l : List (Int × Int)) : ∀ x ∈ orgsD l, IsOrg x := by
  intro x hx
  obtain ⟨p, _, rfl⟩ := List.mem_map.1 hx
  exact isOrg_orgP p
theorem orgsD_len (l : List (Int × Int)) : (orgsD l).length = l.length := List.length_map _
theorem orgsD_pr : ∀ {os : List Dt}, (∀ x ∈ os, IsOrg x) → orgsD (os.map pr) = os
  | [], _ => rfl
  | x :: os, h => by
    obtain ⟨a, b, rfl⟩ := h x (by simp)
    have ih := orgsD_pr fun y hy => h y (List.mem_cons_of_mem _ hy)
    unfold orgsD at *
    rw [List.map_cons, List.map_cons, ih]
    rfl
theorem pr_orgsD (l : List (Int × Int)) : (orgsD l).map pr = l := by
  unfold orgsD
  rw [List.map_map]
  conv => rhs; rw [← List.map_id l]
  rfl
theorem rdl_orgs {w : World} {B : Nat} : ∀ {l : List (Int × Int)} {cs : List Value}, RdL w B (orgsD l) cs → cs = l.flatMap encO := by
  intro l cs h
  have h1 := h.orgsO (orgsD_org l)
  rw [pr_orgsD] at h1
  exact h1
theorem orgs_rdl (w : World) (B : Nat) : ∀ l : List (Int × Int), RdL w B (orgsD l) (l.flatMap encO)
  | [] => by simp [orgsD, RdL]
  | x :: l => by
    have ih := orgs_rdl w B l
    unfold orgsD at ih ⊢
    rw [List.map_cons, List.flatMap_cons]
    simp only [RdL]
    refine ⟨encO x, _, rfl, ?_, ih⟩
    simp only [orgP, Rd, RdL]
    exact ⟨_, _, rfl, rfl, _, _, rfl, rfl, rfl⟩
theorem orgs_owl (w : World) (l : List (Int × Int)) : OwL w (orgsD l) (l.flatMap encO) [] := OwL.orgs_of (B := 0) (orgsD_org l) (orgs_rdl w 0 l) w
/-- Origins lie in a row below B. -/
abbrev OrgsR (w : World) (B : Nat) (A : Option Addr) (l : List (Int × Int)) : Prop := RowOf w B A (l.flatMap encO)
theorem rd_orgs {w : World} {B : Nat} {l : List (Int × Int)} {A : Option Addr} {n c : Nat} (h : Rd w B (.lst (orgsD l)) [.slice A n c]) : n = l.length ∧ l.length ≤ c ∧ c ≤ maxLen ∧ OrgsR w B A l := by
  obtain ⟨h1, h2, h3⟩ := h.lst_len
  rw [orgsD_len] at h1 h2
  obtain ⟨cells, h4, h5, -⟩ := h.cells (k := 2) fun x hx => (orgsD_org l x hx).width
  rw [rdl_orgs h5] at h4
  exact ⟨h1, h2, h3, h4⟩
theorem rd_orgl {w : World} {B : Nat} {l : List (Int × Int)} {cs : List Value} (h : Rd w B (.lst (orgsD l)) cs) : ∃ A c, cs = [.slice A l.length c] ∧ l.length ≤ c ∧ c ≤ maxLen ∧ OrgsR w B A l := by
  have h1 := h
  simp only [Rd] at h1
  obtain ⟨A, c, _, rfl, -⟩ := h1
  obtain ⟨h2, h3, h4, h5⟩ := rd_orgs h
  rw [orgsD_len]
  exact ⟨A, c, rfl, h3, h4, h5⟩
theorem flatO_at : ∀ (l : List (Int × Int)) (j : Nat) (hj : j < l.length), (l.flatMap encO)[j * 2]? = some (.int .i64 l[j].1) ∧ (l.flatMap encO)[j * 2 + 1]? = some (.int .i64 l[j].2)
  | [], j, h => by simp at h
  | x :: l, 0, _ => by simp [encO]
  | x :: l, j + 1, h => by
    have ih := flatO_at l j (by simpa using h)
    rw [List.flatMap_cons, show (j + 1) * 2 = j * 2 + 2 by omega]
    exact ih
theorem orgs_at {w : World} {B : Nat} {A : Option Addr} {l : List (Int × Int)} (h : OrgsR w B A l) (j : Nat) (hj : j < l.length) :
    ∃ b o, A = some ⟨b, o, none⟩ ∧ b < B ∧ w.cell? ⟨b, o + j * 2, none⟩ = some (.int .i64 l[j].1) ∧ w.cell? ⟨b, o + j * 2 + 1, none⟩ = some (.int .i64 l[j].2) := by
  obtain ⟨h1, h2⟩ := flatO_at l j hj
  obtain ⟨b, o, e, hb, h3⟩ := h _ _ h1
  obtain ⟨b', o', e', hb', h4⟩ := h _ _ h2
  subst e
  simp only [Option.some.injEq, Addr.mk.injEq, and_true] at e'
  obtain ⟨rfl, rfl⟩ := e'
  exact ⟨b, o, rfl, hb, h3, by rw [Nat.add_assoc]; exact h4⟩
theorem row_newG8 (w : World) (cs : Array Value) (t : TypeId) (g : Nat) (hg : g = w.heap.size) : RowOf (w.alloc (.cells cs t)) (g + 1) (some ⟨g, 0, none⟩) cs.toList := by
  subst hg
  exact row_new w cs t
theorem encO_one (l : List (Int × Int)) : ∀ u ∈ l.flatMap encO, u.oneCell' = true := by
  intro u hu
  obtain ⟨x, _, hx⟩ := List.mem_flatMap.1 hu
  simp only [encO, List.mem_cons, List.not_mem_nil, or_false] at hx
  rcases hx with rfl | rfl <;> rfl
/-- A row of origins of the call's own. -/
abbrev orgA (v : Value) (l : List (Int × Int)) : Asn := rowA 96 2 v l.length (l.flatMap encO)
theorem MSt.orgR {w wx : World} {L : List Asn} {A : Option Addr} {n c : Nat} {l : List (Int × Int)} (h : MSt w (orgA (.slice A n c) l :: L) wx) (hn : n = l.length) : OrgsR wx wx.heap.size A l := by
  subst hn
  exact own_row (MSt.row h) fun b hb => ((MSt.row h).lt b hb).2
theorem MSt.orgV {w wx : World} {L : List Asn} {v : Value} {l : List (Int × Int)} (h : MSt w (orgA v l :: L) wx) : ∃ A c, v = .slice A l.length c ∧ l.length ≤ c ∧ c ≤ maxLen := by
  obtain ⟨A, c, rfl⟩ := own_slice (MSt.row h)
  exact ⟨A, c, rfl, own_cap (MSt.row h)⟩
theorem MSt.boxO {w wx : World} {L : List Asn} {g : Nat} {a b : Int} (h : MSt w (boxA 96 2 g [.int .i64 a, .int .i64 b] :: L) wx) : wx.cell? ⟨g, 0, none⟩ = some (.int .i64 a) ∧ wx.cell? ⟨g, 1, none⟩ = some (.int .i64 b) ∧ g < wx.heap.size := by
  have hb := MSt.box h
  have f0 := hb.cellAt 0 (by decide)
  have f1 := hb.cellAt 1 (by decide)
  exact ⟨f0, f1, (hb.lt _ rfl).2⟩
end Go.Proofs.YtabcmnlmmpbmnaaGreat

/-
  Lists of origins that the laws copy and compare. (Written by gen8.py.)
-/

namespace Go.Proofs.YtabcmnlmmpbmnaaGreat
open Go.RowKit Go.Lib Go.Sort
set_option linter.unusedVariables false
set_option linter.unusedSimpArgs false

theorem wt_orgsD (l : List (Int × Int)) : Dt.wt (.lst (orgsD l)) = l.length := by
  simp only [Dt.wt, orgsD_len]
  have : wts (orgsD l) = 0 := wts_orgs _ (orgsD_org l)
  omega
theorem toO_any (l : List (Int × Int)) (hl : l.length ≤ 1048576) (A : Option Addr) (n c : Nat) (hn : n = l.length) (w : World) (h : Rd w w.heap.size (.lst (orgsD l)) [.slice A n c]) :
    Calls Tryz.prog 41 #[.slice A n c] w fun e w' => ∃ A' c' fp, e = .returned (.slice A' l.length c') ∧ Ow w' (.lst (orgsD l)) [.slice A' l.length c'] fp ∧ New w.heap.size fp ∧ Below w.heap.size w w' := by
  subst hn
  have h1 := toOriginS_any A c (orgsD l) w (by rw [orgsD_len]; exact h) (orgsD_org l) (by rw [wt_orgsD]; exact hl)
  rw [orgsD_len] at h1
  refine h1.mono ?_
  rintro e w' ⟨A', c', fp, he, h2, h3, h4⟩
  rw [orgsD_len] at he h2
  exact ⟨A', c', fp, he, h2, h3, h4⟩
theorem eqO_any (l : List (Int × Int)) (A A' : Option Addr) (n n' c c' : Nat) (w : World) (h : Rd w w.heap.size (.lst (orgsD l)) [.slice A n c]) (h' : Rd w w.heap.size (.lst (orgsD l)) [.slice A' n' c']) (hl : l.length ≤ 2097152) :
    Calls Tryz.prog 43 #[.slice A n c, .slice A' n' c'] w fun e w' => e = .returned (.bool true) ∧ Below w.heap.size w w' := by
  obtain ⟨rfl, -⟩ := rd_orgs h
  obtain ⟨rfl, -⟩ := rd_orgs h'
  have h1 := eqOriginS_any A A' c c' (orgsD l) (orgsD l) w (by rw [orgsD_len]; exact h) (by rw [orgsD_len]; exact h') (orgsD_org l) (orgsD_org l) (by rw [orgsD_len]; omega) (by rw [orgsD_len]; omega)
  rw [orgsD_len] at h1
  refine h1.mono ?_
  rintro e w' ⟨b, rfl, hb, h2⟩
  obtain rfl : b = true := hb.2 rfl
  exact ⟨rfl, h2⟩
end Go.Proofs.YtabcmnlmmpbmnaaGreat

/-
  The model looks for origins. (Written by gen8.py.)
-/

namespace Go.Proofs.YtabcmnlmmpbmnaaGreat
open Go.RowKit Go.Lib Go.Sort
set_option linter.unusedVariables false
set_option linter.unusedSimpArgs false

set_option maxHeartbeats 3200000 in
set_option maxRecDepth 100000 in
theorem l8Has_any (l : List (Int × Int)) (hl : l.length ≤ 2097152) (a0 a1 : Int) (A : Option Addr) (n c : Nat) (hn : n = l.length) (w : World) (h : OrgsR w w.heap.size A l) :
    Calls Tryz.prog 144 #[.slice A n c, .agg #[.int .i64 a0, .int .i64 a1]] w (EqP ((a0, a1) ∈ l) w) := by
  subst hn
  have HL := Lib.hid h
  have H0 : Hid (MSt w [boxA 96 2 w.heap.size [.int .i64 a0, .int .i64 a1]] _) := Lib.hid ((MSt.start w).new 96 2 #[.int .i64 a0, .int .i64 a1] rfl)
  clear h
  go_enter Tryz.func144, Tryz.ntmps144
  go_wp2_with fail
  go_loopw [5] (fun i wr => ∃ (j : Nat), j ≤ l.length ∧ i = .int .i64 (j : Int) ∧ Hid ((a0, a1) ∉ l.take j) ∧ Hid (MSt w [boxA 96 2 w.heap.size [.int .i64 a0, .int .i64 a1]] wr)) (fun i _ => l.length - (intOf i).toNat)
  case atStart => exact ⟨0, Nat.zero_le _, rfl, Lib.hid (by simp), H0⟩
  case round =>
    obtain ⟨j, hj, rfl, HE, H1⟩ := hrel
    by_cases hlt : j < l.length
    · obtain ⟨b, o, rfl, hbB, k00, k01⟩ := orgs_at HL.out j hlt
      obtain ⟨x, hx⟩ : ∃ x, x = l[j] := ⟨_, rfl⟩
      rw [← hx] at k00 k01
      obtain ⟨x0, x1⟩ := x
      simp only at k00 k01
      have HX := Lib.hid hx
      have HC0 := Lib.hid (And.intro k00 k01)
      have hli : (j : Int) < (l.length : Int) := by omega
      clear hx k00 k01
      have h00 := ((MSt.bel H1.out).cell (p := ⟨b, o + j * 2, none⟩) hbB).trans HC0.out.1
      have h01 := ((MSt.bel H1.out).cell (p := ⟨b, o + j * 2 + 1, none⟩) hbB).trans HC0.out.2
      have hsz := MSt.size H1.out
      have hbw := Nat.lt_of_lt_of_le hbB hsz
      obtain ⟨fB0, fB1, fBlt⟩ := MSt.boxO H1.out
      have HTK := Lib.hid (show l.take (j + 1) = l.take j ++ [(x0, x1)] by rw [List.take_succ_eq_append_getElem hlt, ← HX.out])
      by_cases he : x0 = a0 ∧ x1 = a1
      · obtain ⟨rfl, rfl⟩ := he
        have ea : (x0 == x0) = true := by simp
        have eb : (x1 == x1) = true := by simp
        go_wp2_with fail
        go_quiet (fail)
        go_wp2_with fail
        go_ret
        exact ⟨true, rfl, iff_of_true rfl (by rw [HX.out]; exact List.getElem_mem hlt), (MSt.drewN H1.out _).bel⟩
      · have hq : (x0 == a0) = false ∨ (x0 == a0) = true ∧ (x1 == a1) = false := by
          by_cases e : x0 = a0
          · exact .inr ⟨by simpa using e, by simp; exact fun e' => he ⟨e, e'⟩⟩
          · exact .inl (by simpa using e)
        have HNE := Lib.hid he
        clear he
        rcases hq with e1 | ⟨e0, e1⟩
        all_goals
          go_wp2_with fail
          go_quiet (fail)
          go_wp2_with fail
          exact ⟨⟨j + 1, by omega, by simp, Lib.hid (by rw [HTK.out]; intro hm; rcases List.mem_append.1 hm with hm | hm; exact HE.out hm; simp only [List.mem_singleton, Prod.mk.injEq] at hm; exact HNE.out ⟨hm.1.symm, hm.2.symm⟩), Lib.hid (MSt.drewN H1.out _)⟩, by simp [intOf]; omega⟩
    · obtain rfl : j = l.length := by omega
      go_wp2_with fail
      go_ret
      refine ⟨false, rfl, iff_of_false (by simp) (fun hm => HE.out ?_), (MSt.bel H1.out)⟩
      rw [List.take_length]
      exact hm

set_option maxHeartbeats 3200000 in
set_option maxRecDepth 100000 in
theorem l8Beneath_any (l k : List (Int × Int)) (hl : l.length ≤ 2097152) (hk : k.length ≤ 2097152) (A A' : Option Addr) (n n' c c' : Nat) (hn : n = l.length) (hn' : n' = k.length) (w : World) (h : OrgsR w w.heap.size A l) (h' : OrgsR w w.heap.size A' k) :
    Calls Tryz.prog 98 #[.slice A n c, .slice A' n' c'] w (EqP (∀ o ∈ l, o ∈ k) w) := by
  subst hn hn'
  have HL := Lib.hid h
  have HK := Lib.hid h'
  have H0 : Hid (MSt w [] w) := Lib.hid (MSt.start w)
  clear h h'
  go_enter Tryz.func98, Tryz.ntmps98
  go_wp2_with fail
  go_loopw [5] (fun i wr => ∃ (j : Nat), j ≤ l.length ∧ i = .int .i64 (j : Int) ∧ Hid (∀ o ∈ l.take j, o ∈ k) ∧ Hid (MSt w [] wr)) (fun i _ => l.length - (intOf i).toNat)
  case atStart => exact ⟨0, Nat.zero_le _, rfl, Lib.hid (by simp), H0⟩
  case round =>
    obtain ⟨j, hj, rfl, HE, H1⟩ := hrel
    by_cases hlt : j < l.length
    · obtain ⟨b, o, rfl, hbB, k00, k01⟩ := orgs_at HL.out j hlt
      obtain ⟨x, hx⟩ : ∃ x, x = l[j] := ⟨_, rfl⟩
      rw [← hx] at k00 k01
      obtain ⟨x0, x1⟩ := x
      simp only at k00 k01
      have HX := Lib.hid hx
      have HC0 := Lib.hid (And.intro k00 k01)
      have hli : (j : Int) < (l.length : Int) := by omega
      clear hx k00 k01
      have h00 := ((MSt.bel H1.out).cell (p := ⟨b, o + j * 2, none⟩) hbB).trans HC0.out.1
      have h01 := ((MSt.bel H1.out).cell (p := ⟨b, o + j * 2 + 1, none⟩) hbB).trans HC0.out.2
      have hsz := MSt.size H1.out
      have hbw := Nat.lt_of_lt_of_le hbB hsz
      have HTK := Lib.hid (show l.take (j + 1) = l.take j ++ [(x0, x1)] by rw [List.take_succ_eq_append_getElem hlt, ← HX.out])
      go_wp2_with fail
      refine (l8Has_any k hk x0 x1 _ _ _ rfl _ ((HK.out.below (MSt.bel H1.out)).more (MSt.size H1.out))).mono ?_
      rintro e w1 ⟨rb, rfl, hb, hbel⟩
      have HBK := Lib.hid hb
      have H2 := Lib.hid (MSt.later H1.out hbel)
      clear hb hbel h00 h01 hsz hbw
      cases rb
      · go_wp2_with fail
        go_ret
        refine ⟨false, rfl, iff_of_false (by simp) (fun hh => ?_), (MSt.bel H2.out)⟩
        have := HBK.out.2 (hh _ (by rw [HX.out]; exact List.getElem_mem hlt))
        simp at this
      · go_wp2_with fail
        exact ⟨⟨j + 1, by omega, by simp, Lib.hid (by rw [HTK.out]; intro o ho; rcases List.mem_append.1 ho with ho | ho; exact HE.out o ho; rw [List.mem_singleton.1 ho]; exact HBK.out.1 (by trivial)), H2⟩, by simp [intOf]; omega⟩
    · obtain rfl : j = l.length := by omega
      go_wp2_with fail
      go_ret
      refine ⟨true, rfl, iff_of_true rfl ?_, (MSt.bel H1.out)⟩
      have h1 := HE.out
      rw [List.take_length] at h1
      exact h1
end Go.Proofs.YtabcmnlmmpbmnaaGreat
