/-
  Texts that the proof rests on, put together: Orgs, HasS, PutS, UniS.
-/
import Derived.Test.YtooghbejbjfakaaGreatMgA24
import Derived.Test.YtooghbejbjfakaaGreatMgA10
import Derived.Test.YtooghbejbjfakaaGreatMgA13
import Derived.Test.YtooghbejbjfakaaGreatMgA7
import Derived.Test.YtooghbejbjfakaaGreatMgA8
import Derived.Deep.RegionHeld3
/-
  Rows of origins. (Written by gen8.py.)
-/

namespace Go.Proofs.YtooghbejbjfakaaGreat
open Go.RowKit Go.Lib Go.Sort
set_option linter.unusedVariables false
set_option linter.unusedSimpArgs false

/-- An origin as a datum. -/
def orgP (p : Int × Int) : Dt := .agg [.int p.1, .int p.2]
def orgsD (l : List (Int × Int)) : List Dt := l.map orgP
theorem isOrg_orgP (p : Int × Int) : IsOrg (orgP p) := ⟨p.1, p.2, rfl⟩
theorem orgsD_org (l : List (Int × Int)) : ∀ x ∈ orgsD l, IsOrg x := by
  intro x hx
  obtain ⟨p, _, rfl⟩ := List.mem_map.1 hx
  exact isOrg_orgP p
theorem orgsD_len (l : List (Int × Int)) : (orgsD l).length = l.length := List.length_map _
theorem orgsD_pr : ∀ {os : List Dt}, (∀ x ∈ os, IsOrg x) → orgsD (os.map pr) = os
  | [], _ => rfl
  | x :: os, h => by
    obtain ⟨a, b, rfl⟩ := h x (by simp)
    have ih := orgsD_pr fun y hy => h y (List.mem_cons_of_mem _ hy)
    unfold orgsD at *
    rw [List.map_cons, List.map_cons, ih]
    rfl
theorem pr_orgsD (l : List (Int × Int)) : (orgsD l).map pr = l := by
  unfold orgsD
  rw [List.map_map]
  conv => rhs; rw [← List.map_id l]
  rfl
theorem rdl_orgs {w : World} {B : Nat} : ∀ {l : List (Int × Int)} {cs : List Value}, RdL w B (orgsD l) cs → cs = l.flatMap encO := by
  intro l cs h
  have h1 := h.orgsO (orgsD_org l)
  rw [pr_orgsD] at h1
  exact h1
theorem orgs_rdl (w : World) (B : Nat) : ∀ l : List (Int × Int), RdL w B (orgsD l) (l.flatMap encO)
  | [] => by simp [orgsD, RdL]
  | x :: l => by
    have ih := orgs_rdl w B l
    unfold orgsD at ih ⊢
    rw [List.map_cons, List.flatMap_cons]
    simp only [RdL]
    refine ⟨encO x, _, rfl, ?_, ih⟩
    simp only [orgP, Rd, RdL]
    exact ⟨_, _, rfl, rfl, _, _, rfl, rfl, rfl⟩
theorem orgs_owl (w : World) (l : List (Int × Int)) : OwL w (orgsD l) (l.flatMap encO) [] := OwL.orgs_of (B := 0) (orgsD_org l) (orgs_rdl w 0 l) w
/-- Origins lie in a row below B. -/
abbrev OrgsR (w : World) (B : Nat) (A : Option Addr) (l : List (Int × Int)) : Prop := RowOf w B A (l.flatMap encO)
theorem rd_orgs {w : World} {B : Nat} {l : List (Int × Int)} {A : Option Addr} {n c : Nat} (h : Rd w B (.lst (orgsD l)) [.slice A n c]) : n = l.length ∧ l.length ≤ c ∧ c ≤ maxLen ∧ OrgsR w B A l := by
  obtain ⟨h1, h2, h3⟩ := h.lst_len
  rw [orgsD_len] at h1 h2
  obtain ⟨cells, h4, h5, -⟩ := h.cells (k := 2) fun x hx => (orgsD_org l x hx).width
  rw [rdl_orgs h5] at h4
  exact ⟨h1, h2, h3, h4⟩
theorem rd_orgl {w : World} {B : Nat} {l : List (Int × Int)} {cs : List Value} (h : Rd w B (.lst (orgsD l)) cs) : ∃ A c, cs = [.slice A l.length c] ∧ l.length ≤ c ∧ c ≤ maxLen ∧ OrgsR w B A l := by
  have h1 := h
  simp only [Rd] at h1
  obtain ⟨A, c, _, rfl, -⟩ := h1
  obtain ⟨h2, h3, h4, h5⟩ := rd_orgs h
  rw [orgsD_len]
  exact ⟨A, c, rfl, h3, h4, h5⟩
theorem flatO_at : ∀ (l : List (Int × Int)) (j : Nat) (hj : j < l.length), (l.flatMap encO)[j * 2]? = some (.int .i64 l[j].1) ∧ (l.flatMap encO)[j * 2 + 1]? = some (.int .i64 l[j].2)
  | [], j, h => by simp at h
  | x :: l, 0, _ => by simp [encO]
  | x :: l, j + 1, h => by
    have ih := flatO_at l j (by simpa using h)
    rw [List.flatMap_cons, show (j + 1) * 2 = j * 2 + 2 by omega]
    exact ih
theorem orgs_at {w : World} {B : Nat} {A : Option Addr} {l : List (Int × Int)} (h : OrgsR w B A l) (j : Nat) (hj : j < l.length) :
    ∃ b o, A = some ⟨b, o, none⟩ ∧ b < B ∧ w.cell? ⟨b, o + j * 2, none⟩ = some (.int .i64 l[j].1) ∧ w.cell? ⟨b, o + j * 2 + 1, none⟩ = some (.int .i64 l[j].2) := by
  obtain ⟨h1, h2⟩ := flatO_at l j hj
  obtain ⟨b, o, e, hb, h3⟩ := h _ _ h1
  obtain ⟨b', o', e', hb', h4⟩ := h _ _ h2
  subst e
  simp only [Option.some.injEq, Addr.mk.injEq, and_true] at e'
  obtain ⟨rfl, rfl⟩ := e'
  exact ⟨b, o, rfl, hb, h3, by rw [Nat.add_assoc]; exact h4⟩
theorem encO_one (l : List (Int × Int)) : ∀ u ∈ l.flatMap encO, u.oneCell' = true := by
  intro u hu
  obtain ⟨x, _, hx⟩ := List.mem_flatMap.1 hu
  simp only [encO, List.mem_cons, List.not_mem_nil, or_false] at hx
  rcases hx with rfl | rfl <;> rfl
theorem flatO_snoc (l : List (Int × Int)) (x : Int × Int) : (l ++ [x]).flatMap encO = l.flatMap encO ++ [.int .i64 x.1, .int .i64 x.2] := by
  rw [List.flatMap_append]
  rfl
/-- A row of origins of the call's own. -/
abbrev orgA (v : Value) (l : List (Int × Int)) : Asn := rowA 56 2 v l.length (l.flatMap encO)
theorem MSt.orgR {w wx : World} {L : List Asn} {A : Option Addr} {n c : Nat} {l : List (Int × Int)} (h : MSt w (orgA (.slice A n c) l :: L) wx) (hn : n = l.length) : OrgsR wx wx.heap.size A l := by
  subst hn
  exact own_row (MSt.row h) fun b hb => ((MSt.row h).lt b hb).2
theorem MSt.orgV {w wx : World} {L : List Asn} {v : Value} {l : List (Int × Int)} (h : MSt w (orgA v l :: L) wx) : ∃ A c, v = .slice A l.length c ∧ l.length ≤ c ∧ c ≤ maxLen := by
  obtain ⟨A, c, rfl⟩ := own_slice (MSt.row h)
  exact ⟨A, c, rfl, own_cap (MSt.row h)⟩
theorem MSt.orgOw {w wx : World} {L : List Asn} {v : Value} {l : List (Int × Int)} (h : MSt w (orgA v l :: L) wx) : MSt w (owA (.lst (orgsD l)) [v] v.ownBlock.toList :: L) wx :=
  MSt.close0 h (fun w' => orgs_owl w' l) (orgsD_len l).symm
/-- One more origin. -/
theorem MSt.orgApp {w wx wy : World} {L : List Asn} {v v' : Value} {l : List (Int × Int)} {x : Int × Int} (h : MSt w (orgA v l :: L) wx) (hg : wx.grownBy wy v.ownBlock) (ho : wy.ownsRow w.heap.size 56 2 v' (l.length + 1) (l.flatMap encO ++ [.int .i64 x.1, .int .i64 x.2]))
    (hb : v'.ownBlock = v.ownBlock ∨ v'.ownBlock = some wx.heap.size) : MSt w (orgA v' (l ++ [x]) :: L) wy := by
  have h1 := MSt.app h hg ho hb
  rw [← flatO_snoc, show l.length + 1 = (l ++ [x]).length by simp] at h1
  exact h1
theorem MSt.boxO {w wx : World} {L : List Asn} {g : Nat} {a b : Int} (h : MSt w (boxA 56 2 g [.int .i64 a, .int .i64 b] :: L) wx) : wx.cell? ⟨g, 0, none⟩ = some (.int .i64 a) ∧ wx.cell? ⟨g, 1, none⟩ = some (.int .i64 b) ∧ g < wx.heap.size := by
  have hb := MSt.box h
  have f0 := hb.cellAt 0 (by decide)
  have f1 := hb.cellAt 1 (by decide)
  exact ⟨f0, f1, (hb.lt _ rfl).2⟩
end Go.Proofs.YtooghbejbjfakaaGreat

/-
  The model looks for origins. (Written by gen8.py.)
-/

namespace Go.Proofs.YtooghbejbjfakaaGreat
open Go.RowKit Go.Lib Go.Sort
set_option linter.unusedVariables false
set_option linter.unusedSimpArgs false

set_option maxHeartbeats 3200000 in
set_option maxRecDepth 100000 in
theorem l8Has_any (l : List (Int × Int)) (hl : l.length ≤ 2097152) (a0 a1 : Int) (A : Option Addr) (n c : Nat) (hn : n = l.length) (w : World) (h : OrgsR w w.heap.size A l) :
    Calls Tryz.prog 54 #[.slice A n c, .agg #[.int .i64 a0, .int .i64 a1]] w (EqP ((a0, a1) ∈ l) w) := by
  subst hn
  have HL := Lib.hid h
  have H0 : Hid (MSt w [boxA 56 2 w.heap.size [.int .i64 a0, .int .i64 a1]] _) := Lib.hid ((MSt.start w).new 56 2 #[.int .i64 a0, .int .i64 a1] rfl)
  clear h
  go_enter Tryz.func54, Tryz.ntmps54
  go_wp2_with fail
  go_loopw [5] (fun i wr => ∃ (j : Nat), j ≤ l.length ∧ i = .int .i64 (j : Int) ∧ Hid ((a0, a1) ∉ l.take j) ∧ Hid (MSt w [boxA 56 2 w.heap.size [.int .i64 a0, .int .i64 a1]] wr)) (fun i _ => l.length - (intOf i).toNat)
  case atStart => exact ⟨0, Nat.zero_le _, rfl, Lib.hid (by simp), H0⟩
  case round =>
    obtain ⟨j, hj, rfl, HE, H1⟩ := hrel
    by_cases hlt : j < l.length
    · obtain ⟨b, o, rfl, hbB, k00, k01⟩ := orgs_at HL.out j hlt
      obtain ⟨x, hx⟩ : ∃ x, x = l[j] := ⟨_, rfl⟩
      rw [← hx] at k00 k01
      obtain ⟨x0, x1⟩ := x
      simp only at k00 k01
      have HX := Lib.hid hx
      have HC0 := Lib.hid (And.intro k00 k01)
      have hli : (j : Int) < (l.length : Int) := by omega
      clear hx k00 k01
      have h00 := ((MSt.bel H1.out).cell (p := ⟨b, o + j * 2, none⟩) hbB).trans HC0.out.1
      have h01 := ((MSt.bel H1.out).cell (p := ⟨b, o + j * 2 + 1, none⟩) hbB).trans HC0.out.2
      have hsz := MSt.size H1.out
      have hbw := Nat.lt_of_lt_of_le hbB hsz
      obtain ⟨fB0, fB1, fBlt⟩ := MSt.boxO H1.out
      have HTK := Lib.hid (show l.take (j + 1) = l.take j ++ [(x0, x1)] by rw [List.take_succ_eq_append_getElem hlt, ← HX.out])
      by_cases he : x0 = a0 ∧ x1 = a1
      · obtain ⟨rfl, rfl⟩ := he
        have ea : (x0 == x0) = true := by simp
        have eb : (x1 == x1) = true := by simp
        go_wp2_with fail
        go_quiet (fail)
        go_wp2_with fail
        go_ret
        exact ⟨true, rfl, iff_of_true rfl (by rw [HX.out]; exact List.getElem_mem hlt), (MSt.drewN H1.out _).bel⟩
      · have hq : (x0 == a0) = false ∨ (x0 == a0) = true ∧ (x1 == a1) = false := by
          by_cases e : x0 = a0
          · exact .inr ⟨by simpa using e, by simp; exact fun e' => he ⟨e, e'⟩⟩
          · exact .inl (by simpa using e)
        have HNE := Lib.hid he
        clear he
        rcases hq with e1 | ⟨e0, e1⟩
        all_goals
          go_wp2_with fail
          go_quiet (fail)
          go_wp2_with fail
          exact ⟨⟨j + 1, by omega, by simp, Lib.hid (by rw [HTK.out]; intro hm; rcases List.mem_append.1 hm with hm | hm; exact HE.out hm; simp only [List.mem_singleton, Prod.mk.injEq] at hm; exact HNE.out ⟨hm.1.symm, hm.2.symm⟩), Lib.hid (MSt.drewN H1.out _)⟩, by simp [intOf]; omega⟩
    · obtain rfl : j = l.length := by omega
      go_wp2_with fail
      go_ret
      refine ⟨false, rfl, iff_of_false (by simp) (fun hm => HE.out ?_), (MSt.bel H1.out)⟩
      rw [List.take_length]
      exact hm

set_option maxHeartbeats 3200000 in
set_option maxRecDepth 100000 in
theorem l8Beneath_any (l k : List (Int × Int)) (hl : l.length ≤ 2097152) (hk : k.length ≤ 2097152) (A A' : Option Addr) (n n' c c' : Nat) (hn : n = l.length) (hn' : n' = k.length) (w : World) (h : OrgsR w w.heap.size A l) (h' : OrgsR w w.heap.size A' k) :
    Calls Tryz.prog 26 #[.slice A n c, .slice A' n' c'] w (EqP (∀ o ∈ l, o ∈ k) w) := by
  subst hn hn'
  have HL := Lib.hid h
  have HK := Lib.hid h'
  have H0 : Hid (MSt w [] w) := Lib.hid (MSt.start w)
  clear h h'
  go_enter Tryz.func26, Tryz.ntmps26
  go_wp2_with fail
  go_loopw [5] (fun i wr => ∃ (j : Nat), j ≤ l.length ∧ i = .int .i64 (j : Int) ∧ Hid (∀ o ∈ l.take j, o ∈ k) ∧ Hid (MSt w [] wr)) (fun i _ => l.length - (intOf i).toNat)
  case atStart => exact ⟨0, Nat.zero_le _, rfl, Lib.hid (by simp), H0⟩
  case round =>
    obtain ⟨j, hj, rfl, HE, H1⟩ := hrel
    by_cases hlt : j < l.length
    · obtain ⟨b, o, rfl, hbB, k00, k01⟩ := orgs_at HL.out j hlt
      obtain ⟨x, hx⟩ : ∃ x, x = l[j] := ⟨_, rfl⟩
      rw [← hx] at k00 k01
      obtain ⟨x0, x1⟩ := x
      simp only at k00 k01
      have HX := Lib.hid hx
      have HC0 := Lib.hid (And.intro k00 k01)
      have hli : (j : Int) < (l.length : Int) := by omega
      clear hx k00 k01
      have h00 := ((MSt.bel H1.out).cell (p := ⟨b, o + j * 2, none⟩) hbB).trans HC0.out.1
      have h01 := ((MSt.bel H1.out).cell (p := ⟨b, o + j * 2 + 1, none⟩) hbB).trans HC0.out.2
      have hsz := MSt.size H1.out
      have hbw := Nat.lt_of_lt_of_le hbB hsz
      have HTK := Lib.hid (show l.take (j + 1) = l.take j ++ [(x0, x1)] by rw [List.take_succ_eq_append_getElem hlt, ← HX.out])
      go_wp2_with fail
      refine (l8Has_any k hk x0 x1 _ _ _ rfl _ ((HK.out.below (MSt.bel H1.out)).more (MSt.size H1.out))).mono ?_
      rintro e w1 ⟨rb, rfl, hb, hbel⟩
      have HBK := Lib.hid hb
      have H2 := Lib.hid (MSt.later H1.out hbel)
      clear hb hbel h00 h01 hsz hbw
      cases rb
      · go_wp2_with fail
        go_ret
        refine ⟨false, rfl, iff_of_false (by simp) (fun hh => ?_), (MSt.bel H2.out)⟩
        have := HBK.out.2 (hh _ (by rw [HX.out]; exact List.getElem_mem hlt))
        simp at this
      · go_wp2_with fail
        exact ⟨⟨j + 1, by omega, by simp, Lib.hid (by rw [HTK.out]; intro o ho; rcases List.mem_append.1 ho with ho | ho; exact HE.out o ho; rw [List.mem_singleton.1 ho]; exact HBK.out.1 (by trivial)), H2⟩, by simp [intOf]; omega⟩
    · obtain rfl : j = l.length := by omega
      go_wp2_with fail
      go_ret
      refine ⟨true, rfl, iff_of_true rfl ?_, (MSt.bel H1.out)⟩
      have h1 := HE.out
      rw [List.take_length] at h1
      exact h1
end Go.Proofs.YtooghbejbjfakaaGreat

/-
  The model puts an origin in its place. (Written by gen8.py.)
-/

namespace Go.Proofs.YtooghbejbjfakaaGreat
open Go.RowKit Go.Lib Go.Sort
set_option linter.unusedVariables false
set_option linter.unusedSimpArgs false

/-- How far the loop has come. -/
def PutSt (o : Int × Int) (l : List (Int × Int)) (b : Bool) (cur : List (Int × Int)) : Prop := (b = true ∧ Pl o l ∧ cur = putO o l) ∨ (b = false ∧ ¬ Pl o l ∧ cur = l)
theorem PutSt.tt {o : Int × Int} {l cur : List (Int × Int)} (h : PutSt o l true cur) : Pl o l ∧ cur = putO o l := by
  rcases h with h | h
  · exact h.2
  · cases h.1
theorem PutSt.ff {o : Int × Int} {l cur : List (Int × Int)} (h : PutSt o l false cur) : ¬ Pl o l ∧ cur = l := by
  rcases h with h | h
  · cases h.1
  · exact h.2
theorem PutSt.mkT {o : Int × Int} {l cur : List (Int × Int)} (h : Pl o l) (h' : cur = putO o l) : PutSt o l true cur := .inl ⟨rfl, h, h'⟩
theorem PutSt.mkF {o : Int × Int} {l cur : List (Int × Int)} (h : ¬ Pl o l) (h' : cur = l) : PutSt o l false cur := .inr ⟨rfl, h, h'⟩
set_option maxHeartbeats 3200000 in
set_option maxRecDepth 100000 in
theorem l8Put_any (l : List (Int × Int)) (hl : l.length ≤ 2097152) (a0 a1 : Int) (A : Option Addr) (n c : Nat) (hn : n = l.length) (w : World) (h : OrgsR w w.heap.size A l) :
    Calls Tryz.prog 59 #[.slice A n c, .agg #[.int .i64 a0, .int .i64 a1]] w fun e w' => ∃ v, e = .returned v ∧ MSt w [orgA v (putO (a0, a1) l)] w' := by
  subst hn
  have HL := Lib.hid h
  have h0 := ((MSt.start w).new 56 2 #[.int .i64 a0, .int .i64 a1] rfl).row_lit 56 2 0 #[] (by unfold maxLen; omega) rfl
  simp only [World.size_alloc] at h0
  have H0 : Hid (MSt w [orgA (.slice (some ⟨w.heap.size + 1, 0, none⟩) 0 0) [], boxA 56 2 w.heap.size [.int .i64 a0, .int .i64 a1]] _) := Lib.hid h0
  clear h0 h
  go_enter Tryz.func59, Tryz.ntmps59
  go_wp2_with fail
  go_loopw [5, 6, 7] (fun v dn i wr => ∃ (j : Nat) (b : Bool) (cur : List (Int × Int)), j ≤ l.length ∧ i = .int .i64 (j : Int) ∧ dn = .bool b ∧ cur.length ≤ j + 1 ∧ Hid (PutSt (a0, a1) (l.take j) b cur) ∧ Hid (MSt w [orgA v cur, boxA 56 2 w.heap.size [.int .i64 a0, .int .i64 a1]] wr)) (fun _ _ i _ => l.length - (intOf i).toNat)
  case atStart => exact ⟨0, false, [], Nat.zero_le _, rfl, rfl, by simp, Lib.hid (.mkF (pl_nil _) rfl), H0⟩
  case round =>
    obtain ⟨j, bd, cur, hj, rfl, rfl, hcl, HE, H1⟩ := hrel
    obtain ⟨A3, q3, rfl, -, -⟩ := MSt.orgV H1.out
    by_cases hlt : j < l.length
    · obtain ⟨b, o, rfl, hbB, k00, k01⟩ := orgs_at HL.out j hlt
      obtain ⟨x, hx⟩ : ∃ x, x = l[j] := ⟨_, rfl⟩
      rw [← hx] at k00 k01
      obtain ⟨x0, x1⟩ := x
      simp only at k00 k01
      have HX := Lib.hid hx
      have HC0 := Lib.hid (And.intro k00 k01)
      have hli : (j : Int) < (l.length : Int) := by omega
      clear hx k00 k01
      have HTK := Lib.hid (show l.take (j + 1) = l.take j ++ [(x0, x1)] by rw [List.take_succ_eq_append_getElem hlt, ← HX.out])
      have h00 := ((MSt.bel H1.out).cell (p := ⟨b, o + j * 2, none⟩) hbB).trans HC0.out.1
      have h01 := ((MSt.bel H1.out).cell (p := ⟨b, o + j * 2 + 1, none⟩) hbB).trans HC0.out.2
      have hsz := MSt.size H1.out
      have hbw := Nat.lt_of_lt_of_le hbB hsz
      obtain ⟨fB0, fB1, fBlt⟩ := MSt.boxO (MSt.nth (L1 := [_]) H1.out)
      rcases olt_tri (a0, a1) (x0, x1) with hlo | he | hgo
      · have hq : (x0 == a0) = false ∨ (x0 == a0) = true ∧ (x1 == a1) = false := by
          have hne : ¬ (x0 = a0 ∧ x1 = a1) := by rintro ⟨rfl, rfl⟩; exact olt_irr _ hlo
          by_cases e : x0 = a0
          · exact .inr ⟨by simpa using e, by simp; exact fun e' => hne ⟨e, e'⟩⟩
          · exact .inl (by simpa using e)
        have HLO := Lib.hid hlo
        clear hlo
        rcases hq with e1 | ⟨e0, e1⟩
        all_goals
          go_wp2_with fail
          go_quiet (fail)
          obtain ⟨wq, hwq⟩ : ∃ wq, wq = wr.drewN nq := ⟨_, rfl⟩
          have H2 : Hid (MSt w [orgA (.slice A3 cur.length q3) cur, boxA 56 2 w.heap.size [.int .i64 a0, .int .i64 a1]] wq) := Lib.hid (hwq ▸ MSt.drewN H1.out nq)
          rw [← hwq]
          clear h00 h01 hsz hbw fB0 fB1 fBlt
          clear hwq H1
          have h00 := ((MSt.bel H2.out).cell (p := ⟨b, o + j * 2, none⟩) hbB).trans HC0.out.1
          have h01 := ((MSt.bel H2.out).cell (p := ⟨b, o + j * 2 + 1, none⟩) hbB).trans HC0.out.2
          have hsz := MSt.size H2.out
          have hbw := Nat.lt_of_lt_of_le hbB hsz
          obtain ⟨fB0, fB1, fBlt⟩ := MSt.boxO (MSt.nth (L1 := [_]) H2.out)
          cases bd
          · have hcj : cur.length ≤ j := by rw [HE.out.ff.2, List.length_take]; omega
            go_wp2_with fail
            go_region_held3 (fun w' => w'.cell? ⟨b, o + j * 2, none⟩ = some (.int .i64 x0) ∧ w'.cell? ⟨b, o + j * 2 + 1, none⟩ = some (.int .i64 x1) ∧ w'.cell? ⟨w.heap.size, 0, none⟩ = some (.int .i64 a0) ∧ w'.cell? ⟨w.heap.size, 1, none⟩ = some (.int .i64 a1)) (first | exact ⟨h00, h01, fB0, fB1⟩ | exact ⟨(hb1.cell (p := ⟨b, o + j * 2, none⟩) hbw).trans h00, (hb1.cell (p := ⟨b, o + j * 2 + 1, none⟩) hbw).trans h01, (hb1.cell (p := ⟨w.heap.size, 0, none⟩) fBlt).trans fB0, (hb1.cell (p := ⟨w.heap.size, 1, none⟩) fBlt).trans fB1⟩)
              (first | (go_at_call 79; refine (l3Before_any a0 a1 x0 x1 _).mono ?_; rintro e w2 ⟨rr, rfl, hc, hb1⟩; have HC := Lib.hid hc; clear hc))
            have H3 := Lib.hid ((MSt.drew H2.out).later hb1)
            clear hb1 H2
            clear h00 h01 hsz hbw fB0 fB1 fBlt
            have h00 := ((MSt.bel H3.out).cell (p := ⟨b, o + j * 2, none⟩) hbB).trans HC0.out.1
            have h01 := ((MSt.bel H3.out).cell (p := ⟨b, o + j * 2 + 1, none⟩) hbB).trans HC0.out.2
            have hsz := MSt.size H3.out
            have hbw := Nat.lt_of_lt_of_le hbB hsz
            obtain ⟨fB0, fB1, fBlt⟩ := MSt.boxO (MSt.nth (L1 := [_]) H3.out)
            obtain rfl : rr = true := HC.out.2 HLO.out
            go_wp2_with (first | (at_builtin; refine appO _ rfl (.tmp 31) (.tmp 33) rfl w.heap.size _ _ _ rfl (MSt.row (H3.out.alloc _)) (some ⟨_, 0, none⟩) 1 1 _ [.int .i64 a0, .int .i64 a1] rfl rfl (row_new _ #[.int .i64 a0, .int .i64 a1] 56) (encO_one [(a0, a1)]) (by first | omega | (simp; omega)) (by simp; omega) ?_; intro v3 w3 hown3 hgr3 hn3; obtain ⟨A9, q9, rfl⟩ := own_slice hown3; have h3 := MSt.orgApp (x := (a0, a1)) (H3.out.alloc (.cells #[.int .i64 a0, .int .i64 a1] 56)) hgr3 hown3 hn3.2; have H4 := Lib.hid h3; clear h3 hown3 hgr3 hn3; clear h00 h01 hsz hbw fB0 fB1 fBlt; have h00 := ((MSt.bel H4.out).cell (p := ⟨b, o + j * 2, none⟩) hbB).trans HC0.out.1; have h01 := ((MSt.bel H4.out).cell (p := ⟨b, o + j * 2 + 1, none⟩) hbB).trans HC0.out.2; have hsz := MSt.size H4.out; have hbw := Nat.lt_of_lt_of_le hbB hsz; obtain ⟨fB0, fB1, fBlt⟩ := MSt.boxO (MSt.nth (L1 := [_]) H4.out)) | (at_builtin; refine appO _ rfl (.tmp 35) (.tmp 40) rfl w.heap.size _ _ _ rfl (MSt.row (H4.out.alloc _)) (some ⟨_, 0, none⟩) 1 1 _ [.int .i64 x0, .int .i64 x1] rfl rfl (row_new _ #[.int .i64 x0, .int .i64 x1] 56) (encO_one [(x0, x1)]) (by first | omega | (simp; omega)) (by simp; omega) ?_; intro v3 w3 hown3 hgr3 hn3; obtain ⟨A8, q8, rfl⟩ := own_slice hown3; have h3 := MSt.orgApp (x := (x0, x1)) (H4.out.alloc (.cells #[.int .i64 x0, .int .i64 x1] 56)) hgr3 hown3 hn3.2; rw [show (cur ++ [(a0, a1)]).length = cur.length + 1 by simp] at h3; have H5 := Lib.hid h3; clear h3 hown3 hgr3 hn3))
            exact ⟨⟨j + 1, true, cur ++ [(a0, a1)] ++ [(x0, x1)], by omega, by simp, rfl, by simp; omega, Lib.hid (by rw [HTK.out]; exact .mkT ((pl_snoc _ _ _).2 (.inr (.inr HLO.out))) (by rw [putO_before HE.out.ff.1 HLO.out, HE.out.ff.2])), H5⟩, by simp [intOf]; omega⟩
          · go_wp2_with fail
            go_quiet (fail)
            obtain ⟨wp, hwp⟩ : ∃ wp, wp = wq.drewN nq := ⟨_, rfl⟩
            have H3 : Hid (MSt w [orgA (.slice A3 cur.length q3) cur, boxA 56 2 w.heap.size [.int .i64 a0, .int .i64 a1]] wp) := Lib.hid (hwp ▸ MSt.drewN H2.out nq)
            rw [← hwp]
            clear h00 h01 hsz hbw fB0 fB1 fBlt
            clear hwp H2
            have h00 := ((MSt.bel H3.out).cell (p := ⟨b, o + j * 2, none⟩) hbB).trans HC0.out.1
            have h01 := ((MSt.bel H3.out).cell (p := ⟨b, o + j * 2 + 1, none⟩) hbB).trans HC0.out.2
            have hsz := MSt.size H3.out
            have hbw := Nat.lt_of_lt_of_le hbB hsz
            obtain ⟨fB0, fB1, fBlt⟩ := MSt.boxO (MSt.nth (L1 := [_]) H3.out)
            go_wp2_with (at_builtin; refine appO _ rfl (.tmp 35) (.tmp 40) rfl w.heap.size _ _ _ rfl (MSt.row (H3.out.alloc _)) (some ⟨_, 0, none⟩) 1 1 _ [.int .i64 x0, .int .i64 x1] rfl rfl (row_new _ #[.int .i64 x0, .int .i64 x1] 56) (encO_one [(x0, x1)]) (by first | omega | (simp; omega)) (by simp; omega) ?_; intro v3 w3 hown3 hgr3 hn3; obtain ⟨A9, q9, rfl⟩ := own_slice hown3; have h3 := MSt.orgApp (x := (x0, x1)) (H3.out.alloc (.cells #[.int .i64 x0, .int .i64 x1] 56)) hgr3 hown3 hn3.2; have H5 := Lib.hid h3; clear h3 hown3 hgr3 hn3)
            exact ⟨⟨j + 1, true, cur ++ [(x0, x1)], by omega, by simp, rfl, by simp; omega, Lib.hid (by rw [HTK.out]; exact .mkT ((pl_snoc _ _ _).2 (.inl HE.out.tt.1)) (by rw [putO_in HE.out.tt.1, HE.out.tt.2])), H5⟩, by simp [intOf]; omega⟩

      · obtain ⟨rfl, rfl⟩ : a0 = x0 ∧ a1 = x1 := by simpa using he
        clear he
        have ea : (a0 == a0) = true := by simp
        have eb : (a1 == a1) = true := by simp
        go_wp2_with fail
        go_quiet (fail)
        obtain ⟨wq, hwq⟩ : ∃ wq, wq = wr.drewN nq := ⟨_, rfl⟩
        have H2 : Hid (MSt w [orgA (.slice A3 cur.length q3) cur, boxA 56 2 w.heap.size [.int .i64 a0, .int .i64 a1]] wq) := Lib.hid (hwq ▸ MSt.drewN H1.out nq)
        rw [← hwq]
        clear h00 h01 hsz hbw fB0 fB1 fBlt
        clear hwq H1
        have h00 := ((MSt.bel H2.out).cell (p := ⟨b, o + j * 2, none⟩) hbB).trans HC0.out.1
        have h01 := ((MSt.bel H2.out).cell (p := ⟨b, o + j * 2 + 1, none⟩) hbB).trans HC0.out.2
        have hsz := MSt.size H2.out
        have hbw := Nat.lt_of_lt_of_le hbB hsz
        obtain ⟨fB0, fB1, fBlt⟩ := MSt.boxO (MSt.nth (L1 := [_]) H2.out)
        go_wp2_with fail
        go_quiet (fail)
        obtain ⟨wp, hwp⟩ : ∃ wp, wp = wq.drewN nq := ⟨_, rfl⟩
        have H3 : Hid (MSt w [orgA (.slice A3 cur.length q3) cur, boxA 56 2 w.heap.size [.int .i64 a0, .int .i64 a1]] wp) := Lib.hid (hwp ▸ MSt.drewN H2.out nq)
        rw [← hwp]
        clear h00 h01 hsz hbw fB0 fB1 fBlt
        clear hwp H2
        have h00 := ((MSt.bel H3.out).cell (p := ⟨b, o + j * 2, none⟩) hbB).trans HC0.out.1
        have h01 := ((MSt.bel H3.out).cell (p := ⟨b, o + j * 2 + 1, none⟩) hbB).trans HC0.out.2
        have hsz := MSt.size H3.out
        have hbw := Nat.lt_of_lt_of_le hbB hsz
        obtain ⟨fB0, fB1, fBlt⟩ := MSt.boxO (MSt.nth (L1 := [_]) H3.out)
        go_wp2_with (at_builtin; refine appO _ rfl (.tmp 35) (.tmp 40) rfl w.heap.size _ _ _ rfl (MSt.row (H3.out.alloc _)) (some ⟨_, 0, none⟩) 1 1 _ [.int .i64 a0, .int .i64 a1] rfl rfl (row_new _ #[.int .i64 a0, .int .i64 a1] 56) (encO_one [(a0, a1)]) (by first | omega | (simp; omega)) (by simp; omega) ?_; intro v3 w3 hown3 hgr3 hn3; obtain ⟨A9, q9, rfl⟩ := own_slice hown3; have h3 := MSt.orgApp (x := (a0, a1)) (H3.out.alloc (.cells #[.int .i64 a0, .int .i64 a1] 56)) hgr3 hown3 hn3.2; have H5 := Lib.hid h3; clear h3 hown3 hgr3 hn3)
        exact ⟨⟨j + 1, true, cur ++ [(a0, a1)], by omega, by simp, rfl, by simp; omega, Lib.hid (by rw [HTK.out]; exact .mkT ((pl_snoc _ _ _).2 (.inr (.inl rfl))) (by cases bd <;> first | (rw [HE.out.ff.2, putO_same HE.out.ff.1]) | (rw [HE.out.tt.2, putO_in HE.out.tt.1]))), H5⟩, by simp [intOf]; omega⟩
      · have hnq : ¬ (x0 = a0 ∧ x1 = a1) := by rintro ⟨rfl, rfl⟩; exact olt_irr _ hgo
        have hq : (x0 == a0) = false ∨ (x0 == a0) = true ∧ (x1 == a1) = false := by
          by_cases e : x0 = a0
          · exact .inr ⟨by simpa using e, by simp; exact fun e' => hnq ⟨e, e'⟩⟩
          · exact .inl (by simpa using e)
        have HNE := Lib.hid (show ¬ (a0 = x0 ∧ a1 = x1) from fun h => hnq ⟨h.1.symm, h.2.symm⟩)
        have HLO := Lib.hid (show ¬ OLt (a0, a1) (x0, x1) from fun h => olt_irr _ (olt_tr h hgo))
        clear hgo hnq
        rcases hq with e1 | ⟨e0, e1⟩
        all_goals
          go_wp2_with fail
          go_quiet (fail)
          obtain ⟨wq, hwq⟩ : ∃ wq, wq = wr.drewN nq := ⟨_, rfl⟩
          have H2 : Hid (MSt w [orgA (.slice A3 cur.length q3) cur, boxA 56 2 w.heap.size [.int .i64 a0, .int .i64 a1]] wq) := Lib.hid (hwq ▸ MSt.drewN H1.out nq)
          rw [← hwq]
          clear h00 h01 hsz hbw fB0 fB1 fBlt
          clear hwq H1
          have h00 := ((MSt.bel H2.out).cell (p := ⟨b, o + j * 2, none⟩) hbB).trans HC0.out.1
          have h01 := ((MSt.bel H2.out).cell (p := ⟨b, o + j * 2 + 1, none⟩) hbB).trans HC0.out.2
          have hsz := MSt.size H2.out
          have hbw := Nat.lt_of_lt_of_le hbB hsz
          obtain ⟨fB0, fB1, fBlt⟩ := MSt.boxO (MSt.nth (L1 := [_]) H2.out)
          cases bd
          · have hcj : cur.length ≤ j := by rw [HE.out.ff.2, List.length_take]; omega
            go_wp2_with fail
            go_region_held3 (fun w' => w'.cell? ⟨b, o + j * 2, none⟩ = some (.int .i64 x0) ∧ w'.cell? ⟨b, o + j * 2 + 1, none⟩ = some (.int .i64 x1) ∧ w'.cell? ⟨w.heap.size, 0, none⟩ = some (.int .i64 a0) ∧ w'.cell? ⟨w.heap.size, 1, none⟩ = some (.int .i64 a1)) (first | exact ⟨h00, h01, fB0, fB1⟩ | exact ⟨(hb1.cell (p := ⟨b, o + j * 2, none⟩) hbw).trans h00, (hb1.cell (p := ⟨b, o + j * 2 + 1, none⟩) hbw).trans h01, (hb1.cell (p := ⟨w.heap.size, 0, none⟩) fBlt).trans fB0, (hb1.cell (p := ⟨w.heap.size, 1, none⟩) fBlt).trans fB1⟩)
              (first | (go_at_call 79; refine (l3Before_any a0 a1 x0 x1 _).mono ?_; rintro e w2 ⟨rr, rfl, hc, hb1⟩; have HC := Lib.hid hc; clear hc))
            have H3 := Lib.hid ((MSt.drew H2.out).later hb1)
            clear hb1 H2
            clear h00 h01 hsz hbw fB0 fB1 fBlt
            have h00 := ((MSt.bel H3.out).cell (p := ⟨b, o + j * 2, none⟩) hbB).trans HC0.out.1
            have h01 := ((MSt.bel H3.out).cell (p := ⟨b, o + j * 2 + 1, none⟩) hbB).trans HC0.out.2
            have hsz := MSt.size H3.out
            have hbw := Nat.lt_of_lt_of_le hbB hsz
            obtain ⟨fB0, fB1, fBlt⟩ := MSt.boxO (MSt.nth (L1 := [_]) H3.out)
            obtain rfl : rr = false := by cases rr; rfl; exact (HLO.out (HC.out.1 rfl)).elim
            go_wp2_with (at_builtin; refine appO _ rfl (.tmp 35) (.tmp 40) rfl w.heap.size _ _ _ rfl (MSt.row (H3.out.alloc _)) (some ⟨_, 0, none⟩) 1 1 _ [.int .i64 x0, .int .i64 x1] rfl rfl (row_new _ #[.int .i64 x0, .int .i64 x1] 56) (encO_one [(x0, x1)]) (by first | omega | (simp; omega)) (by simp; omega) ?_; intro v3 w3 hown3 hgr3 hn3; obtain ⟨A9, q9, rfl⟩ := own_slice hown3; have h3 := MSt.orgApp (x := (x0, x1)) (H3.out.alloc (.cells #[.int .i64 x0, .int .i64 x1] 56)) hgr3 hown3 hn3.2; have H5 := Lib.hid h3; clear h3 hown3 hgr3 hn3)
            exact ⟨⟨j + 1, false, cur ++ [(x0, x1)], by omega, by simp, rfl, by simp; omega, Lib.hid (by rw [HTK.out]; exact .mkF (fun h => by rcases (pl_snoc _ _ _).1 h with h | h | h; exact HE.out.ff.1 h; exact HNE.out (by simpa using h); exact HLO.out h) (by rw [HE.out.ff.2])), H5⟩, by simp [intOf]; omega⟩
          · go_wp2_with fail
            go_quiet (fail)
            obtain ⟨wp, hwp⟩ : ∃ wp, wp = wq.drewN nq := ⟨_, rfl⟩
            have H3 : Hid (MSt w [orgA (.slice A3 cur.length q3) cur, boxA 56 2 w.heap.size [.int .i64 a0, .int .i64 a1]] wp) := Lib.hid (hwp ▸ MSt.drewN H2.out nq)
            rw [← hwp]
            clear h00 h01 hsz hbw fB0 fB1 fBlt
            clear hwp H2
            have h00 := ((MSt.bel H3.out).cell (p := ⟨b, o + j * 2, none⟩) hbB).trans HC0.out.1
            have h01 := ((MSt.bel H3.out).cell (p := ⟨b, o + j * 2 + 1, none⟩) hbB).trans HC0.out.2
            have hsz := MSt.size H3.out
            have hbw := Nat.lt_of_lt_of_le hbB hsz
            obtain ⟨fB0, fB1, fBlt⟩ := MSt.boxO (MSt.nth (L1 := [_]) H3.out)
            go_wp2_with (at_builtin; refine appO _ rfl (.tmp 35) (.tmp 40) rfl w.heap.size _ _ _ rfl (MSt.row (H3.out.alloc _)) (some ⟨_, 0, none⟩) 1 1 _ [.int .i64 x0, .int .i64 x1] rfl rfl (row_new _ #[.int .i64 x0, .int .i64 x1] 56) (encO_one [(x0, x1)]) (by first | omega | (simp; omega)) (by simp; omega) ?_; intro v3 w3 hown3 hgr3 hn3; obtain ⟨A9, q9, rfl⟩ := own_slice hown3; have h3 := MSt.orgApp (x := (x0, x1)) (H3.out.alloc (.cells #[.int .i64 x0, .int .i64 x1] 56)) hgr3 hown3 hn3.2; have H5 := Lib.hid h3; clear h3 hown3 hgr3 hn3)
            exact ⟨⟨j + 1, true, cur ++ [(x0, x1)], by omega, by simp, rfl, by simp; omega, Lib.hid (by rw [HTK.out]; exact .mkT ((pl_snoc _ _ _).2 (.inl HE.out.tt.1)) (by rw [putO_in HE.out.tt.1, HE.out.tt.2])), H5⟩, by simp [intOf]; omega⟩

    · obtain rfl : j = l.length := by omega
      obtain ⟨fB0, fB1, fBlt⟩ := MSt.boxO (MSt.nth (L1 := [_]) H1.out)
      have hsz := MSt.size H1.out
      cases bd
      · go_wp2_with (at_builtin; refine appO _ rfl (.tmp 44) (.tmp 46) rfl w.heap.size _ _ _ rfl (MSt.row (H1.out.alloc _)) (some ⟨_, 0, none⟩) 1 1 _ [.int .i64 a0, .int .i64 a1] rfl rfl (row_new _ #[.int .i64 a0, .int .i64 a1] 56) (encO_one [(a0, a1)]) (by first | omega | (simp; omega)) (by simp; omega) ?_; intro v3 w3 hown3 hgr3 hn3; obtain ⟨A9, q9, rfl⟩ := own_slice hown3; have h3 := MSt.orgApp (x := (a0, a1)) (H1.out.alloc (.cells #[.int .i64 a0, .int .i64 a1] 56)) hgr3 hown3 hn3.2; have H5 := Lib.hid h3; clear h3 hown3 hgr3 hn3)
        go_ret
        have hT := HE.out
        rw [List.take_length] at hT
        refine ⟨_, rfl, ?_⟩
        rw [putO_end hT.ff.1, ← hT.ff.2]
        exact MSt.drop (MSt.nth (L1 := [_]) H5.out)
      · go_wp2_with fail
        go_ret
        have hT := HE.out
        rw [List.take_length] at hT
        refine ⟨_, rfl, ?_⟩
        rw [← hT.tt.2]
        exact MSt.drop (MSt.nth (L1 := [_]) H1.out)
end Go.Proofs.YtooghbejbjfakaaGreat

/-
  The model's union of origins. (Written by gen8.py.)
-/

namespace Go.Proofs.YtooghbejbjfakaaGreat
open Go.RowKit Go.Lib Go.Sort
set_option linter.unusedVariables false
set_option linter.unusedSimpArgs false

set_option maxHeartbeats 3200000 in
set_option maxRecDepth 100000 in
theorem specUnion_any (la lb : List (Int × Int)) (hl : la.length + lb.length ≤ 2097152) (A A' : Option Addr) (n n' c c' : Nat) (hn : n = la.length) (hn' : n' = lb.length) (w : World) (h : OrgsR w w.heap.size A la) (h' : OrgsR w w.heap.size A' lb) :
    Calls Tryz.prog 35 #[.slice A n c, .slice A' n' c'] w fun e w' => ∃ v, e = .returned v ∧ MSt w [orgA v (setO (la ++ lb))] w' := by
  subst hn hn'
  have HA := Lib.hid h
  have HB := Lib.hid h'
  have H0 : Hid (MSt w [orgA (.slice (some ⟨w.heap.size, 0, none⟩) 0 0) (setO ([] : List (Int × Int)))] _) := Lib.hid ((MSt.start w).row_lit 56 2 0 #[] (by unfold maxLen; omega) rfl)
  clear h h'
  go_enter Tryz.func35, Tryz.ntmps35
  go_wp2_with fail
  go_loopw [5, 6] (fun v i wr => ∃ (j : Nat), j ≤ la.length ∧ i = .int .i64 (j : Int) ∧ Hid (MSt w [orgA v (setO (la.take j))] wr)) (fun _ i _ => la.length - (intOf i).toNat)
  case atStart => exact ⟨0, Nat.zero_le _, rfl, H0⟩
  case round =>
    obtain ⟨j, hj, rfl, H1⟩ := hrel
    obtain ⟨A3, q3, rfl, -, -⟩ := MSt.orgV H1.out
    by_cases hlt : j < la.length
    · obtain ⟨b, o, rfl, hbB, k00, k01⟩ := orgs_at HA.out j hlt
      obtain ⟨x, hx⟩ : ∃ x, x = la[j] := ⟨_, rfl⟩
      rw [← hx] at k00 k01
      obtain ⟨x0, x1⟩ := x
      simp only at k00 k01
      have hSl : (setO (la.take j)).length ≤ 2097152 := Nat.le_trans (setO_len _) (by simp; omega)
      have hnx : setO (la.take (j + 1)) = putO (x0, x1) (setO (la.take j)) := by
        rw [← setO_snoc, List.take_succ_eq_append_getElem hlt, ← hx]
      have HN := Lib.hid hnx
      have hli : (j : Int) < (la.length : Int) := by omega
      have h00 := ((MSt.bel H1.out).cell (p := ⟨b, o + j * 2, none⟩) hbB).trans k00
      have h01 := ((MSt.bel H1.out).cell (p := ⟨b, o + j * 2 + 1, none⟩) hbB).trans k01
      have hsz := MSt.size H1.out
      have hbw := Nat.lt_of_lt_of_le hbB hsz
      generalize hS : setO (la.take j) = S at *
      clear hx k00 k01 hnx hS
      go_wp2_with fail
      refine (l8Put_any S hSl x0 x1 _ _ _ rfl _ (MSt.orgR H1.out rfl)).mono ?_
      rintro e w1 ⟨v, rfl, h2⟩
      have H2 := Lib.hid (MSt.subB (M := [orgA v (putO (x0, x1) S)]) (MSt.trans H1.out h2) (.cons_cons _ (List.nil_sublist _)))
      clear h2 h00 h01 hsz hbw
      go_wp2_with fail
      exact ⟨⟨j + 1, by omega, by simp, by rw [HN.out]; exact H2⟩, by simp [intOf]; omega⟩
    · obtain rfl : j = la.length := by omega
      have HE := H1
      rw [List.take_length] at HE
      clear H1
      go_wp2_with fail
      go_loopw [5, 7] (fun v i wr => ∃ (j : Nat), j ≤ lb.length ∧ i = .int .i64 (j : Int) ∧ Hid (MSt w [orgA v (setO (la ++ lb.take j))] wr)) (fun _ i _ => lb.length - (intOf i).toNat)
      case atStart => exact ⟨0, Nat.zero_le _, rfl, by simpa using HE⟩
      case round =>
        obtain ⟨j, hj, rfl, H1⟩ := hrel
        obtain ⟨A3, q3, rfl, -, -⟩ := MSt.orgV H1.out
        by_cases hlt : j < lb.length
        · obtain ⟨b, o, rfl, hbB, k00, k01⟩ := orgs_at HB.out j hlt
          obtain ⟨x, hx⟩ : ∃ x, x = lb[j] := ⟨_, rfl⟩
          rw [← hx] at k00 k01
          obtain ⟨x0, x1⟩ := x
          simp only at k00 k01
          have hSl : (setO (la ++ lb.take j)).length ≤ 2097152 := Nat.le_trans (setO_len _) (by simp; omega)
          have hnx : setO (la ++ lb.take (j + 1)) = putO (x0, x1) (setO (la ++ lb.take j)) := by
            rw [← setO_snoc, List.take_succ_eq_append_getElem hlt, ← hx, List.append_assoc]
          have HN := Lib.hid hnx
          have hli : (j : Int) < (lb.length : Int) := by omega
          have h00 := ((MSt.bel H1.out).cell (p := ⟨b, o + j * 2, none⟩) hbB).trans k00
          have h01 := ((MSt.bel H1.out).cell (p := ⟨b, o + j * 2 + 1, none⟩) hbB).trans k01
          have hsz := MSt.size H1.out
          have hbw := Nat.lt_of_lt_of_le hbB hsz
          generalize hS : setO (la ++ lb.take j) = S at *
          clear hx k00 k01 hnx hS
          go_wp2_with fail
          refine (l8Put_any S hSl x0 x1 _ _ _ rfl _ (MSt.orgR H1.out rfl)).mono ?_
          rintro e w1 ⟨v, rfl, h2⟩
          have H2 := Lib.hid (MSt.subB (M := [orgA v (putO (x0, x1) S)]) (MSt.trans H1.out h2) (.cons_cons _ (List.nil_sublist _)))
          clear h2 h00 h01 hsz hbw
          go_wp2_with fail
          exact ⟨⟨j + 1, by omega, by simp, by rw [HN.out]; exact H2⟩, by simp [intOf]; omega⟩
        · obtain rfl : j = lb.length := by omega
          go_wp2_with fail
          go_ret
          refine ⟨_, rfl, ?_⟩
          rw [show la ++ lb = la ++ lb.take lb.length by rw [List.take_length]]
          exact H1.out
end Go.Proofs.YtooghbejbjfakaaGreat
