/-
  Texts that the proof rests on, put together: Orgs, DrawU9, SameOg, PutS, UniS.
-/
import Derived.Test.YtooghbejbjfakaaGreatDoorMgO18
import Derived.Test.YtooghbejbjfakaaGreatDoorMgO8
import Derived.Test.YtooghbejbjfakaaGreatDoorMgO11
import Derived.Test.YtooghbejbjfakaaGreatDoorMgO9
import Derived.Test.YtooghbejbjfakaaGreatDoorMgO5
import Derived.Test.YtooghbejbjfakaaGreatDoorMgO10
import Derived.Test.YtooghbejbjfakaaGreatDoorMgO7
import Derived.BigQuiet
import Derived.Deep.RegionHeld3
/-
  Rows of origins. (Written by gen8.py.)
-/

namespace Go.Proofs.YtooghbejbjfakaaGreatDoor
open Go.RowKit Go.Lib Go.Sort
set_option linter.unusedVariables false
set_option linter.unusedSimpArgs false

/-- An origin as a datum. -/
def orgP (p : Int × Int) : Dt := .agg [.int p.1, .int p.2]
def orgsD (l : List (Int × Int)) : List Dt := l.map orgP
theorem isOrg_orgP (p : Int × Int) : IsOrg (orgP p) := ⟨p.1, p.2, rfl⟩
theorem orgsD_org (l : List (Int × Int)) : ∀ x ∈ orgsD l, IsOrg x := by
  intro x hx
  obtain ⟨p, _, rfl⟩ := List.mem_map.1 hx
  exact isOrg_orgP p
theorem orgsD_len (l : List (Int × Int)) : (orgsD l).length = l.length := List.length_map _
theorem orgsD_pr : ∀ {os : List Dt}, (∀ x ∈ os, IsOrg x) → orgsD (os.map pr) = os
  | [], _ => rfl
  | x :: os, h => by
    obtain ⟨a, b, rfl⟩ := h x (by simp)
    have ih := orgsD_pr fun y hy => h y (List.mem_cons_of_mem _ hy)
    unfold orgsD at *
    rw [List.map_cons, List.map_cons, ih]
    rfl
theorem pr_orgsD (l : List (Int × Int)) : (orgsD l).map pr = l := by
  unfold orgsD
  rw [List.map_map]
  conv => rhs; rw [← List.map_id l]
  rfl
theorem rdl_orgs {w : World} {B : Nat} : ∀ {l : List (Int × Int)} {cs : List Value}, RdL w B (orgsD l) cs → cs = l.flatMap encO := by
  intro l cs h
  have h1 := h.orgsO (orgsD_org l)
  rw [pr_orgsD] at h1
  exact h1
theorem orgs_rdl (w : World) (B : Nat) : ∀ l : List (Int × Int), RdL w B (orgsD l) (l.flatMap encO)
  | [] => by simp [orgsD, RdL]
  | x :: l => by
    have ih := orgs_rdl w B l
    unfold orgsD at ih ⊢
    rw [List.map_cons, List.flatMap_cons]
    simp only [RdL]
    refine ⟨encO x, _, rfl, ?_, ih⟩
    simp only [orgP, Rd, RdL]
    exact ⟨_, _, rfl, rfl, _, _, rfl, rfl, rfl⟩
theorem orgs_owl (w : World) (l : List (Int × Int)) : OwL w (orgsD l) (l.flatMap encO) [] := OwL.orgs_of (B := 0) (orgsD_org l) (orgs_rdl w 0 l) w
/-- Origins lie in a row below B. -/
abbrev OrgsR (w : World) (B : Nat) (A : Option Addr) (l : List (Int × Int)) : Prop := RowOf w B A (l.flatMap encO)
theorem rd_orgs {w : World} {B : Nat} {l : List (Int × Int)} {A : Option Addr} {n c : Nat} (h : Rd w B (.lst (orgsD l)) [.slice A n c]) : n = l.length ∧ l.length ≤ c ∧ c ≤ maxLen ∧ OrgsR w B A l := by
  obtain ⟨h1, h2, h3⟩ := h.lst_len
  rw [orgsD_len] at h1 h2
  obtain ⟨cells, h4, h5, -⟩ := h.cells (k := 2) fun x hx => (orgsD_org l x hx).width
  rw [rdl_orgs h5] at h4
  exact ⟨h1, h2, h3, h4⟩
theorem rd_orgl {w : World} {B : Nat} {l : List (Int × Int)} {cs : List Value} (h : Rd w B (.lst (orgsD l)) cs) : ∃ A c, cs = [.slice A l.length c] ∧ l.length ≤ c ∧ c ≤ maxLen ∧ OrgsR w B A l := by
  have h1 := h
  simp only [Rd] at h1
  obtain ⟨A, c, _, rfl, -⟩ := h1
  obtain ⟨h2, h3, h4, h5⟩ := rd_orgs h
  rw [orgsD_len]
  exact ⟨A, c, rfl, h3, h4, h5⟩
theorem orgs_rd {w : World} {B : Nat} {l : List (Int × Int)} {A : Option Addr} {n c : Nat} (hn : n = l.length) (hc : n ≤ c) (hm : c ≤ maxLen) (h : OrgsR w B A l) : Rd w B (.lst (orgsD l)) [.slice A n c] := by
  subst hn
  simp only [Rd]
  exact ⟨A, c, _, by rw [orgsD_len], by rw [orgsD_len]; exact hc, hm, h, orgs_rdl w B l⟩
theorem flatO_at : ∀ (l : List (Int × Int)) (j : Nat) (hj : j < l.length), (l.flatMap encO)[j * 2]? = some (.int .i64 l[j].1) ∧ (l.flatMap encO)[j * 2 + 1]? = some (.int .i64 l[j].2)
  | [], j, h => by simp at h
  | x :: l, 0, _ => by simp [encO]
  | x :: l, j + 1, h => by
    have ih := flatO_at l j (by simpa using h)
    rw [List.flatMap_cons, show (j + 1) * 2 = j * 2 + 2 by omega]
    exact ih
theorem orgs_at {w : World} {B : Nat} {A : Option Addr} {l : List (Int × Int)} (h : OrgsR w B A l) (j : Nat) (hj : j < l.length) :
    ∃ b o, A = some ⟨b, o, none⟩ ∧ b < B ∧ w.cell? ⟨b, o + j * 2, none⟩ = some (.int .i64 l[j].1) ∧ w.cell? ⟨b, o + j * 2 + 1, none⟩ = some (.int .i64 l[j].2) := by
  obtain ⟨h1, h2⟩ := flatO_at l j hj
  obtain ⟨b, o, e, hb, h3⟩ := h _ _ h1
  obtain ⟨b', o', e', hb', h4⟩ := h _ _ h2
  subst e
  simp only [Option.some.injEq, Addr.mk.injEq, and_true] at e'
  obtain ⟨rfl, rfl⟩ := e'
  exact ⟨b, o, rfl, hb, h3, by rw [Nat.add_assoc]; exact h4⟩
theorem row_newG8 (w : World) (cs : Array Value) (t : TypeId) (g : Nat) (hg : g = w.heap.size) : RowOf (w.alloc (.cells cs t)) (g + 1) (some ⟨g, 0, none⟩) cs.toList := by
  subst hg
  exact row_new w cs t
theorem encO_one (l : List (Int × Int)) : ∀ u ∈ l.flatMap encO, u.oneCell' = true := by
  intro u hu
  obtain ⟨x, _, hx⟩ := List.mem_flatMap.1 hu
  simp only [encO, List.mem_cons, List.not_mem_nil, or_false] at hx
  rcases hx with rfl | rfl <;> rfl
theorem flatO_snoc (l : List (Int × Int)) (x : Int × Int) : (l ++ [x]).flatMap encO = l.flatMap encO ++ [.int .i64 x.1, .int .i64 x.2] := by
  rw [List.flatMap_append]
  rfl
/-- A row of origins of the call's own. -/
abbrev orgA (v : Value) (l : List (Int × Int)) : Asn := rowA 41 2 v l.length (l.flatMap encO)
theorem MSt.orgR {w wx : World} {L : List Asn} {A : Option Addr} {n c : Nat} {l : List (Int × Int)} (h : MSt w (orgA (.slice A n c) l :: L) wx) (hn : n = l.length) : OrgsR wx wx.heap.size A l := by
  subst hn
  exact own_row (MSt.row h) fun b hb => ((MSt.row h).lt b hb).2
theorem MSt.orgV {w wx : World} {L : List Asn} {v : Value} {l : List (Int × Int)} (h : MSt w (orgA v l :: L) wx) : ∃ A c, v = .slice A l.length c ∧ l.length ≤ c ∧ c ≤ maxLen := by
  obtain ⟨A, c, rfl⟩ := own_slice (MSt.row h)
  exact ⟨A, c, rfl, own_cap (MSt.row h)⟩
theorem MSt.orgOw {w wx : World} {L : List Asn} {v : Value} {l : List (Int × Int)} (h : MSt w (orgA v l :: L) wx) : MSt w (owA (.lst (orgsD l)) [v] v.ownBlock.toList :: L) wx :=
  MSt.close0 h (fun w' => orgs_owl w' l) (orgsD_len l).symm
/-- One more origin. -/
theorem MSt.orgApp {w wx wy : World} {L : List Asn} {v v' : Value} {l : List (Int × Int)} {x : Int × Int} (h : MSt w (orgA v l :: L) wx) (hg : wx.grownBy wy v.ownBlock) (ho : wy.ownsRow w.heap.size 41 2 v' (l.length + 1) (l.flatMap encO ++ [.int .i64 x.1, .int .i64 x.2]))
    (hb : v'.ownBlock = v.ownBlock ∨ v'.ownBlock = some wx.heap.size) : MSt w (orgA v' (l ++ [x]) :: L) wy := by
  have h1 := MSt.app h hg ho hb
  rw [← flatO_snoc, show l.length + 1 = (l ++ [x]).length by simp] at h1
  exact h1
theorem MSt.boxO {w wx : World} {L : List Asn} {g : Nat} {a b : Int} (h : MSt w (boxA 41 2 g [.int .i64 a, .int .i64 b] :: L) wx) : wx.cell? ⟨g, 0, none⟩ = some (.int .i64 a) ∧ wx.cell? ⟨g, 1, none⟩ = some (.int .i64 b) ∧ g < wx.heap.size := by
  have hb := MSt.box h
  have f0 := hb.cellAt 0 (by decide)
  have f1 := hb.cellAt 1 (by decide)
  exact ⟨f0, f1, (hb.lt _ rfl).2⟩
end Go.Proofs.YtooghbejbjfakaaGreatDoor

/-
  Two drawn lists of origins. (Written by genoglaw.py.)
-/

namespace Go.Proofs.YtooghbejbjfakaaGreatDoor
open Go.RowKit
set_option linter.unusedVariables false
set_option linter.unusedSimpArgs false
/-- Two lists of origins are drawn, in memory of the call's own. -/
def TwoO (w : World) (e : Ending) (w' : World) : Prop := ∃ (ps : List (Int × Int)) (A : Option Addr) (q : Nat) (g : List Nat) (ps' : List (Int × Int)) (A' : Option Addr) (q' : Nat) (g' : List Nat), ps.length ≤ 5 ∧ ps'.length ≤ 5 ∧ e = .returned (.tuple #[.slice A ps.length q, .slice A' ps'.length q']) ∧ MSt w [owA (.lst (orgsD ps')) [.slice A' ps'.length q'] g', owA (.lst (orgsD ps)) [.slice A ps.length q] g] w'
set_option maxHeartbeats 1600000 in
set_option maxRecDepth 100000 in
theorem drawUnion_any (A : Option Addr) (n c : Nat) (w : World) (h : Code w w.heap.size A n) (hn : n ≤ 1048576) :
    Calls Tryz.prog 8 #[.slice A n c] w (TwoO w) := by
  have H0 := Lib.hid (MSt.start w)
  have HC := Lib.hid h
  clear h
  go_enter Tryz.func8, Tryz.ntmps8
  go_wp2_with fail
  refine (new_any A n c _ w.heap.size (Nat.le_refl _) HC.out hn).mono ?_
  rintro e w1 ⟨blk, rfl, hblk, hcur, hb1⟩
  have HB1 := Lib.hid hb1
  have HK := Lib.hid (And.intro hblk hcur)
  clear hb1 hblk hcur
  go_wp2_with fail
  refine (drawSome_any w1 _ blk HK.out.2).mono ?_
  rintro e w2 ⟨ps, A1, c1, f1, hp1, rfl, hD⟩
  have HD1 := Lib.hid hD
  clear hD
  go_wp2_with fail
  refine (drawSome_any w2 _ blk HD1.out.cur).mono ?_
  rintro e w3 ⟨ps', A2, c2, f2, hp2, rfl, hD⟩
  have HD2 := Lib.hid (H0.out.drawn HB1.out HK.out.1 (HD1.out.trans1 hD))
  clear hD
  go_wp2_with fail
  go_ret2
  exact ⟨ps, A1, c1, f1, ps', A2, c2, f2, hp1, hp2, rfl, HD2.out⟩

end Go.Proofs.YtooghbejbjfakaaGreatDoor

/-
  Lists of origins and of numbers, as the laws compare them. (Written by genoglaw.py.)
-/

namespace Go.Proofs.YtooghbejbjfakaaGreatDoor
open Go.RowKit
set_option linter.unusedVariables false
set_option linter.unusedSimpArgs false
/-- The value that the law makes of a list of origins. -/
def tblO (l : List (Int × Int)) : Dt := .agg [.int 0, .int 0, .int 0, .str ⟨#[]⟩, .lst [], .lst (([] : List ByteArray).map .str), .lst [.agg [.lst (([] : List Int).map .int), .lst (orgsD l)]]]
theorem isVal_tblO (l : List (Int × Int)) : IsVal (tblO l) := IsVal.mk 0 0 0 ⟨#[]⟩ [] [] _ (by simp) (by simp; exact ⟨[], _, rfl, orgsD_org _⟩)
theorem rd_nilL (w : World) (B : Nat) : Rd w B (.lst []) [.slice none 0 0] := by
  simp only [Rd]
  exact ⟨none, 0, [], rfl, Nat.le_refl _, by unfold maxLen; omega, fun k v h => by simp at h, by simp [RdL]⟩
theorem rd_tblO {w : World} {B g : Nat} {l : List (Int × Int)} {A : Option Addr} {n c : Nat} (h : Rd w B (.lst (orgsD l)) [.slice A n c]) (hg : g < B) (h0 : w.cell? ⟨g, 0, none⟩ = some (.slice none 0 0)) (h1 : w.cell? ⟨g, 1, none⟩ = some (.slice A n c)) :
    Rd w B (tblO l) [.int .i64 0, .int .i64 0, .int .i64 0, .string ⟨#[]⟩, .slice none 0 0, .slice none 0 0, .slice (some ⟨g, 0, none⟩) 1 1] := by
  have hn := rd_nilL w B
  refine ⟨[.int .i64 0], _, rfl, rfl, [.int .i64 0], _, rfl, rfl, [.int .i64 0], _, rfl, rfl, [.string ⟨#[]⟩], _, rfl, rfl, [.slice none 0 0], _, rfl, hn, [.slice none 0 0], _, rfl, hn, [_], [], rfl, ?_, rfl⟩
  refine ⟨some ⟨g, 0, none⟩, 1, [.slice none 0 0, .slice A n c], rfl, Nat.le_refl _, by unfold maxLen; omega, fun k v hk => ?_, ?_⟩
  · refine ⟨g, 0, rfl, hg, ?_⟩
    match k, hk with
    | 0, hk => simp at hk; subst hk; exact h0
    | 1, hk => simp at hk; subst hk; exact h1
    | k + 2, hk => simp at hk
  · exact ⟨[.slice none 0 0, .slice A n c], [], rfl, ⟨[.slice none 0 0], _, rfl, hn, [.slice A n c], [], rfl, h, rfl⟩, rfl⟩
set_option maxHeartbeats 800000 in
set_option maxRecDepth 100000 in
theorem tableO_any (l : List (Int × Int)) (A : Option Addr) (n c : Nat) (w : World) (h : Rd w w.heap.size (.lst (orgsD l)) [.slice A n c]) :
    Calls Tryz.prog 36 #[.slice A n c] w fun e w' => ∃ cs : List Value, e = .returned (.agg cs.toArray) ∧ Rd w' w'.heap.size (tblO l) cs ∧ Below w.heap.size w w' := by
  have HH := Lib.hid h
  clear h
  go_enter Tryz.func36, Tryz.ntmps36
  go_wp2_with fail
  refine bodyPost_ret (v := .agg #[.int .i64 0, .int .i64 0, .int .i64 0, .string ⟨#[]⟩, .slice none 0 0, .slice none 0 0, .slice (some ⟨w.heap.size + 1, 0, none⟩) 1 1]) (by simp [results, Tryz.results36, go_sem]) rfl ⟨[.int .i64 0, .int .i64 0, .int .i64 0, .string ⟨#[]⟩, .slice none 0 0, .slice none 0 0, .slice (some ⟨w.heap.size + 1, 0, none⟩) 1 1], rfl, ?_, ?_⟩
  · refine rd_tblO ((HH.out.below (B := w.heap.size) ?_).more ?_) ?_ ?_ ?_
    · repeat' (first | refine Below.setCell ?_ (by first | (simp; done) | (simp; omega) | omega) _ | refine Below.alloc ?_ (by first | (simp; done) | (simp; omega) | omega) _ | exact Below.refl _ _)
    · first | (simp; done) | (simp; omega)
    · first | (simp; done) | (simp; omega)
    · simp
    · simp
  · repeat' (first | refine Below.setCell ?_ (by first | (simp; done) | (simp; omega) | omega) _ | refine Below.alloc ?_ (by first | (simp; done) | (simp; omega) | omega) _ | exact Below.refl _ _)
set_option maxHeartbeats 800000 in
set_option maxRecDepth 100000 in
theorem sameO_any (l : List (Int × Int)) (A A' : Option Addr) (n n' c c' : Nat) (w : World) (h : Rd w w.heap.size (.lst (orgsD l)) [.slice A n c]) (h' : Rd w w.heap.size (.lst (orgsD l)) [.slice A' n' c']) :
    Calls Tryz.prog 10 #[.slice A n c, .slice A' n' c'] w fun e w' => e = .returned (.bool true) ∧ Below w.heap.size w w' := by
  have HH := Lib.hid (And.intro h h')
  clear h h'
  go_enter Tryz.func10, Tryz.ntmps10
  go_wp2_with fail
  refine (tableO_any l A n c _ HH.out.1).mono ?_
  rintro e w1 ⟨cs, rfl, hr, hb⟩
  have H1 := Lib.hid (And.intro hr hb)
  clear hr hb
  obtain ⟨y0, y1, y2, y3, y4, n4, c4, y5, n5, c5, y6, n6, c6, rfl⟩ := (isVal_tblO l).form H1.out.1
  go_wp2_with fail
  refine (tableO_any l A' n' c' _ ((HH.out.2.below H1.out.2).more H1.out.2.size)).mono ?_
  rintro e w2 ⟨cs, rfl, hr, hb⟩
  have H2 := Lib.hid (And.intro hr hb)
  clear hr hb
  obtain ⟨x0, x1, x2, x3, x4, m4, e4, x5, m5, e5, x6, m6, e6, rfl⟩ := (isVal_tblO l).form H2.out.1
  go_wp2_with fail
  refine (specEqualValue_any (isVal_tblO l) (isVal_tblO l) _ _ _ ((H1.out.1.below H2.out.2).more H2.out.2.size) H2.out.1).mono ?_
  rintro e w3 ⟨b, rfl, hbi, hb⟩
  obtain rfl : b = true := hbi.2 rfl
  have H3 := Lib.hid ((H1.out.2.trans (H2.out.2.mono H1.out.2.size)).trans (hb.mono (Nat.le_trans H1.out.2.size H2.out.2.size)))
  clear hbi hb
  go_wp2_with fail
  go_ret
  exact ⟨rfl, H3.out⟩
set_option maxHeartbeats 800000 in
set_option maxRecDepth 100000 in
theorem sameI_any (A A' : Option Addr) (n n' c c' : Nat) (ss : List Int) (B : Nat) (w : World) (h : RowOf w B A (intV ss)) (h' : RowOf w B A' (intV ss)) (hn : ss.length ≤ 9223372036854775807) (e1 : n = ss.length) (e2 : n' = ss.length) :
    Calls Tryz.prog 18 #[.slice A n c, .slice A' n' c'] w fun e w' => e = .returned (.bool true) ∧ Below w.heap.size w w' := by
  subst e1 e2
  go_enter Tryz.func18, Tryz.ntmps18
  go_wp2_with fail
  go_loopw [5] (fun i wr => ∃ (k m : Nat), k ≤ ss.length ∧ i = .int .i64 k ∧ wr = w.drewN m) (fun i _ => ss.length - (intOf i).toNat)
  case atStart => exact ⟨0, 0, Nat.zero_le _, rfl, rfl⟩
  case round =>
    obtain ⟨k, m, hk, rfl, rfl⟩ := hrel
    by_cases hlt : k < ss.length
    · obtain ⟨b, o, rfl, _, hc⟩ := h k _ (intV_get ss k hlt)
      obtain ⟨b', o', rfl, _, hc'⟩ := h' k _ (intV_get ss k hlt)
      generalize ss[k] = x at hc hc'
      have hxx : ((x : Int) != x) = false := by simp
      go_wp2_with fail
      go_quiet (fail)
      go_wp2_with fail
      exact ⟨⟨k + 1, _, by omega, by simp, rfl⟩, by simp [intOf]; omega⟩
    · go_wp2_with fail
      go_ret
      exact ⟨rfl, below_drewN (Below.refl w.heap.size w) m⟩

end Go.Proofs.YtooghbejbjfakaaGreatDoor

/-
  The model puts an origin in its place. (Written by gen8.py.)
-/

namespace Go.Proofs.YtooghbejbjfakaaGreatDoor
open Go.RowKit Go.Lib Go.Sort
set_option linter.unusedVariables false
set_option linter.unusedSimpArgs false

/-- How far the loop has come. -/
def PutSt (o : Int × Int) (l : List (Int × Int)) (b : Bool) (cur : List (Int × Int)) : Prop := (b = true ∧ Pl o l ∧ cur = putO o l) ∨ (b = false ∧ ¬ Pl o l ∧ cur = l)
theorem PutSt.tt {o : Int × Int} {l cur : List (Int × Int)} (h : PutSt o l true cur) : Pl o l ∧ cur = putO o l := by
  rcases h with h | h
  · exact h.2
  · cases h.1
theorem PutSt.ff {o : Int × Int} {l cur : List (Int × Int)} (h : PutSt o l false cur) : ¬ Pl o l ∧ cur = l := by
  rcases h with h | h
  · cases h.1
  · exact h.2
theorem PutSt.mkT {o : Int × Int} {l cur : List (Int × Int)} (h : Pl o l) (h' : cur = putO o l) : PutSt o l true cur := .inl ⟨rfl, h, h'⟩
theorem PutSt.mkF {o : Int × Int} {l cur : List (Int × Int)} (h : ¬ Pl o l) (h' : cur = l) : PutSt o l false cur := .inr ⟨rfl, h, h'⟩
set_option maxHeartbeats 3200000 in
set_option maxRecDepth 100000 in
theorem l8Put_any (l : List (Int × Int)) (hl : l.length ≤ 2097152) (a0 a1 : Int) (A : Option Addr) (n c : Nat) (hn : n = l.length) (w : World) (h : OrgsR w w.heap.size A l) :
    Calls Tryz.prog 37 #[.slice A n c, .agg #[.int .i64 a0, .int .i64 a1]] w fun e w' => ∃ v, e = .returned v ∧ MSt w [orgA v (putO (a0, a1) l)] w' := by
  subst hn
  have HL := Lib.hid h
  have h0 := ((MSt.start w).new 41 2 #[.int .i64 a0, .int .i64 a1] rfl).row_lit 41 2 0 #[] (by unfold maxLen; omega) rfl
  simp only [World.size_alloc] at h0
  have H0 : Hid (MSt w [orgA (.slice (some ⟨w.heap.size + 1, 0, none⟩) 0 0) [], boxA 41 2 w.heap.size [.int .i64 a0, .int .i64 a1]] _) := Lib.hid h0
  clear h0 h
  go_enter Tryz.func37, Tryz.ntmps37
  go_wp2_with fail
  go_loopw [5, 6, 7] (fun v dn i wr => ∃ (j : Nat) (b : Bool) (cur : List (Int × Int)), j ≤ l.length ∧ i = .int .i64 (j : Int) ∧ dn = .bool b ∧ cur.length ≤ j + 1 ∧ Hid (PutSt (a0, a1) (l.take j) b cur) ∧ Hid (MSt w [orgA v cur, boxA 41 2 w.heap.size [.int .i64 a0, .int .i64 a1]] wr)) (fun _ _ i _ => l.length - (intOf i).toNat)
  case atStart => exact ⟨0, false, [], Nat.zero_le _, rfl, rfl, by simp, Lib.hid (.mkF (pl_nil _) rfl), H0⟩
  case round =>
    obtain ⟨j, bd, cur, hj, rfl, rfl, hcl, HE, H1⟩ := hrel
    obtain ⟨A3, q3, rfl, -, -⟩ := MSt.orgV H1.out
    by_cases hlt : j < l.length
    · obtain ⟨b, o, rfl, hbB, k00, k01⟩ := orgs_at HL.out j hlt
      obtain ⟨x, hx⟩ : ∃ x, x = l[j] := ⟨_, rfl⟩
      rw [← hx] at k00 k01
      obtain ⟨x0, x1⟩ := x
      simp only at k00 k01
      have HX := Lib.hid hx
      have HC0 := Lib.hid (And.intro k00 k01)
      have hli : (j : Int) < (l.length : Int) := by omega
      clear hx k00 k01
      have HTK := Lib.hid (show l.take (j + 1) = l.take j ++ [(x0, x1)] by rw [List.take_succ_eq_append_getElem hlt, ← HX.out])
      have h00 := ((MSt.bel H1.out).cell (p := ⟨b, o + j * 2, none⟩) hbB).trans HC0.out.1
      have h01 := ((MSt.bel H1.out).cell (p := ⟨b, o + j * 2 + 1, none⟩) hbB).trans HC0.out.2
      have hsz := MSt.size H1.out
      have hbw := Nat.lt_of_lt_of_le hbB hsz
      obtain ⟨fB0, fB1, fBlt⟩ := MSt.boxO (MSt.nth (L1 := [_]) H1.out)
      rcases olt_tri (a0, a1) (x0, x1) with hlo | he | hgo
      · have hq : (x0 == a0) = false ∨ (x0 == a0) = true ∧ (x1 == a1) = false := by
          have hne : ¬ (x0 = a0 ∧ x1 = a1) := by rintro ⟨rfl, rfl⟩; exact olt_irr _ hlo
          by_cases e : x0 = a0
          · exact .inr ⟨by simpa using e, by simp; exact fun e' => hne ⟨e, e'⟩⟩
          · exact .inl (by simpa using e)
        have HLO := Lib.hid hlo
        clear hlo
        rcases hq with e1 | ⟨e0, e1⟩
        all_goals
          go_wp2_with fail
          go_quiet (fail)
          obtain ⟨wq, hwq⟩ : ∃ wq, wq = wr.drewN nq := ⟨_, rfl⟩
          have H2 : Hid (MSt w [orgA (.slice A3 cur.length q3) cur, boxA 41 2 w.heap.size [.int .i64 a0, .int .i64 a1]] wq) := Lib.hid (hwq ▸ MSt.drewN H1.out nq)
          rw [← hwq]
          clear h00 h01 hsz hbw fB0 fB1 fBlt
          clear hwq H1
          have h00 := ((MSt.bel H2.out).cell (p := ⟨b, o + j * 2, none⟩) hbB).trans HC0.out.1
          have h01 := ((MSt.bel H2.out).cell (p := ⟨b, o + j * 2 + 1, none⟩) hbB).trans HC0.out.2
          have hsz := MSt.size H2.out
          have hbw := Nat.lt_of_lt_of_le hbB hsz
          obtain ⟨fB0, fB1, fBlt⟩ := MSt.boxO (MSt.nth (L1 := [_]) H2.out)
          cases bd
          · have hcj : cur.length ≤ j := by rw [HE.out.ff.2, List.length_take]; omega
            go_wp2_with fail
            go_region_held3 (fun w' => w'.cell? ⟨b, o + j * 2, none⟩ = some (.int .i64 x0) ∧ w'.cell? ⟨b, o + j * 2 + 1, none⟩ = some (.int .i64 x1) ∧ w'.cell? ⟨w.heap.size, 0, none⟩ = some (.int .i64 a0) ∧ w'.cell? ⟨w.heap.size, 1, none⟩ = some (.int .i64 a1)) (first | exact ⟨h00, h01, fB0, fB1⟩ | exact ⟨(hb1.cell (p := ⟨b, o + j * 2, none⟩) hbw).trans h00, (hb1.cell (p := ⟨b, o + j * 2 + 1, none⟩) hbw).trans h01, (hb1.cell (p := ⟨w.heap.size, 0, none⟩) fBlt).trans fB0, (hb1.cell (p := ⟨w.heap.size, 1, none⟩) fBlt).trans fB1⟩)
              (first | (go_at_call 84; refine (l3Before_any a0 a1 x0 x1 _).mono ?_; rintro e w2 ⟨rr, rfl, hc, hb1⟩; have HC := Lib.hid hc; clear hc))
            have H3 := Lib.hid ((MSt.drew H2.out).later hb1)
            clear hb1 H2
            clear h00 h01 hsz hbw fB0 fB1 fBlt
            have h00 := ((MSt.bel H3.out).cell (p := ⟨b, o + j * 2, none⟩) hbB).trans HC0.out.1
            have h01 := ((MSt.bel H3.out).cell (p := ⟨b, o + j * 2 + 1, none⟩) hbB).trans HC0.out.2
            have hsz := MSt.size H3.out
            have hbw := Nat.lt_of_lt_of_le hbB hsz
            obtain ⟨fB0, fB1, fBlt⟩ := MSt.boxO (MSt.nth (L1 := [_]) H3.out)
            obtain rfl : rr = true := HC.out.2 HLO.out
            go_wp2_with (first | (at_builtin; refine appO _ rfl (.tmp 31) (.tmp 33) rfl w.heap.size _ _ _ rfl (MSt.row (H3.out.alloc _)) (some ⟨_, 0, none⟩) 1 1 _ [.int .i64 a0, .int .i64 a1] rfl rfl (row_new _ #[.int .i64 a0, .int .i64 a1] 41) (encO_one [(a0, a1)]) (by first | omega | (simp; omega)) (by simp; omega) ?_; intro v3 w3 hown3 hgr3 hn3; obtain ⟨A9, q9, rfl⟩ := own_slice hown3; have h3 := MSt.orgApp (x := (a0, a1)) (H3.out.alloc (.cells #[.int .i64 a0, .int .i64 a1] 41)) hgr3 hown3 hn3.2; have H4 := Lib.hid h3; clear h3 hown3 hgr3 hn3; clear h00 h01 hsz hbw fB0 fB1 fBlt; have h00 := ((MSt.bel H4.out).cell (p := ⟨b, o + j * 2, none⟩) hbB).trans HC0.out.1; have h01 := ((MSt.bel H4.out).cell (p := ⟨b, o + j * 2 + 1, none⟩) hbB).trans HC0.out.2; have hsz := MSt.size H4.out; have hbw := Nat.lt_of_lt_of_le hbB hsz; obtain ⟨fB0, fB1, fBlt⟩ := MSt.boxO (MSt.nth (L1 := [_]) H4.out)) | (at_builtin; refine appO _ rfl (.tmp 35) (.tmp 40) rfl w.heap.size _ _ _ rfl (MSt.row (H4.out.alloc _)) (some ⟨_, 0, none⟩) 1 1 _ [.int .i64 x0, .int .i64 x1] rfl rfl (row_new _ #[.int .i64 x0, .int .i64 x1] 41) (encO_one [(x0, x1)]) (by first | omega | (simp; omega)) (by simp; omega) ?_; intro v3 w3 hown3 hgr3 hn3; obtain ⟨A8, q8, rfl⟩ := own_slice hown3; have h3 := MSt.orgApp (x := (x0, x1)) (H4.out.alloc (.cells #[.int .i64 x0, .int .i64 x1] 41)) hgr3 hown3 hn3.2; rw [show (cur ++ [(a0, a1)]).length = cur.length + 1 by simp] at h3; have H5 := Lib.hid h3; clear h3 hown3 hgr3 hn3))
            exact ⟨⟨j + 1, true, cur ++ [(a0, a1)] ++ [(x0, x1)], by omega, by simp, rfl, by simp; omega, Lib.hid (by rw [HTK.out]; exact .mkT ((pl_snoc _ _ _).2 (.inr (.inr HLO.out))) (by rw [putO_before HE.out.ff.1 HLO.out, HE.out.ff.2])), H5⟩, by simp [intOf]; omega⟩
          · go_wp2_with fail
            go_quiet (fail)
            obtain ⟨wp, hwp⟩ : ∃ wp, wp = wq.drewN nq := ⟨_, rfl⟩
            have H3 : Hid (MSt w [orgA (.slice A3 cur.length q3) cur, boxA 41 2 w.heap.size [.int .i64 a0, .int .i64 a1]] wp) := Lib.hid (hwp ▸ MSt.drewN H2.out nq)
            rw [← hwp]
            clear h00 h01 hsz hbw fB0 fB1 fBlt
            clear hwp H2
            have h00 := ((MSt.bel H3.out).cell (p := ⟨b, o + j * 2, none⟩) hbB).trans HC0.out.1
            have h01 := ((MSt.bel H3.out).cell (p := ⟨b, o + j * 2 + 1, none⟩) hbB).trans HC0.out.2
            have hsz := MSt.size H3.out
            have hbw := Nat.lt_of_lt_of_le hbB hsz
            obtain ⟨fB0, fB1, fBlt⟩ := MSt.boxO (MSt.nth (L1 := [_]) H3.out)
            go_wp2_with (at_builtin; refine appO _ rfl (.tmp 35) (.tmp 40) rfl w.heap.size _ _ _ rfl (MSt.row (H3.out.alloc _)) (some ⟨_, 0, none⟩) 1 1 _ [.int .i64 x0, .int .i64 x1] rfl rfl (row_new _ #[.int .i64 x0, .int .i64 x1] 41) (encO_one [(x0, x1)]) (by first | omega | (simp; omega)) (by simp; omega) ?_; intro v3 w3 hown3 hgr3 hn3; obtain ⟨A9, q9, rfl⟩ := own_slice hown3; have h3 := MSt.orgApp (x := (x0, x1)) (H3.out.alloc (.cells #[.int .i64 x0, .int .i64 x1] 41)) hgr3 hown3 hn3.2; have H5 := Lib.hid h3; clear h3 hown3 hgr3 hn3)
            exact ⟨⟨j + 1, true, cur ++ [(x0, x1)], by omega, by simp, rfl, by simp; omega, Lib.hid (by rw [HTK.out]; exact .mkT ((pl_snoc _ _ _).2 (.inl HE.out.tt.1)) (by rw [putO_in HE.out.tt.1, HE.out.tt.2])), H5⟩, by simp [intOf]; omega⟩

      · obtain ⟨rfl, rfl⟩ : a0 = x0 ∧ a1 = x1 := by simpa using he
        clear he
        have ea : (a0 == a0) = true := by simp
        have eb : (a1 == a1) = true := by simp
        go_wp2_with fail
        go_quiet (fail)
        obtain ⟨wq, hwq⟩ : ∃ wq, wq = wr.drewN nq := ⟨_, rfl⟩
        have H2 : Hid (MSt w [orgA (.slice A3 cur.length q3) cur, boxA 41 2 w.heap.size [.int .i64 a0, .int .i64 a1]] wq) := Lib.hid (hwq ▸ MSt.drewN H1.out nq)
        rw [← hwq]
        clear h00 h01 hsz hbw fB0 fB1 fBlt
        clear hwq H1
        have h00 := ((MSt.bel H2.out).cell (p := ⟨b, o + j * 2, none⟩) hbB).trans HC0.out.1
        have h01 := ((MSt.bel H2.out).cell (p := ⟨b, o + j * 2 + 1, none⟩) hbB).trans HC0.out.2
        have hsz := MSt.size H2.out
        have hbw := Nat.lt_of_lt_of_le hbB hsz
        obtain ⟨fB0, fB1, fBlt⟩ := MSt.boxO (MSt.nth (L1 := [_]) H2.out)
        go_wp2_with fail
        go_quiet (fail)
        obtain ⟨wp, hwp⟩ : ∃ wp, wp = wq.drewN nq := ⟨_, rfl⟩
        have H3 : Hid (MSt w [orgA (.slice A3 cur.length q3) cur, boxA 41 2 w.heap.size [.int .i64 a0, .int .i64 a1]] wp) := Lib.hid (hwp ▸ MSt.drewN H2.out nq)
        rw [← hwp]
        clear h00 h01 hsz hbw fB0 fB1 fBlt
        clear hwp H2
        have h00 := ((MSt.bel H3.out).cell (p := ⟨b, o + j * 2, none⟩) hbB).trans HC0.out.1
        have h01 := ((MSt.bel H3.out).cell (p := ⟨b, o + j * 2 + 1, none⟩) hbB).trans HC0.out.2
        have hsz := MSt.size H3.out
        have hbw := Nat.lt_of_lt_of_le hbB hsz
        obtain ⟨fB0, fB1, fBlt⟩ := MSt.boxO (MSt.nth (L1 := [_]) H3.out)
        go_wp2_with (at_builtin; refine appO _ rfl (.tmp 35) (.tmp 40) rfl w.heap.size _ _ _ rfl (MSt.row (H3.out.alloc _)) (some ⟨_, 0, none⟩) 1 1 _ [.int .i64 a0, .int .i64 a1] rfl rfl (row_new _ #[.int .i64 a0, .int .i64 a1] 41) (encO_one [(a0, a1)]) (by first | omega | (simp; omega)) (by simp; omega) ?_; intro v3 w3 hown3 hgr3 hn3; obtain ⟨A9, q9, rfl⟩ := own_slice hown3; have h3 := MSt.orgApp (x := (a0, a1)) (H3.out.alloc (.cells #[.int .i64 a0, .int .i64 a1] 41)) hgr3 hown3 hn3.2; have H5 := Lib.hid h3; clear h3 hown3 hgr3 hn3)
        exact ⟨⟨j + 1, true, cur ++ [(a0, a1)], by omega, by simp, rfl, by simp; omega, Lib.hid (by rw [HTK.out]; exact .mkT ((pl_snoc _ _ _).2 (.inr (.inl rfl))) (by cases bd <;> first | (rw [HE.out.ff.2, putO_same HE.out.ff.1]) | (rw [HE.out.tt.2, putO_in HE.out.tt.1]))), H5⟩, by simp [intOf]; omega⟩
      · have hnq : ¬ (x0 = a0 ∧ x1 = a1) := by rintro ⟨rfl, rfl⟩; exact olt_irr _ hgo
        have hq : (x0 == a0) = false ∨ (x0 == a0) = true ∧ (x1 == a1) = false := by
          by_cases e : x0 = a0
          · exact .inr ⟨by simpa using e, by simp; exact fun e' => hnq ⟨e, e'⟩⟩
          · exact .inl (by simpa using e)
        have HNE := Lib.hid (show ¬ (a0 = x0 ∧ a1 = x1) from fun h => hnq ⟨h.1.symm, h.2.symm⟩)
        have HLO := Lib.hid (show ¬ OLt (a0, a1) (x0, x1) from fun h => olt_irr _ (olt_tr h hgo))
        clear hgo hnq
        rcases hq with e1 | ⟨e0, e1⟩
        all_goals
          go_wp2_with fail
          go_quiet (fail)
          obtain ⟨wq, hwq⟩ : ∃ wq, wq = wr.drewN nq := ⟨_, rfl⟩
          have H2 : Hid (MSt w [orgA (.slice A3 cur.length q3) cur, boxA 41 2 w.heap.size [.int .i64 a0, .int .i64 a1]] wq) := Lib.hid (hwq ▸ MSt.drewN H1.out nq)
          rw [← hwq]
          clear h00 h01 hsz hbw fB0 fB1 fBlt
          clear hwq H1
          have h00 := ((MSt.bel H2.out).cell (p := ⟨b, o + j * 2, none⟩) hbB).trans HC0.out.1
          have h01 := ((MSt.bel H2.out).cell (p := ⟨b, o + j * 2 + 1, none⟩) hbB).trans HC0.out.2
          have hsz := MSt.size H2.out
          have hbw := Nat.lt_of_lt_of_le hbB hsz
          obtain ⟨fB0, fB1, fBlt⟩ := MSt.boxO (MSt.nth (L1 := [_]) H2.out)
          cases bd
          · have hcj : cur.length ≤ j := by rw [HE.out.ff.2, List.length_take]; omega
            go_wp2_with fail
            go_region_held3 (fun w' => w'.cell? ⟨b, o + j * 2, none⟩ = some (.int .i64 x0) ∧ w'.cell? ⟨b, o + j * 2 + 1, none⟩ = some (.int .i64 x1) ∧ w'.cell? ⟨w.heap.size, 0, none⟩ = some (.int .i64 a0) ∧ w'.cell? ⟨w.heap.size, 1, none⟩ = some (.int .i64 a1)) (first | exact ⟨h00, h01, fB0, fB1⟩ | exact ⟨(hb1.cell (p := ⟨b, o + j * 2, none⟩) hbw).trans h00, (hb1.cell (p := ⟨b, o + j * 2 + 1, none⟩) hbw).trans h01, (hb1.cell (p := ⟨w.heap.size, 0, none⟩) fBlt).trans fB0, (hb1.cell (p := ⟨w.heap.size, 1, none⟩) fBlt).trans fB1⟩)
              (first | (go_at_call 84; refine (l3Before_any a0 a1 x0 x1 _).mono ?_; rintro e w2 ⟨rr, rfl, hc, hb1⟩; have HC := Lib.hid hc; clear hc))
            have H3 := Lib.hid ((MSt.drew H2.out).later hb1)
            clear hb1 H2
            clear h00 h01 hsz hbw fB0 fB1 fBlt
            have h00 := ((MSt.bel H3.out).cell (p := ⟨b, o + j * 2, none⟩) hbB).trans HC0.out.1
            have h01 := ((MSt.bel H3.out).cell (p := ⟨b, o + j * 2 + 1, none⟩) hbB).trans HC0.out.2
            have hsz := MSt.size H3.out
            have hbw := Nat.lt_of_lt_of_le hbB hsz
            obtain ⟨fB0, fB1, fBlt⟩ := MSt.boxO (MSt.nth (L1 := [_]) H3.out)
            obtain rfl : rr = false := by cases rr; rfl; exact (HLO.out (HC.out.1 rfl)).elim
            go_wp2_with (at_builtin; refine appO _ rfl (.tmp 35) (.tmp 40) rfl w.heap.size _ _ _ rfl (MSt.row (H3.out.alloc _)) (some ⟨_, 0, none⟩) 1 1 _ [.int .i64 x0, .int .i64 x1] rfl rfl (row_new _ #[.int .i64 x0, .int .i64 x1] 41) (encO_one [(x0, x1)]) (by first | omega | (simp; omega)) (by simp; omega) ?_; intro v3 w3 hown3 hgr3 hn3; obtain ⟨A9, q9, rfl⟩ := own_slice hown3; have h3 := MSt.orgApp (x := (x0, x1)) (H3.out.alloc (.cells #[.int .i64 x0, .int .i64 x1] 41)) hgr3 hown3 hn3.2; have H5 := Lib.hid h3; clear h3 hown3 hgr3 hn3)
            exact ⟨⟨j + 1, false, cur ++ [(x0, x1)], by omega, by simp, rfl, by simp; omega, Lib.hid (by rw [HTK.out]; exact .mkF (fun h => by rcases (pl_snoc _ _ _).1 h with h | h | h; exact HE.out.ff.1 h; exact HNE.out (by simpa using h); exact HLO.out h) (by rw [HE.out.ff.2])), H5⟩, by simp [intOf]; omega⟩
          · go_wp2_with fail
            go_quiet (fail)
            obtain ⟨wp, hwp⟩ : ∃ wp, wp = wq.drewN nq := ⟨_, rfl⟩
            have H3 : Hid (MSt w [orgA (.slice A3 cur.length q3) cur, boxA 41 2 w.heap.size [.int .i64 a0, .int .i64 a1]] wp) := Lib.hid (hwp ▸ MSt.drewN H2.out nq)
            rw [← hwp]
            clear h00 h01 hsz hbw fB0 fB1 fBlt
            clear hwp H2
            have h00 := ((MSt.bel H3.out).cell (p := ⟨b, o + j * 2, none⟩) hbB).trans HC0.out.1
            have h01 := ((MSt.bel H3.out).cell (p := ⟨b, o + j * 2 + 1, none⟩) hbB).trans HC0.out.2
            have hsz := MSt.size H3.out
            have hbw := Nat.lt_of_lt_of_le hbB hsz
            obtain ⟨fB0, fB1, fBlt⟩ := MSt.boxO (MSt.nth (L1 := [_]) H3.out)
            go_wp2_with (at_builtin; refine appO _ rfl (.tmp 35) (.tmp 40) rfl w.heap.size _ _ _ rfl (MSt.row (H3.out.alloc _)) (some ⟨_, 0, none⟩) 1 1 _ [.int .i64 x0, .int .i64 x1] rfl rfl (row_new _ #[.int .i64 x0, .int .i64 x1] 41) (encO_one [(x0, x1)]) (by first | omega | (simp; omega)) (by simp; omega) ?_; intro v3 w3 hown3 hgr3 hn3; obtain ⟨A9, q9, rfl⟩ := own_slice hown3; have h3 := MSt.orgApp (x := (x0, x1)) (H3.out.alloc (.cells #[.int .i64 x0, .int .i64 x1] 41)) hgr3 hown3 hn3.2; have H5 := Lib.hid h3; clear h3 hown3 hgr3 hn3)
            exact ⟨⟨j + 1, true, cur ++ [(x0, x1)], by omega, by simp, rfl, by simp; omega, Lib.hid (by rw [HTK.out]; exact .mkT ((pl_snoc _ _ _).2 (.inl HE.out.tt.1)) (by rw [putO_in HE.out.tt.1, HE.out.tt.2])), H5⟩, by simp [intOf]; omega⟩

    · obtain rfl : j = l.length := by omega
      obtain ⟨fB0, fB1, fBlt⟩ := MSt.boxO (MSt.nth (L1 := [_]) H1.out)
      have hsz := MSt.size H1.out
      cases bd
      · go_wp2_with (at_builtin; refine appO _ rfl (.tmp 44) (.tmp 46) rfl w.heap.size _ _ _ rfl (MSt.row (H1.out.alloc _)) (some ⟨_, 0, none⟩) 1 1 _ [.int .i64 a0, .int .i64 a1] rfl rfl (row_new _ #[.int .i64 a0, .int .i64 a1] 41) (encO_one [(a0, a1)]) (by first | omega | (simp; omega)) (by simp; omega) ?_; intro v3 w3 hown3 hgr3 hn3; obtain ⟨A9, q9, rfl⟩ := own_slice hown3; have h3 := MSt.orgApp (x := (a0, a1)) (H1.out.alloc (.cells #[.int .i64 a0, .int .i64 a1] 41)) hgr3 hown3 hn3.2; have H5 := Lib.hid h3; clear h3 hown3 hgr3 hn3)
        go_ret
        have hT := HE.out
        rw [List.take_length] at hT
        refine ⟨_, rfl, ?_⟩
        rw [putO_end hT.ff.1, ← hT.ff.2]
        exact MSt.drop (MSt.nth (L1 := [_]) H5.out)
      · go_wp2_with fail
        go_ret
        have hT := HE.out
        rw [List.take_length] at hT
        refine ⟨_, rfl, ?_⟩
        rw [← hT.tt.2]
        exact MSt.drop (MSt.nth (L1 := [_]) H1.out)
end Go.Proofs.YtooghbejbjfakaaGreatDoor

/-
  The model's union of origins. (Written by gen8.py.)
-/

namespace Go.Proofs.YtooghbejbjfakaaGreatDoor
open Go.RowKit Go.Lib Go.Sort
set_option linter.unusedVariables false
set_option linter.unusedSimpArgs false

set_option maxHeartbeats 3200000 in
set_option maxRecDepth 100000 in
theorem specUnion_any (la lb : List (Int × Int)) (hl : la.length + lb.length ≤ 2097152) (A A' : Option Addr) (n n' c c' : Nat) (hn : n = la.length) (hn' : n' = lb.length) (w : World) (h : OrgsR w w.heap.size A la) (h' : OrgsR w w.heap.size A' lb) :
    Calls Tryz.prog 11 #[.slice A n c, .slice A' n' c'] w fun e w' => ∃ v, e = .returned v ∧ MSt w [orgA v (setO (la ++ lb))] w' := by
  subst hn hn'
  have HA := Lib.hid h
  have HB := Lib.hid h'
  have H0 : Hid (MSt w [orgA (.slice (some ⟨w.heap.size, 0, none⟩) 0 0) (setO ([] : List (Int × Int)))] _) := Lib.hid ((MSt.start w).row_lit 41 2 0 #[] (by unfold maxLen; omega) rfl)
  clear h h'
  go_enter Tryz.func11, Tryz.ntmps11
  go_wp2_with fail
  go_loopw [5, 6] (fun v i wr => ∃ (j : Nat), j ≤ la.length ∧ i = .int .i64 (j : Int) ∧ Hid (MSt w [orgA v (setO (la.take j))] wr)) (fun _ i _ => la.length - (intOf i).toNat)
  case atStart => exact ⟨0, Nat.zero_le _, rfl, H0⟩
  case round =>
    obtain ⟨j, hj, rfl, H1⟩ := hrel
    obtain ⟨A3, q3, rfl, -, -⟩ := MSt.orgV H1.out
    by_cases hlt : j < la.length
    · obtain ⟨b, o, rfl, hbB, k00, k01⟩ := orgs_at HA.out j hlt
      obtain ⟨x, hx⟩ : ∃ x, x = la[j] := ⟨_, rfl⟩
      rw [← hx] at k00 k01
      obtain ⟨x0, x1⟩ := x
      simp only at k00 k01
      have hSl : (setO (la.take j)).length ≤ 2097152 := Nat.le_trans (setO_len _) (by simp; omega)
      have hnx : setO (la.take (j + 1)) = putO (x0, x1) (setO (la.take j)) := by
        rw [← setO_snoc, List.take_succ_eq_append_getElem hlt, ← hx]
      have HN := Lib.hid hnx
      have hli : (j : Int) < (la.length : Int) := by omega
      have h00 := ((MSt.bel H1.out).cell (p := ⟨b, o + j * 2, none⟩) hbB).trans k00
      have h01 := ((MSt.bel H1.out).cell (p := ⟨b, o + j * 2 + 1, none⟩) hbB).trans k01
      have hsz := MSt.size H1.out
      have hbw := Nat.lt_of_lt_of_le hbB hsz
      generalize hS : setO (la.take j) = S at *
      clear hx k00 k01 hnx hS
      go_wp2_with fail
      refine (l8Put_any S hSl x0 x1 _ _ _ rfl _ (MSt.orgR H1.out rfl)).mono ?_
      rintro e w1 ⟨v, rfl, h2⟩
      have H2 := Lib.hid (MSt.subB (M := [orgA v (putO (x0, x1) S)]) (MSt.trans H1.out h2) (.cons_cons _ (List.nil_sublist _)))
      clear h2 h00 h01 hsz hbw
      go_wp2_with fail
      exact ⟨⟨j + 1, by omega, by simp, by rw [HN.out]; exact H2⟩, by simp [intOf]; omega⟩
    · obtain rfl : j = la.length := by omega
      have HE := H1
      rw [List.take_length] at HE
      clear H1
      go_wp2_with fail
      go_loopw [5, 7] (fun v i wr => ∃ (j : Nat), j ≤ lb.length ∧ i = .int .i64 (j : Int) ∧ Hid (MSt w [orgA v (setO (la ++ lb.take j))] wr)) (fun _ i _ => lb.length - (intOf i).toNat)
      case atStart => exact ⟨0, Nat.zero_le _, rfl, by simpa using HE⟩
      case round =>
        obtain ⟨j, hj, rfl, H1⟩ := hrel
        obtain ⟨A3, q3, rfl, -, -⟩ := MSt.orgV H1.out
        by_cases hlt : j < lb.length
        · obtain ⟨b, o, rfl, hbB, k00, k01⟩ := orgs_at HB.out j hlt
          obtain ⟨x, hx⟩ : ∃ x, x = lb[j] := ⟨_, rfl⟩
          rw [← hx] at k00 k01
          obtain ⟨x0, x1⟩ := x
          simp only at k00 k01
          have hSl : (setO (la ++ lb.take j)).length ≤ 2097152 := Nat.le_trans (setO_len _) (by simp; omega)
          have hnx : setO (la ++ lb.take (j + 1)) = putO (x0, x1) (setO (la ++ lb.take j)) := by
            rw [← setO_snoc, List.take_succ_eq_append_getElem hlt, ← hx, List.append_assoc]
          have HN := Lib.hid hnx
          have hli : (j : Int) < (lb.length : Int) := by omega
          have h00 := ((MSt.bel H1.out).cell (p := ⟨b, o + j * 2, none⟩) hbB).trans k00
          have h01 := ((MSt.bel H1.out).cell (p := ⟨b, o + j * 2 + 1, none⟩) hbB).trans k01
          have hsz := MSt.size H1.out
          have hbw := Nat.lt_of_lt_of_le hbB hsz
          generalize hS : setO (la ++ lb.take j) = S at *
          clear hx k00 k01 hnx hS
          go_wp2_with fail
          refine (l8Put_any S hSl x0 x1 _ _ _ rfl _ (MSt.orgR H1.out rfl)).mono ?_
          rintro e w1 ⟨v, rfl, h2⟩
          have H2 := Lib.hid (MSt.subB (M := [orgA v (putO (x0, x1) S)]) (MSt.trans H1.out h2) (.cons_cons _ (List.nil_sublist _)))
          clear h2 h00 h01 hsz hbw
          go_wp2_with fail
          exact ⟨⟨j + 1, by omega, by simp, by rw [HN.out]; exact H2⟩, by simp [intOf]; omega⟩
        · obtain rfl : j = lb.length := by omega
          go_wp2_with fail
          go_ret
          refine ⟨_, rfl, ?_⟩
          rw [show la ++ lb = la ++ lb.take lb.length by rw [List.take_length]]
          exact H1.out
end Go.Proofs.YtooghbejbjfakaaGreatDoor
