/-
  Texts that the proof rests on, put together: CpRow, CloneRows, CvMath.
-/
import Derived.Test.YtabcmnlmmpbmnaaGreatMgS5
import Derived.Test.YtabcmnlmmpbmnaaGreatMgS11
import Derived.Deep.CutRange
import Derived.Test.YtabcmnlmmpbmnaaGreatMgS12
import Derived.Test.YtabcmnlmmpbmnaaGreatMgS6
/-
  spec.l3Row: a row copied.
-/

namespace Go.Proofs.YtabcmnlmmpbmnaaGreat
open Go.RowKit
set_option linter.unusedVariables false

theorem OwL.orgs_of {w : World} {B : Nat} : ∀ {os : List Dt} {cs : List Value}, (∀ x ∈ os, IsOrg x) → RdL w B os cs → ∀ w', OwL w' os cs []
  | [], cs, _, h, w' => by simp only [RdL] at h; subst h; simp [OwL]
  | x :: os, cs, ho, h, w' => by
    obtain ⟨a, b, rfl⟩ := ho x (by simp)
    simp only [RdL, Rd] at h
    obtain ⟨_, c2, rfl, ⟨_, _, rfl, rfl, _, _, rfl, rfl, rfl⟩, h2⟩ := h
    simp only [OwL, Ow]
    exact ⟨_, c2, [], [], rfl, rfl, ⟨_, _, [], [], rfl, rfl, ⟨rfl, rfl⟩, _, _, [], [], rfl, rfl, ⟨rfl, rfl⟩, rfl, rfl⟩, OwL.orgs_of (fun y hy => ho y (by simp [hy])) h2 w'⟩

set_option maxHeartbeats 800000 in
set_option maxRecDepth 100000 in
theorem l3Row_any {d : Dt} (hd : IsRow d) (hwt : d.wt ≤ 1048576) (cs : List Value) (w : World) (h : Rd w w.heap.size d cs) :
    Calls Tryz.prog 99 #[.agg cs.toArray] w (ToA w d) := by
  obtain ⟨ns, os, rfl, ho⟩ := hd
  obtain ⟨A0, c0, A1, c1, rfl, r0, r1⟩ := Rd.ofRow h
  have hn : ns.length ≤ 1048576 ∧ os.length ≤ 1048576 := by simp [Dt.wt, wts] at hwt; omega
  obtain ⟨hn0, hn1⟩ := hn
  obtain ⟨oc, ho1, ho2, ho3, _⟩ := r1.cells (k := 2) fun x hx => (ho x hx).width
  have hOw : ∀ w', OwL w' os oc [] := OwL.orgs_of ho ho2
  rw [List.length_map]
  have r0' := r0.ints
  have HO : Hid (Objs w.heap.size ((w.alloc (.cells #[.slice A0 ns.length c0, .slice A1 os.length c1] 99)).alloc (.cells #[.slice none 0 0, .slice none 0 0] 99)) [boxA 99 2 (w.heap.size + 1) [.slice none 0 0, .slice none 0 0]]) := by
    have h1 := ((Objs.nil w.heap.size w).alloc (.cells #[.slice A0 ns.length c0, .slice A1 os.length c1] 99)).new (by simp) 99 2 #[.slice none 0 0, .slice none 0 0] rfl
    rw [World.size_alloc] at h1
    exact Lib.hid h1
  have HB : Hid (Below w.heap.size w ((w.alloc (.cells #[.slice A0 ns.length c0, .slice A1 os.length c1] 99)).alloc (.cells #[.slice none 0 0, .slice none 0 0] 99))) := Lib.hid (((Below.refl _ _).alloc (Nat.le_refl _) _).alloc (by simp) _)
  have H := Lib.hid (And.intro r0' (And.intro ho1 (And.intro ho3 ho2)))
  have HW := Lib.hid hOw
  clear h r0 r1 ho r0' ho1 ho2 ho3 hOw hwt
  go_enter Tryz.func99, Tryz.ntmps99
  go_upto_region 1 with fail
  have b0 : ((w.alloc (.cells #[.slice A0 ns.length c0, .slice A1 os.length c1] 99)).alloc (.cells #[.slice none 0 0, .slice none 0 0] 99)).cell? ⟨w.heap.size, 0, none⟩ = some (.slice A0 ns.length c0) := by simp
  have b1 : ((w.alloc (.cells #[.slice A0 ns.length c0, .slice A1 os.length c1] 99)).alloc (.cells #[.slice none 0 0, .slice none 0 0] 99)).cell? ⟨w.heap.size, 1, none⟩ = some (.slice A1 os.length c1) := by simp
  have hsz : ((w.alloc (.cells #[.slice A0 ns.length c0, .slice A1 os.length c1] 99)).alloc (.cells #[.slice none 0 0, .slice none 0 0] 99)).heap.size = w.heap.size + 2 := by simp
  generalize ((w.alloc (.cells #[.slice A0 ns.length c0, .slice A1 os.length c1] 99)).alloc (.cells #[.slice none 0 0, .slice none 0 0] 99)) = W at *
  have hB : w.heap.size ≤ W.heap.size := by omega
  have HSZ := Lib.hid hsz
  clear hsz
  have hlt : w.heap.size < W.heap.size := by have := HSZ.out; omega
  have hlt1 : w.heap.size + 1 < W.heap.size := by have := HSZ.out; omega
  have y0 := HO.out.rowAt.cellAt 0 (by simp)
  have y1 := HO.out.rowAt.cellAt 1 (by simp)
  have z0 := HO.out.rowAt.frozenAt 0
  have z1 := HO.out.rowAt.frozenAt 1
  simp at y0 y1 z0 z1
  go_region_held3 (fun w' => w'.cell? ⟨w.heap.size, 0, none⟩ = some (.slice A0 ns.length c0) ∧ w'.cell? ⟨w.heap.size, 1, none⟩ = some (.slice A1 os.length c1))
    (repeat' (first | exact ⟨b0, b1⟩ | refine set2 (by omega) ?_ | exact keep2 (by repeat' (first | exact Hb10 | exact Hb6 | exact Below.refl _ _ | refine Below.drew ?_ | refine Below.alloc ?_ (by first | exact Hb10.size | exact Hb6.size | simp | (simp; omega)) _)) hlt b0 b1))
    (first
      | (refine stepI _ (by rfl) (.tmp 3) (.tmp 5) (by rfl) w.heap.size (.slice (some ⟨W.heap.size, 0, none⟩) 0 0) 0 [] (by rfl) (HO.out.drew.lit (g := W.heap.size) hB 3 1 rfl).rowAt A0 ns.length c0 w.heap.size (intV ns) (by rfl) (by simp [intV]) ((H.out.1.below HB.out).below (by repeat' (first | exact Below.refl _ _ | refine Below.drew ?_ | refine Below.alloc ?_ (by first | exact Nat.le_refl _ | exact hB | (simp; done) | (simp; omega)) _))) (fun u hu => by obtain ⟨n, _, rfl⟩ := List.mem_map.1 hu; rfl) (by omega) (by first | exact hB | (simp; omega)) ?_
         intro v6 w6 hown6 hgr6 hn6
         obtain ⟨A6, q6, rfl, hown6⟩ := own_slice0 hown6
         have HO6 := Lib.hid ((HO.out.drew.lit (g := W.heap.size) hB 3 1 rfl).app hgr6 hown6 hn6.2 (by first | exact hB | (simp; omega)))
         have Hb6 : Below W.heap.size W w6 := by
           refine Below.grown (w := (W.alloc (.cells #[] 3)).drew) (by repeat' (first | exact Below.refl _ _ | refine Below.drew ?_ | refine Below.alloc ?_ (by first | exact Nat.le_refl _ | exact hB | (simp; done) | (simp; omega)) _)) hgr6 (by first | (simp; done) | (simp; omega)) (fun k hk => ?_)
           injection hk with hk
           have hk : W.heap.size = k := hk
           omega)
      | (refine stepI _ (by rfl) (.tmp 3) (.tmp 5) (by rfl) w.heap.size (.slice (some ⟨W.heap.size, 0, none⟩) 0 0) 0 [] (by rfl) (((HO.out.drew.lit (g := W.heap.size) hB 3 1 rfl).lit (g := W.heap.size + 1) (by simp; omega) 96 2 (by simp)).swap).rowAt A0 ns.length c0 w.heap.size (intV ns) (by rfl) (by simp [intV]) ((H.out.1.below HB.out).below (by repeat' (first | exact Below.refl _ _ | refine Below.drew ?_ | refine Below.alloc ?_ (by first | exact Nat.le_refl _ | exact hB | (simp; done) | (simp; omega)) _))) (fun u hu => by obtain ⟨n, _, rfl⟩ := List.mem_map.1 hu; rfl) (by omega) (by first | exact hB | (simp; omega)) ?_
         intro v6 w6 hown6 hgr6 hn6
         obtain ⟨A6, q6, rfl, hown6⟩ := own_slice0 hown6
         have HO6 := Lib.hid ((((HO.out.drew.lit (g := W.heap.size) hB 3 1 rfl).lit (g := W.heap.size + 1) (by simp; omega) 96 2 (by simp)).swap).app hgr6 hown6 hn6.2 (by first | exact hB | (simp; omega)))
         have Hb6 : Below W.heap.size W w6 := by
           refine Below.grown (w := ((W.alloc (.cells #[] 3)).alloc (.cells #[] 96)).drew) (by repeat' (first | exact Below.refl _ _ | refine Below.drew ?_ | refine Below.alloc ?_ (by first | exact Nat.le_refl _ | exact hB | (simp; done) | (simp; omega)) _)) hgr6 (by first | (simp; done) | (simp; omega)) (fun k hk => ?_)
           injection hk with hk
           have hk : W.heap.size = k := hk
           omega)
      | (refine stepI _ (by rfl) (.tmp 3) (.tmp 5) (by rfl) w.heap.size (.slice (some ⟨W.heap.size + 1, 0, none⟩) 0 0) 0 [] (by rfl) (((HO.out.drew.lit (g := W.heap.size) hB 96 2 rfl).lit (g := W.heap.size + 1) (by simp; omega) 3 1 (by simp))).rowAt A0 ns.length c0 w.heap.size (intV ns) (by rfl) (by simp [intV]) ((H.out.1.below HB.out).below (by repeat' (first | exact Below.refl _ _ | refine Below.drew ?_ | refine Below.alloc ?_ (by first | exact Nat.le_refl _ | exact hB | (simp; done) | (simp; omega)) _))) (fun u hu => by obtain ⟨n, _, rfl⟩ := List.mem_map.1 hu; rfl) (by omega) (by first | exact hB | (simp; omega)) ?_
         intro v6 w6 hown6 hgr6 hn6
         obtain ⟨A6, q6, rfl, hown6⟩ := own_slice0 hown6
         have HO6 := Lib.hid ((((HO.out.drew.lit (g := W.heap.size) hB 96 2 rfl).lit (g := W.heap.size + 1) (by simp; omega) 3 1 (by simp))).app hgr6 hown6 hn6.2 (by first | exact hB | (simp; omega)))
         have Hb6 : Below W.heap.size W w6 := by
           refine Below.grown (w := ((W.alloc (.cells #[] 96)).alloc (.cells #[] 3)).drew) (by repeat' (first | exact Below.refl _ _ | refine Below.drew ?_ | refine Below.alloc ?_ (by first | exact Nat.le_refl _ | exact hB | (simp; done) | (simp; omega)) _)) hgr6 (by first | (simp; done) | (simp; omega)) (fun k hk => ?_)
           injection hk with hk
           have hk : W.heap.size + 1 = k := hk
           omega)
      | (refine stepO _ (by rfl) (.tmp 7) (.tmp 9) (by rfl) w.heap.size (.slice (some ⟨w6.heap.size, 0, none⟩) 0 0) 0 [] (by rfl) (HO6.out.lit (g := w6.heap.size) (Nat.le_trans hB Hb6.size) 96 2 rfl).rowAt A1 os.length c1 w.heap.size oc (by rfl) H.out.2.2.1 ((H.out.2.1.below HB.out).below ((Hb6.mono hB).trans (by repeat' (first | exact Below.refl _ _ | refine Below.alloc ?_ (by exact Nat.le_trans hB Hb6.size) _)))) H.out.2.2.2.one (by omega) (by first | exact Nat.le_trans hB Hb6.size | (have := Hb6.size; simp; omega)) ?_
         intro v10 w10 hown10 hgr10 hn10
         obtain ⟨A10, q10, rfl, hown10⟩ := own_slice0 hown10
         have HO10 := Lib.hid ((HO6.out.lit (g := w6.heap.size) (Nat.le_trans hB Hb6.size) 96 2 rfl).app hgr10 hown10 hn10.2 (by first | exact Nat.le_trans hB Hb6.size | (have := Hb6.size; simp; omega)))
         have Hb10 : Below W.heap.size W w10 := by
           refine Below.grown (w := w6.alloc (.cells #[] 96)) (Hb6.trans (by repeat' (first | exact Below.refl _ _ | refine Below.alloc ?_ (by exact Hb6.size) _))) hgr10 (by first | exact Hb6.size | (have := Hb6.size; simp; omega)) (fun k hk => ?_)
           injection hk with hk
           have hk : w6.heap.size = k := hk
           have := Hb6.size
           omega
         have x0 := (Hb10.cell (p := ⟨w.heap.size + 1, 0, none⟩) hlt1).trans y0
         have x1 := (Hb10.cell (p := ⟨w.heap.size + 1, 1, none⟩) hlt1).trans y1
         have f0 := (Hb10.frozen (p := ⟨w.heap.size + 1, 0, none⟩) hlt1).trans z0
         have f1 := (Hb10.frozen (p := ⟨w.heap.size + 1, 1, none⟩) hlt1).trans z1)
      | (refine stepO _ (by rfl) (.tmp 7) (.tmp 9) (by rfl) w.heap.size (.slice (some ⟨W.heap.size + 1, 0, none⟩) 0 0) 0 [] (by rfl) (HO6.out.swap).rowAt A1 os.length c1 w.heap.size oc (by rfl) H.out.2.2.1 ((H.out.2.1.below HB.out).below ((Hb6.mono hB).trans (by repeat' (first | exact Below.refl _ _ | refine Below.alloc ?_ (by exact Nat.le_trans hB Hb6.size) _)))) H.out.2.2.2.one (by omega) (by first | exact Nat.le_trans hB Hb6.size | (have := Hb6.size; simp; omega)) ?_
         intro v10 w10 hown10 hgr10 hn10
         obtain ⟨A10, q10, rfl, hown10⟩ := own_slice0 hown10
         have HO10 := Lib.hid ((HO6.out.swap).app hgr10 hown10 hn10.2 (by first | exact Nat.le_trans hB Hb6.size | (have := Hb6.size; simp; omega)))
         have Hb10 : Below W.heap.size W w10 := by
           refine Below.grown (w := w6) (Hb6.trans (by repeat' (first | exact Below.refl _ _ | refine Below.alloc ?_ (by exact Hb6.size) _))) hgr10 (by first | exact Hb6.size | (have := Hb6.size; simp; omega)) (fun k hk => ?_)
           injection hk with hk
           have hk : W.heap.size + 1 = k := hk
           have := Hb6.size
           omega
         have x0 := (Hb10.cell (p := ⟨w.heap.size + 1, 0, none⟩) hlt1).trans y0
         have x1 := (Hb10.cell (p := ⟨w.heap.size + 1, 1, none⟩) hlt1).trans y1
         have f0 := (Hb10.frozen (p := ⟨w.heap.size + 1, 0, none⟩) hlt1).trans z0
         have f1 := (Hb10.frozen (p := ⟨w.heap.size + 1, 1, none⟩) hlt1).trans z1)
      | (refine stepO _ (by rfl) (.tmp 7) (.tmp 9) (by rfl) w.heap.size (.slice (some ⟨W.heap.size, 0, none⟩) 0 0) 0 [] (by rfl) (HO6.out.swap).rowAt A1 os.length c1 w.heap.size oc (by rfl) H.out.2.2.1 ((H.out.2.1.below HB.out).below ((Hb6.mono hB).trans (by repeat' (first | exact Below.refl _ _ | refine Below.alloc ?_ (by exact Nat.le_trans hB Hb6.size) _)))) H.out.2.2.2.one (by omega) (by first | exact Nat.le_trans hB Hb6.size | (have := Hb6.size; simp; omega)) ?_
         intro v10 w10 hown10 hgr10 hn10
         obtain ⟨A10, q10, rfl, hown10⟩ := own_slice0 hown10
         have HO10 := Lib.hid ((HO6.out.swap).app hgr10 hown10 hn10.2 (by first | exact Nat.le_trans hB Hb6.size | (have := Hb6.size; simp; omega)))
         have Hb10 : Below W.heap.size W w10 := by
           refine Below.grown (w := w6) (Hb6.trans (by repeat' (first | exact Below.refl _ _ | refine Below.alloc ?_ (by exact Hb6.size) _))) hgr10 (by first | exact Hb6.size | (have := Hb6.size; simp; omega)) (fun k hk => ?_)
           injection hk with hk
           have hk : W.heap.size = k := hk
           have := Hb6.size
           omega
         have x0 := (Hb10.cell (p := ⟨w.heap.size + 1, 0, none⟩) hlt1).trans y0
         have x1 := (Hb10.cell (p := ⟨w.heap.size + 1, 1, none⟩) hlt1).trans y1
         have f0 := (Hb10.frozen (p := ⟨w.heap.size + 1, 0, none⟩) hlt1).trans z0
         have f1 := (Hb10.frozen (p := ⟨w.heap.size + 1, 1, none⟩) hlt1).trans z1)
      | fail)
  all_goals
    have hs10 := Nat.le_trans hB Hb10.size
    have h2 := HO10.out.nth (L1 := [_, _]) (L2 := [])
    have h3 := (h2.boxSet1 0 (.slice A6 ns.length q6) hs10).boxSet1 1 (.slice A10 os.length q10) (by simpa using hs10)
    have h6 := (h3.tail.close0 HW.out (by simp)).swap.close0 (fun w' => OwL.ints w' ns) (by simp)
    have h7 := ((h6.single.swap.single.swap).pair.agg).out
    have H7 := Lib.hid h7
    have hbel : Below w.heap.size w w10 := HB.out.trans (Hb10.mono hB)
    have H8 := Lib.hid hbel
    clear h2 h3 h6 h7 hbel HO10 HO6 hown6 hown10 hgr6 hgr10 hn6 hn10
    go_wp2_with fail
    refine bodyPost_ret (v := .agg #[.slice A6 ns.length q6, .slice A10 os.length q10]) (by simp [results, Tryz.results99, go_sem, *]) rfl ⟨[.slice A6 ns.length q6, .slice A10 os.length q10], _, rfl, H7.out.1, H7.out.2, ?_⟩
    repeat' (first | refine Below.setCell ?_ (by first | (simp; done) | (simp; omega)) _ | exact H8.out)
end Go.Proofs.YtabcmnlmmpbmnaaGreat

/-
  impl.cloneRows: rows cloned, with their slices.
-/

namespace Go.Proofs.YtabcmnlmmpbmnaaGreat
open Go.RowKit
set_option linter.unusedVariables false

theorem Objs.rowSet {B g n c : Nat} {w : World} {e : TypeId} {k : Nat} {xs : List Value} {L : List Asn} (h : Objs B w (rowA e k (.slice (some ⟨g, 0, none⟩) n c) n xs :: L)) (p : Nat) (us : List Value) (hB : B ≤ w.heap.size) : Objs B (w.setCells g p us) (rowA e k (.slice (some ⟨g, 0, none⟩) n c) n (setsAt xs p us) :: L) := by
  have h1 := own_setCells us p w xs h.rowAt
  exact h.upd h1.2.size (fun g hg hf => h1.2.block g hg fun e => hf e.symm) (own_base0 h1.1 (Nat.zero_le _)) (rowA_loc _ _ _ _ _) (fun g hg => .inl hg) hB
set_option maxHeartbeats 1600000 in
set_option maxRecDepth 100000 in
theorem cloneRows_any (rs : List Dt) (hr : ∀ x ∈ rs, IsRow x) (hwt : Dt.wt (.lst rs) ≤ 1048576) (A : Option Addr) (c : Nat) (w : World) (h : Rd w w.heap.size (.lst rs) [.slice A rs.length c]) :
    Calls Tryz.prog 151 #[.slice A rs.length c] w (ToL w rs) := by
  have hn : rs.length ≤ 1048576 := by simp [Dt.wt] at hwt; omega
  have hwr : ∀ x ∈ rs, x.wt ≤ 1048576 := fun x hx => by have := wts_mem hx; simp [Dt.wt] at hwt; omega
  obtain ⟨cells, h1, h2, h3, _⟩ := h.cells (k := 2) fun x hx => (hr x hx).width
  have H := Lib.hid (And.intro h1 (And.intro h2 h3))
  have HV := Lib.hid (And.intro hr hwr)
  clear h h1 h2 h3 hr hwr hwt
  go_enter Tryz.func151, Tryz.ntmps151
  go_wp2_with fail
  refine (cloneR A rs.length c w.heap.size cells w H.out.1 H.out.2.2 H.out.2.1.one hn (Nat.le_refl _)).mono ?_
  rintro e w1 ⟨v, rfl, hown, hb⟩
  obtain ⟨A1, c1, rfl⟩ := own_slice hown
  have H1 := Lib.hid (And.intro hown hb)
  clear hown hb
  go_wp2_with fail
  go_loopw [10] (fun i wr => ∃ (j : Nat) (cd ct : List Value) (fp : List Nat), j ≤ rs.length ∧ i = .int .i64 j ∧ cd.length = j * 2 ∧ RdL w w.heap.size (rs.drop j) ct ∧ Objs w.heap.size wr [rowA 99 2 (.slice A1 rs.length c1) rs.length (cd ++ ct), owLA (rs.take j) cd fp] ∧ Below w.heap.size w wr) (fun i _ => rs.length - (intOf i).toNat)
  case atStart => exact ⟨0, [], cells, [], Nat.zero_le _, rfl, rfl, by simpa using H.out.2.1, ((Objs.nil w.heap.size w).add H1.out.2 (Nat.le_refl _) (rowA_at H1.out.1)).cons (owLA_at (by simp [OwL]) (New.nil _)) (fun x hx k hk => by cases hk) |>.swap, H1.out.2⟩
  case round =>
    obtain ⟨j, cd, ct, fp, hj, rfl, hcd, hrd, hO, hbel⟩ := hrel
    by_cases hlt : j < rs.length
    · rw [List.drop_eq_getElem_cons hlt] at hrd
      simp only [RdL] at hrd
      obtain ⟨cx, ct, rfl, hx, hct⟩ := hrd
      have hrow := HV.out.1 _ (List.getElem_mem hlt)
      have hwx := HV.out.2 _ (List.getElem_mem hlt)
      obtain ⟨y, hy⟩ : ∃ y, y = rs[j] := ⟨_, rfl⟩
      have htk : rs.take (j + 1) = rs.take j ++ [y] := by rw [hy, List.take_succ_eq_append_getElem hlt]
      rw [← hy] at hx hrow hwx
      clear hy
      obtain ⟨ns, os, rfl, ho⟩ := hrow
      obtain ⟨B0, d0, B1, d1, rfl, r0, r1⟩ := Rd.ofRow hx
      have hl01 : ns.length ≤ 1048576 ∧ os.length ≤ 1048576 := by simp [Dt.wt, wts] at hwx; omega
      obtain ⟨hl0, hl1⟩ := hl01
      obtain ⟨oc, o1, o2, o3, _⟩ := r1.cells (k := 2) fun x hx => (ho x hx).width
      obtain ⟨g, rfl⟩ : ∃ g, A1 = some ⟨g, 0, none⟩ := by
        rcases hO.rowAt.2 with ⟨h0, h4⟩ | ⟨g, cap, cur, h0, _⟩
        · omega
        · injection h0 with e1; exact ⟨g, e1⟩
      have x0 := hO.rowAt.cellAt (j * 2) (by omega)
      have x1 := hO.rowAt.cellAt (j * 2 + 1) (by omega)
      rw [List.getElem?_append_right (by omega), hcd] at x0 x1
      rw [Nat.sub_self] at x0
      rw [Nat.add_sub_cancel_left] at x1
      simp at x0 x1
      have hgl := (hO.rowAt.lt g rfl).2
      have hgb := (hO.rowAt.lt g rfl).1
      have hws := hbel.size
      rw [List.length_map] at *
      have HX := Lib.hid (And.intro r0.ints (And.intro o1 (And.intro o2 (And.intro o3 ho))))
      have HO := Lib.hid (And.intro hO (And.intro hbel (And.intro hct (And.intro hcd htk))))
      clear r0 r1 o1 o2 o3 ho hx hO hbel hct hcd htk hwx
      go_wp2_with fail
      have c0 : (wr.alloc (.cells #[.slice B0 ns.length d0, .slice B1 os.length d1] 99)).cell? ⟨wr.heap.size, 0, none⟩ = some (.slice B0 ns.length d0) := by simp
      have c1' : (wr.alloc (.cells #[.slice B0 ns.length d0, .slice B1 os.length d1] 99)).cell? ⟨wr.heap.size, 1, none⟩ = some (.slice B1 os.length d1) := by simp
      have hO1 := HO.out.1.alloc (.cells #[.slice B0 ns.length d0, .slice B1 os.length d1] 99)
      have hb1 : Below w.heap.size w (wr.alloc (.cells #[.slice B0 ns.length d0, .slice B1 os.length d1] 99)) := HO.out.2.1.alloc hws _
      have hsz : (wr.alloc (.cells #[.slice B0 ns.length d0, .slice B1 os.length d1] 99)).heap.size = wr.heap.size + 1 := by simp
      have hne : g ≠ wr.heap.size := by omega
      have hIdx : IntKind.i64.wrap (j : Int) = (j : Int) := by rw [IntKind.wrap_i64]; omega
      generalize (wr.alloc (.cells #[.slice B0 ns.length d0, .slice B1 os.length d1] 99)) = Wb at *
      generalize wr.heap.size = bx at *
      have hbx : bx < Wb.heap.size := by omega
      have hB : w.heap.size ≤ Wb.heap.size := by omega
      have hgW : g < Wb.heap.size := by omega
      have HO1 := Lib.hid (And.intro hO1 hb1)
      have HS := Lib.hid hsz
      have HN := Lib.hid hne
      clear x0 x1 hO1 hb1 hsz hne hIdx
      go_region_held3 (fun w' => w'.cell? ⟨bx, 0, none⟩ = some (.slice B0 ns.length d0) ∧ w'.cell? ⟨bx, 1, none⟩ = some (.slice B1 os.length d1))
        (repeat' (first | with_reducible refine set2 HN.out ?_ | exact keep2 (by first | with_reducible exact Hb2 | with_reducible exact Hb1 | exact (Below.refl _ _).drew) hbx c0 c1'))
        (first
          | (go_at_call 95
             refine (cloneI B0 ns.length d0 w.heap.size (intV ns) _ (HX.out.1.below (HO1.out.2.drew)) (by simp [intV]) (fun u hu => by obtain ⟨n, _, rfl⟩ := List.mem_map.1 hu; rfl) hl0 hB).mono ?_
             rintro e1 w1 ⟨v0, rfl, hown0, hb⟩
             obtain ⟨E0, q0, rfl⟩ := own_slice hown0
             have Hb1 : Below Wb.heap.size Wb w1 := (Below.refl _ _).drew.trans hb
             have HO2 := Lib.hid (HO1.out.1.drew.add hb hB (rowA_at hown0))
             clear hb hown0)
          | (go_at_call 178
             refine (cloneO B1 os.length d1 w.heap.size oc _ (HX.out.2.1.below (HO1.out.2.trans (Hb1.mono hB))) HX.out.2.2.2.1 HX.out.2.2.1.one hl1 (Nat.le_trans hB Hb1.size)).mono ?_
             rintro e2 w2 ⟨v1, rfl, hown1, hb⟩
             obtain ⟨E1, q1, rfl⟩ := own_slice hown1
             have Hb2 : Below Wb.heap.size Wb w2 := Hb1.trans (hb.mono Hb1.size)
             have hO3 := (HO2.out.add hb (Nat.le_trans hB Hb1.size) (rowA_at hown1))
             have HO3 := Lib.hid hO3
             have hg := (Objs.nth (L1 := [_, _]) (L2 := [_]) hO3).rowAt
             have x0 := hg.cellAt (j * 2) (by omega)
             have x1 := hg.cellAt (j * 2 + 1) (by omega)
             have f0 := hg.frozenAt (j * 2)
             have f1 := hg.frozenAt (j * 2 + 1)
             rw [List.getElem?_append_right (by have := HO.out.2.2.2.1; omega), HO.out.2.2.2.1] at x0 x1
             rw [Nat.sub_self] at x0
             rw [Nat.add_sub_cancel_left] at x1
             simp at x0 x1 f0 f1
             clear hO3 hg hb hown1)
          | fail)
      all_goals
        go_wp2_with fail
        have hs2 := Nat.le_trans hB Hb2.size
        have hR := (Objs.nth (L1 := [_, _]) (L2 := [_]) HO3.out).rowSet (j * 2) [.slice E0 ns.length q0, .slice E1 os.length q1] hs2
        have e1 := setsAt_mid [.slice E0 ns.length q0, .slice E1 os.length q1] [.slice B0 ns.length d0, .slice B1 os.length d1] cd ct rfl
        rw [HO.out.2.2.2.1] at e1
        rw [e1, ← List.append_assoc] at hR
        simp only [World.setCells] at hR
        have hP := ((Objs.perm hR (List.perm_append_comm (l₁ := [_]) (l₂ := [_, _, _]))).close0 (OwL.orgs_of HX.out.2.2.2.2 HX.out.2.2.1) rfl).swap.close0 (fun w' => OwL.ints w' ns) (by simp)
        have hQ := hP.single.swap.single.swap.pair.agg.swap.push.swap
        simp only [List.cons_append, List.nil_append] at hQ
        rw [← HO.out.2.2.2.2] at hQ
        have hb2 : Below w.heap.size w w2 := HO1.out.2.trans (Hb2.mono hB)
        exact ⟨⟨j + 1, cd ++ [.slice E0 ns.length q0, .slice E1 os.length q1], ct, _, by omega, by simp, by simp [HO.out.2.2.2.1]; omega, HO.out.2.2.1, hQ,
          (hb2.setCell (p := ⟨g, j * 2, none⟩) (show w.heap.size ≤ g from hgb) _).setCell (p := ⟨g, j * 2 + 1, none⟩) (show w.heap.size ≤ g from hgb) _⟩, by simp [intOf]; omega⟩
    · obtain rfl : j = rs.length := by omega
      rw [List.drop_length] at hrd
      simp only [RdL] at hrd
      subst hrd
      rw [List.append_nil, List.take_length] at hO
      have hE := (hO.close rfl).out
      have HE := Lib.hid (And.intro hE hbel)
      clear hO hE hbel
      go_wp2_with fail
      go_ret
      exact ⟨_, _, _, rfl, HE.out.1.1, HE.out.1.2, HE.out.2⟩
end Go.Proofs.YtabcmnlmmpbmnaaGreat

/-
  What is known while values are cloned: the lists still to be walked, and how the whole is put together in the end.
-/

namespace Go.Proofs.YtabcmnlmmpbmnaaGreat
open Go.RowKit
set_option linter.unusedVariables false

mutual
/-- How many lists and values are below. -/
def Dt.nd : Dt → Nat
  | .agg [_, _, _, _, .lst l, _, _] => 2 + nds l
  | _ => 2
def nds : List Dt → Nat
  | [] => 0
  | x :: xs => x.nd + nds xs
end
theorem nd_mk (k n s : Int) (t : ByteArray) (l c r : List Dt) : Dt.nd (.agg [.int k, .int n, .int s, .str t, .lst l, .lst c, .lst r]) = 2 + nds l := by simp [Dt.nd]
theorem nds_of : ∀ (xs : List Dt), (∀ x ∈ xs, IsVal x ∧ x.nd ≤ 2 + 2 * x.wt) → nds xs ≤ 2 * (xs.length + wts xs)
  | [], _ => by simp [nds]
  | x :: xs, h => by
    have h1 := nds_of xs fun y hy => h y (by simp [hy])
    have h2 := (h x (by simp)).2
    simp only [nds, List.length_cons, wts]
    omega
theorem nd_le {d : Dt} (h : IsVal d) : d.nd ≤ 2 + 2 * d.wt := by
  induction h with
  | mk k n s t l c r hl hr ih =>
    have h1 := nds_of l fun x hx => ⟨hl x hx, ih x hx⟩
    rw [nd_mk]
    simp only [Dt.wt, wts]
    omega
theorem nds_le {xs : List Dt} (h : ∀ x ∈ xs, IsVal x) : nds xs ≤ 2 * (xs.length + wts xs) := nds_of xs fun x hx => ⟨h x hx, nd_le (h x hx)⟩

/-- A list whose cells are cloned and whose elements are not yet. -/
structure It where
  xs : List Dt
  v : Value
  ct : List Value
def It.row (i : It) : Asn := rowA 28 7 i.v i.xs.length i.ct
def It.Ok (w : World) (i : It) : Prop := (∀ x ∈ i.xs, IsVal x) ∧ Dt.wt (.lst i.xs) ≤ 1048577 ∧ RdL w w.heap.size i.xs i.ct
def meas (its : List It) : Nat := (its.map fun i => 1 + nds i.xs).sum
theorem meas_cons (i : It) (its : List It) : meas (i :: its) = 1 + nds i.xs + meas its := by simp [meas]
theorem meas_len : ∀ its : List It, its.length ≤ meas its
  | [] => by simp [meas]
  | i :: its => by
    have := meas_len its
    rw [meas_cons, List.length_cons]
    omega
def owAs : List It → List (List Nat) → List Asn
  | i :: its, f :: fs => owA (.lst i.xs) [i.v] f :: owAs its fs
  | _, _ => []
def stk (its : List It) : List Value := its.reverse.map (·.v)
theorem stk_cons (i : It) (its : List It) : stk (i :: its) = stk its ++ [i.v] := by simp [stk]
theorem stk_len (its : List It) : (stk its).length = its.length := by simp [stk]

def SLR (v : Value) (its : List It) : Asn := rowA 24 1 v its.length (stk its)
/-- Ahead of a list's walk. -/
structure CvSt (w : World) (xs0 : List Dt) (v0 : Value) (its : List It) (vS : Value) (R : List Asn) (wx : World) : Prop where
  ob : Objs w.heap.size wx (SLR vS its :: (its.map It.row ++ R))
  ok : ∀ i ∈ its, i.Ok w
  bel : Below w.heap.size w wx
  fin : ∀ (w' : World) (fps : List (List Nat)), fps.length = its.length → Objs w.heap.size w' (owAs its fps ++ R) → ∃ fp, Objs w.heap.size w' [owA (.lst xs0) [v0] fp]
/-- Within a list's walk: todo are the elements still to be cloned, cd the cells done. -/
structure CiSt (w : World) (xs0 : List Dt) (v0 : Value) (its : List It) (vS : Value) (R : List Asn) (vL : Value) (n : Nat) (todo : List Dt) (cd ct : List Value) (wx : World) : Prop where
  ob : Objs w.heap.size wx (SLR vS its :: rowA 28 7 vL n (cd ++ ct) :: (its.map It.row ++ R))
  rd : RdL w w.heap.size todo ct
  ok : ∀ i ∈ its, i.Ok w
  bel : Below w.heap.size w wx
  fin : ∀ (w' : World) (ctF : List Value) (fpt : List Nat) (fps : List (List Nat)), fps.length = its.length →
    Objs w.heap.size w' (rowA 28 7 vL n (cd ++ ctF) :: owLA todo ctF fpt :: (owAs its fps ++ R)) → ∃ fp, Objs w.heap.size w' [owA (.lst xs0) [v0] fp]

/-- A list is taken off the stack. -/
theorem CvSt.pop {w : World} {xs0 : List Dt} {v0 : Value} {i : It} {its : List It} {gS q : Nat} {R : List Asn} {wx : World} (h : CvSt w xs0 v0 (i :: its) (.slice (some ⟨gS, 0, none⟩) (its.length + 1) q) R wx) :
    CiSt w xs0 v0 its (.slice (some ⟨gS, 0, none⟩) its.length q) R i.v i.xs.length i.xs [] i.ct wx where
  ob := by
    have h1 := h.ob
    refine h1.weak (a' := SLR (.slice (some ⟨gS, 0, none⟩) its.length q) its) (fun h2 => ?_) (rowA_loc _ _ _ _ _) (fun b hb => hb)
    have h3 := own_takeW (k := its.length) (show wx.ownsRow 0 _ 1 (.slice (some ⟨gS, 0, none⟩) (its.length + 1) q) (its.length + 1) (stk (i :: its)) from h2) (by omega)
    rw [stk_cons, Nat.mul_one, List.take_append_of_le_length (by rw [stk_len]; exact Nat.le_refl _), ← stk_len its, List.take_length, stk_len its] at h3
    exact h3
  rd := (h.ok i (by simp)).2.2
  ok := fun j hj => h.ok j (by simp [hj])
  bel := h.bel
  fin := fun w' ctF fpt fps hl ho => by
    rw [List.nil_append] at ho
    exact h.fin w' ((i.v.ownBlock.toList ++ fpt) :: fps) (by simp [hl]) (ho.close rfl)
/-- A list has been walked. -/
theorem CiSt.done {w : World} {xs0 : List Dt} {v0 : Value} {its : List It} {vS : Value} {R : List Asn} {vL : Value} {n : Nat} {cd : List Value} {wx : World} (h : CiSt w xs0 v0 its vS R vL n [] cd [] wx) :
    CvSt w xs0 v0 its vS (rowA 28 7 vL n cd :: R) wx where
  ob := by
    have h1 := h.ob
    rw [List.append_nil] at h1
    exact h1.perm (List.Perm.cons _ List.perm_middle.symm)
  ok := h.ok
  bel := h.bel
  fin := fun w' fps hl ho => by
    have h1 := (ho.perm List.perm_middle).cons (a := owLA [] [] []) (owLA_at (by simp [OwL]) (New.nil _)) (fun x hx k hk => by cases hk)
    refine h.fin w' [] [] fps hl ?_
    rw [List.append_nil]
    exact h1.swap
/-- The three slices of an element, cloned, make it. -/
theorem Objs.val {B : Nat} {w : World} {k n s : Int} {t : ByteArray} {l r : List Dt} {cc : List ByteArray} {v4 v5 v6 : Value} {f4 f5 f6 : List Nat} {L : List Asn} (h : Objs B w (owA (.lst l) [v4] f4 :: owA (.lst (cc.map .str)) [v5] f5 :: owA (.lst r) [v6] f6 :: L)) :
    Objs B w (owA (.agg [.int k, .int n, .int s, .str t, .lst l, .lst (cc.map .str), .lst r]) [.int .i64 k, .int .i64 n, .int .i64 s, .string t, v4, v5, v6] (f4 ++ (f5 ++ f6)) :: L) := by
  have h1 := (h.perm ((List.perm_append_comm (l₁ := [_, _]) (l₂ := [_])).append_right _)).single.perm (List.perm_append_comm (l₁ := [_]) (l₂ := [_, _]) |>.append_right _)
  have h2 := (h1.perm (List.perm_append_comm (l₁ := [_]) (l₂ := [_, _]) |>.append_right _)).single.pair.perm (List.Perm.swap _ _ _)
  have h3 := h2.single.pair
  exact h3.weak (fun h => ⟨Ow.mkValue h.1, h.2⟩) (owA_loc _ _ _) (fun _ h => h)

theorem perm5 {α : Type} (a b c d e : α) (X : List α) : (a :: b :: c :: d :: e :: X).Perm (c :: d :: e :: a :: b :: X) := by
  have := (List.perm_append_comm (l₁ := [a, b]) (l₂ := [c, d, e])).append_right X
  simpa using this
theorem l5a {α : Type} (a r c d s : α) (X : List α) : (a :: r :: c :: d :: s :: X).Perm (c :: s :: a :: d :: r :: X) := by
  have e1 : (a :: r :: c :: d :: s :: X).Perm (c :: a :: r :: d :: s :: X) := by
    simpa using (List.perm_append_comm (l₁ := [a, r]) (l₂ := [c])).append_right (d :: s :: X)
  have e2 : (a :: r :: d :: s :: X).Perm (s :: a :: r :: d :: X) := by
    simpa using (List.perm_append_comm (l₁ := [a, r, d]) (l₂ := [s])).append_right X
  exact e1.trans (List.Perm.cons _ (e2.trans (List.Perm.cons _ (List.Perm.cons _ (List.Perm.swap _ _ _)))))
theorem l5b {α : Type} (c s a d r : α) (X : List α) : (c :: s :: a :: d :: r :: X).Perm (s :: a :: d :: c :: r :: X) := by
  simpa using (List.perm_append_comm (l₁ := [c]) (l₂ := [s, a, d])).append_right (r :: X)
section
variable {w : World} {xs0 : List Dt} {v0 : Value} {its : List It} {vS : Value} {R : List Asn} {vL : Value} {N : Nat} {todo : List Dt} {cd : List Value}
  {k n s : Int} {t : ByteArray} {l r : List Dt} {cc : List ByteArray} {v4 v5 v6 : Value} {f4 f5 f6 : List Nat}
theorem fin_step {Q : World → Prop} {fps : List (List Nat)}
    (hfin : ∀ (w' : World) (ctF : List Value) (fpt : List Nat), Objs w.heap.size w' (rowA 28 7 vL N (cd ++ ctF) :: owLA (.agg [.int k, .int n, .int s, .str t, .lst l, .lst (cc.map .str), .lst r] :: todo) ctF fpt :: (owAs its fps ++ R)) → Q w')
    (w' : World) (ctF : List Value) (fpt : List Nat) (h : Objs w.heap.size w' (rowA 28 7 vL N ((cd ++ [.int .i64 k, .int .i64 n, .int .i64 s, .string t, v4, v5, v6]) ++ ctF) :: owLA todo ctF fpt :: owA (.lst l) [v4] f4 :: owA (.lst (cc.map .str)) [v5] f5 :: owA (.lst r) [v6] f6 :: (owAs its fps ++ R))) : Q w' := by
  have h1 := (h.perm (perm5 _ _ _ _ _ _)).val (k := k) (n := n) (s := s) (t := t)
  have h2 := (h1.single.perm ((List.perm_append_comm (l₁ := [_]) (l₂ := [_, _])).append_right _))
  have h3 : Objs w.heap.size w' (owLA _ _ _ :: owLA _ _ _ :: rowA 28 7 vL N ((cd ++ [.int .i64 k, .int .i64 n, .int .i64 s, .string t, v4, v5, v6]) ++ ctF) :: (owAs its fps ++ R)) := h1.single.perm (by
    refine (List.Perm.cons _ ?_)
    exact List.Perm.swap _ _ _)
  have h4 := h3.pair.swap
  rw [List.append_assoc] at h4
  exact hfin w' _ _ h4
/-- An element with no list below is done. -/
theorem CiSt.next0 {cx ct : List Value} {wr we : World} (h : CiSt w xs0 v0 its vS R vL N (.agg [.int k, .int n, .int s, .str t, .lst [], .lst (cc.map .str), .lst r] :: todo) cd (cx ++ ct) wr) (hb : Below w.heap.size w we) (hct : RdL w w.heap.size todo ct)
    (ho : Objs w.heap.size we (SLR vS its :: rowA 28 7 vL N ((cd ++ [.int .i64 k, .int .i64 n, .int .i64 s, .string t, v4, v5, v6]) ++ ct) :: rowA 28 7 v4 0 [] :: owA (.lst (cc.map .str)) [v5] f5 :: owA (.lst r) [v6] f6 :: (its.map It.row ++ R))) :
    CiSt w xs0 v0 its vS (rowA 28 7 v4 0 [] :: owA (.lst (cc.map .str)) [v5] f5 :: owA (.lst r) [v6] f6 :: R) vL N todo (cd ++ [.int .i64 k, .int .i64 n, .int .i64 s, .string t, v4, v5, v6]) ct we where
  ob := ho.perm (by
    refine (List.Perm.cons _ (List.Perm.cons _ ?_))
    have := (List.perm_append_comm (l₁ := [rowA 28 7 v4 0 [], owA (.lst (cc.map .str)) [v5] f5, owA (.lst r) [v6] f6]) (l₂ := its.map It.row)).append_right R
    simpa using this)
  rd := hct
  ok := h.ok
  bel := hb
  fin := fun w' ctF fpt fps hl hO => by
    refine fin_step (its := its) (fps := fps) (R := R) (l := []) (Q := fun w' => ∃ fp, Objs w.heap.size w' [owA (.lst xs0) [v0] fp]) (fun w' ctF fpt => h.fin w' ctF fpt fps hl) w' ctF fpt (v4 := v4) (v5 := v5) (v6 := v6) (f4 := v4.ownBlock.toList) (f5 := f5) (f6 := f6) ?_
    have h1 : Objs w.heap.size w' (rowA 28 7 v4 0 [] :: (rowA 28 7 vL N ((cd ++ [.int .i64 k, .int .i64 n, .int .i64 s, .string t, v4, v5, v6]) ++ ctF) :: owLA todo ctF fpt :: owA (.lst (cc.map .str)) [v5] f5 :: owA (.lst r) [v6] f6 :: (owAs its fps ++ R))) := hO.perm (by
      have e1 := (List.perm_append_comm (l₁ := owAs its fps) (l₂ := [rowA 28 7 v4 0 [], owA (.lst (cc.map .str)) [v5] f5, owA (.lst r) [v6] f6])).append_right R
      have e2 : (owAs its fps ++ (rowA 28 7 v4 0 [] :: owA (.lst (cc.map .str)) [v5] f5 :: owA (.lst r) [v6] f6 :: R)).Perm (rowA 28 7 v4 0 [] :: owA (.lst (cc.map .str)) [v5] f5 :: owA (.lst r) [v6] f6 :: (owAs its fps ++ R)) := by simpa using e1
      refine (List.Perm.cons _ (List.Perm.cons _ e2)).trans ?_
      have := (List.perm_append_comm (l₁ := [rowA 28 7 vL N ((cd ++ [.int .i64 k, .int .i64 n, .int .i64 s, .string t, v4, v5, v6]) ++ ctF), owLA todo ctF fpt]) (l₂ := [rowA 28 7 v4 0 []])).append_right (owA (.lst (cc.map .str)) [v5] f5 :: owA (.lst r) [v6] f6 :: (owAs its fps ++ R))
      simpa using this)
    have h2 := h1.close0 (xs := []) (fun w' => by simp [OwL]) rfl
    refine h2.perm ?_
    have := (List.perm_append_comm (l₁ := [owA (.lst []) [v4] v4.ownBlock.toList]) (l₂ := [rowA 28 7 vL N ((cd ++ [.int .i64 k, .int .i64 n, .int .i64 s, .string t, v4, v5, v6]) ++ ctF), owLA todo ctF fpt])).append_right (owA (.lst (cc.map .str)) [v5] f5 :: owA (.lst r) [v6] f6 :: (owAs its fps ++ R))
    simpa using this
/-- An element with a list below is done; the list is still to be walked. -/
theorem CiSt.nextS {vS' : Value} {cx ct lc : List Value} {wr we : World} (h : CiSt w xs0 v0 its vS R vL N (.agg [.int k, .int n, .int s, .str t, .lst l, .lst (cc.map .str), .lst r] :: todo) cd (cx ++ ct) wr) (hb : Below w.heap.size w we) (hct : RdL w w.heap.size todo ct) (hi : It.Ok w ⟨l, v4, lc⟩)
    (ho : Objs w.heap.size we (SLR vS' (⟨l, v4, lc⟩ :: its) :: rowA 28 7 vL N ((cd ++ [.int .i64 k, .int .i64 n, .int .i64 s, .string t, v4, v5, v6]) ++ ct) :: rowA 28 7 v4 l.length lc :: owA (.lst (cc.map .str)) [v5] f5 :: owA (.lst r) [v6] f6 :: (its.map It.row ++ R))) :
    CiSt w xs0 v0 (⟨l, v4, lc⟩ :: its) vS' (owA (.lst (cc.map .str)) [v5] f5 :: owA (.lst r) [v6] f6 :: R) vL N todo (cd ++ [.int .i64 k, .int .i64 n, .int .i64 s, .string t, v4, v5, v6]) ct we where
  ob := ho.perm (by
    refine (List.Perm.cons _ (List.Perm.cons _ (List.Perm.cons _ ?_)))
    have := (List.perm_append_comm (l₁ := [owA (.lst (cc.map .str)) [v5] f5, owA (.lst r) [v6] f6]) (l₂ := its.map It.row)).append_right R
    simpa using this)
  rd := hct
  ok := fun j hj => by
    rcases List.mem_cons.1 hj with rfl | hj
    · exact hi
    · exact h.ok j hj
  bel := hb
  fin := fun w' ctF fpt fps hl hO => by
    match fps, hl with
    | f4 :: fps, hl =>
      refine fin_step (its := its) (fps := fps) (R := R) (l := l) (Q := fun w' => ∃ fp, Objs w.heap.size w' [owA (.lst xs0) [v0] fp]) (fun w' ctF fpt => h.fin w' ctF fpt fps (by simpa using hl)) w' ctF fpt (v4 := v4) (v5 := v5) (v6 := v6) (f4 := f4) (f5 := f5) (f6 := f6) ?_
      refine hO.perm ?_
      refine (List.Perm.cons _ (List.Perm.cons _ (List.Perm.cons _ ?_)))
      have := (List.perm_append_comm (l₁ := owAs its fps) (l₂ := [owA (.lst (cc.map .str)) [v5] f5, owA (.lst r) [v6] f6])).append_right R
      simpa using this
end
end Go.Proofs.YtabcmnlmmpbmnaaGreat
