/-
  Texts that the proof rests on, put together: CpRow.
-/
import Derived.Test.YtaanfdccnnfceaaGreatMgV5
import Derived.Test.YtaanfdccnnfceaaGreatMgV8
import Derived.Deep.CutRange
/-
  spec.l3Row: a row copied.
-/

namespace Go.Proofs.YtaanfdccnnfceaaGreat
open Go.RowKit
set_option linter.unusedVariables false

theorem OwL.orgs_of {w : World} {B : Nat} : ∀ {os : List Dt} {cs : List Value}, (∀ x ∈ os, IsOrg x) → RdL w B os cs → ∀ w', OwL w' os cs []
  | [], cs, _, h, w' => by simp only [RdL] at h; subst h; simp [OwL]
  | x :: os, cs, ho, h, w' => by
    obtain ⟨a, b, rfl⟩ := ho x (by simp)
    simp only [RdL, Rd] at h
    obtain ⟨_, c2, rfl, ⟨_, _, rfl, rfl, _, _, rfl, rfl, rfl⟩, h2⟩ := h
    simp only [OwL, Ow]
    exact ⟨_, c2, [], [], rfl, rfl, ⟨_, _, [], [], rfl, rfl, ⟨rfl, rfl⟩, _, _, [], [], rfl, rfl, ⟨rfl, rfl⟩, rfl, rfl⟩, OwL.orgs_of (fun y hy => ho y (by simp [hy])) h2 w'⟩

set_option maxHeartbeats 800000 in
set_option maxRecDepth 100000 in
theorem l3Row_any {d : Dt} (hd : IsRow d) (hwt : d.wt ≤ 1048576) (cs : List Value) (w : World) (h : Rd w w.heap.size d cs) :
    Calls Tryz.prog 39 #[.agg cs.toArray] w (ToA w d) := by
  obtain ⟨ns, os, rfl, ho⟩ := hd
  obtain ⟨A0, c0, A1, c1, rfl, r0, r1⟩ := Rd.ofRow h
  have hn : ns.length ≤ 1048576 ∧ os.length ≤ 1048576 := by simp [Dt.wt, wts] at hwt; omega
  obtain ⟨hn0, hn1⟩ := hn
  obtain ⟨oc, ho1, ho2, ho3, _⟩ := r1.cells (k := 2) fun x hx => (ho x hx).width
  have hOw : ∀ w', OwL w' os oc [] := OwL.orgs_of ho ho2
  rw [List.length_map]
  have r0' := r0.ints
  have HO : Hid (Objs w.heap.size ((w.alloc (.cells #[.slice A0 ns.length c0, .slice A1 os.length c1] 47)).alloc (.cells #[.slice none 0 0, .slice none 0 0] 47)) [boxA 47 2 (w.heap.size + 1) [.slice none 0 0, .slice none 0 0]]) := by
    have h1 := ((Objs.nil w.heap.size w).alloc (.cells #[.slice A0 ns.length c0, .slice A1 os.length c1] 47)).new (by simp) 47 2 #[.slice none 0 0, .slice none 0 0] rfl
    rw [World.size_alloc] at h1
    exact Lib.hid h1
  have HB : Hid (Below w.heap.size w ((w.alloc (.cells #[.slice A0 ns.length c0, .slice A1 os.length c1] 47)).alloc (.cells #[.slice none 0 0, .slice none 0 0] 47))) := Lib.hid (((Below.refl _ _).alloc (Nat.le_refl _) _).alloc (by simp) _)
  have H := Lib.hid (And.intro r0' (And.intro ho1 (And.intro ho3 ho2)))
  have HW := Lib.hid hOw
  clear h r0 r1 ho r0' ho1 ho2 ho3 hOw hwt
  go_enter Tryz.func39, Tryz.ntmps39
  go_upto_region 1 with fail
  have b0 : ((w.alloc (.cells #[.slice A0 ns.length c0, .slice A1 os.length c1] 47)).alloc (.cells #[.slice none 0 0, .slice none 0 0] 47)).cell? ⟨w.heap.size, 0, none⟩ = some (.slice A0 ns.length c0) := by simp
  have b1 : ((w.alloc (.cells #[.slice A0 ns.length c0, .slice A1 os.length c1] 47)).alloc (.cells #[.slice none 0 0, .slice none 0 0] 47)).cell? ⟨w.heap.size, 1, none⟩ = some (.slice A1 os.length c1) := by simp
  have hsz : ((w.alloc (.cells #[.slice A0 ns.length c0, .slice A1 os.length c1] 47)).alloc (.cells #[.slice none 0 0, .slice none 0 0] 47)).heap.size = w.heap.size + 2 := by simp
  generalize ((w.alloc (.cells #[.slice A0 ns.length c0, .slice A1 os.length c1] 47)).alloc (.cells #[.slice none 0 0, .slice none 0 0] 47)) = W at *
  have hB : w.heap.size ≤ W.heap.size := by omega
  have HSZ := Lib.hid hsz
  clear hsz
  have hlt : w.heap.size < W.heap.size := by have := HSZ.out; omega
  have hlt1 : w.heap.size + 1 < W.heap.size := by have := HSZ.out; omega
  have y0 := HO.out.rowAt.cellAt 0 (by simp)
  have y1 := HO.out.rowAt.cellAt 1 (by simp)
  have z0 := HO.out.rowAt.frozenAt 0
  have z1 := HO.out.rowAt.frozenAt 1
  simp at y0 y1 z0 z1
  go_region_held3 (fun w' => w'.cell? ⟨w.heap.size, 0, none⟩ = some (.slice A0 ns.length c0) ∧ w'.cell? ⟨w.heap.size, 1, none⟩ = some (.slice A1 os.length c1))
    (repeat' (first | exact ⟨b0, b1⟩ | refine set2 (by omega) ?_ | exact keep2 (by repeat' (first | exact Hb10 | exact Hb6 | exact Below.refl _ _ | refine Below.drew ?_ | refine Below.alloc ?_ (by first | exact Hb10.size | exact Hb6.size | simp | (simp; omega)) _)) hlt b0 b1))
    (first
      | (refine stepI _ (by rfl) (.tmp 3) (.tmp 5) (by rfl) w.heap.size (.slice (some ⟨W.heap.size, 0, none⟩) 0 0) 0 [] (by rfl) (HO.out.drew.lit (g := W.heap.size) hB 3 1 rfl).rowAt A0 ns.length c0 w.heap.size (intV ns) (by rfl) (by simp [intV]) ((H.out.1.below HB.out).below (by repeat' (first | exact Below.refl _ _ | refine Below.drew ?_ | refine Below.alloc ?_ (by first | exact Nat.le_refl _ | exact hB | (simp; done) | (simp; omega)) _))) (fun u hu => by obtain ⟨n, _, rfl⟩ := List.mem_map.1 hu; rfl) (by omega) (by first | exact hB | (simp; omega)) ?_
         intro v6 w6 hown6 hgr6 hn6
         obtain ⟨A6, q6, rfl, hown6⟩ := own_slice0 hown6
         have HO6 := Lib.hid ((HO.out.drew.lit (g := W.heap.size) hB 3 1 rfl).app hgr6 hown6 hn6.2 (by first | exact hB | (simp; omega)))
         have Hb6 : Below W.heap.size W w6 := by
           refine Below.grown (w := (W.alloc (.cells #[] 3)).drew) (by repeat' (first | exact Below.refl _ _ | refine Below.drew ?_ | refine Below.alloc ?_ (by first | exact Nat.le_refl _ | exact hB | (simp; done) | (simp; omega)) _)) hgr6 (by first | (simp; done) | (simp; omega)) (fun k hk => ?_)
           injection hk with hk
           have hk : W.heap.size = k := hk
           omega)
      | (refine stepI _ (by rfl) (.tmp 3) (.tmp 5) (by rfl) w.heap.size (.slice (some ⟨W.heap.size, 0, none⟩) 0 0) 0 [] (by rfl) (((HO.out.drew.lit (g := W.heap.size) hB 3 1 rfl).lit (g := W.heap.size + 1) (by simp; omega) 59 2 (by simp)).swap).rowAt A0 ns.length c0 w.heap.size (intV ns) (by rfl) (by simp [intV]) ((H.out.1.below HB.out).below (by repeat' (first | exact Below.refl _ _ | refine Below.drew ?_ | refine Below.alloc ?_ (by first | exact Nat.le_refl _ | exact hB | (simp; done) | (simp; omega)) _))) (fun u hu => by obtain ⟨n, _, rfl⟩ := List.mem_map.1 hu; rfl) (by omega) (by first | exact hB | (simp; omega)) ?_
         intro v6 w6 hown6 hgr6 hn6
         obtain ⟨A6, q6, rfl, hown6⟩ := own_slice0 hown6
         have HO6 := Lib.hid ((((HO.out.drew.lit (g := W.heap.size) hB 3 1 rfl).lit (g := W.heap.size + 1) (by simp; omega) 59 2 (by simp)).swap).app hgr6 hown6 hn6.2 (by first | exact hB | (simp; omega)))
         have Hb6 : Below W.heap.size W w6 := by
           refine Below.grown (w := ((W.alloc (.cells #[] 3)).alloc (.cells #[] 59)).drew) (by repeat' (first | exact Below.refl _ _ | refine Below.drew ?_ | refine Below.alloc ?_ (by first | exact Nat.le_refl _ | exact hB | (simp; done) | (simp; omega)) _)) hgr6 (by first | (simp; done) | (simp; omega)) (fun k hk => ?_)
           injection hk with hk
           have hk : W.heap.size = k := hk
           omega)
      | (refine stepI _ (by rfl) (.tmp 3) (.tmp 5) (by rfl) w.heap.size (.slice (some ⟨W.heap.size + 1, 0, none⟩) 0 0) 0 [] (by rfl) (((HO.out.drew.lit (g := W.heap.size) hB 59 2 rfl).lit (g := W.heap.size + 1) (by simp; omega) 3 1 (by simp))).rowAt A0 ns.length c0 w.heap.size (intV ns) (by rfl) (by simp [intV]) ((H.out.1.below HB.out).below (by repeat' (first | exact Below.refl _ _ | refine Below.drew ?_ | refine Below.alloc ?_ (by first | exact Nat.le_refl _ | exact hB | (simp; done) | (simp; omega)) _))) (fun u hu => by obtain ⟨n, _, rfl⟩ := List.mem_map.1 hu; rfl) (by omega) (by first | exact hB | (simp; omega)) ?_
         intro v6 w6 hown6 hgr6 hn6
         obtain ⟨A6, q6, rfl, hown6⟩ := own_slice0 hown6
         have HO6 := Lib.hid ((((HO.out.drew.lit (g := W.heap.size) hB 59 2 rfl).lit (g := W.heap.size + 1) (by simp; omega) 3 1 (by simp))).app hgr6 hown6 hn6.2 (by first | exact hB | (simp; omega)))
         have Hb6 : Below W.heap.size W w6 := by
           refine Below.grown (w := ((W.alloc (.cells #[] 59)).alloc (.cells #[] 3)).drew) (by repeat' (first | exact Below.refl _ _ | refine Below.drew ?_ | refine Below.alloc ?_ (by first | exact Nat.le_refl _ | exact hB | (simp; done) | (simp; omega)) _)) hgr6 (by first | (simp; done) | (simp; omega)) (fun k hk => ?_)
           injection hk with hk
           have hk : W.heap.size + 1 = k := hk
           omega)
      | (refine stepO _ (by rfl) (.tmp 7) (.tmp 9) (by rfl) w.heap.size (.slice (some ⟨w6.heap.size, 0, none⟩) 0 0) 0 [] (by rfl) (HO6.out.lit (g := w6.heap.size) (Nat.le_trans hB Hb6.size) 59 2 rfl).rowAt A1 os.length c1 w.heap.size oc (by rfl) H.out.2.2.1 ((H.out.2.1.below HB.out).below ((Hb6.mono hB).trans (by repeat' (first | exact Below.refl _ _ | refine Below.alloc ?_ (by exact Nat.le_trans hB Hb6.size) _)))) H.out.2.2.2.one (by omega) (by first | exact Nat.le_trans hB Hb6.size | (have := Hb6.size; simp; omega)) ?_
         intro v10 w10 hown10 hgr10 hn10
         obtain ⟨A10, q10, rfl, hown10⟩ := own_slice0 hown10
         have HO10 := Lib.hid ((HO6.out.lit (g := w6.heap.size) (Nat.le_trans hB Hb6.size) 59 2 rfl).app hgr10 hown10 hn10.2 (by first | exact Nat.le_trans hB Hb6.size | (have := Hb6.size; simp; omega)))
         have Hb10 : Below W.heap.size W w10 := by
           refine Below.grown (w := w6.alloc (.cells #[] 59)) (Hb6.trans (by repeat' (first | exact Below.refl _ _ | refine Below.alloc ?_ (by exact Hb6.size) _))) hgr10 (by first | exact Hb6.size | (have := Hb6.size; simp; omega)) (fun k hk => ?_)
           injection hk with hk
           have hk : w6.heap.size = k := hk
           have := Hb6.size
           omega
         have x0 := (Hb10.cell (p := ⟨w.heap.size + 1, 0, none⟩) hlt1).trans y0
         have x1 := (Hb10.cell (p := ⟨w.heap.size + 1, 1, none⟩) hlt1).trans y1
         have f0 := (Hb10.frozen (p := ⟨w.heap.size + 1, 0, none⟩) hlt1).trans z0
         have f1 := (Hb10.frozen (p := ⟨w.heap.size + 1, 1, none⟩) hlt1).trans z1)
      | (refine stepO _ (by rfl) (.tmp 7) (.tmp 9) (by rfl) w.heap.size (.slice (some ⟨W.heap.size + 1, 0, none⟩) 0 0) 0 [] (by rfl) (HO6.out.swap).rowAt A1 os.length c1 w.heap.size oc (by rfl) H.out.2.2.1 ((H.out.2.1.below HB.out).below ((Hb6.mono hB).trans (by repeat' (first | exact Below.refl _ _ | refine Below.alloc ?_ (by exact Nat.le_trans hB Hb6.size) _)))) H.out.2.2.2.one (by omega) (by first | exact Nat.le_trans hB Hb6.size | (have := Hb6.size; simp; omega)) ?_
         intro v10 w10 hown10 hgr10 hn10
         obtain ⟨A10, q10, rfl, hown10⟩ := own_slice0 hown10
         have HO10 := Lib.hid ((HO6.out.swap).app hgr10 hown10 hn10.2 (by first | exact Nat.le_trans hB Hb6.size | (have := Hb6.size; simp; omega)))
         have Hb10 : Below W.heap.size W w10 := by
           refine Below.grown (w := w6) (Hb6.trans (by repeat' (first | exact Below.refl _ _ | refine Below.alloc ?_ (by exact Hb6.size) _))) hgr10 (by first | exact Hb6.size | (have := Hb6.size; simp; omega)) (fun k hk => ?_)
           injection hk with hk
           have hk : W.heap.size + 1 = k := hk
           have := Hb6.size
           omega
         have x0 := (Hb10.cell (p := ⟨w.heap.size + 1, 0, none⟩) hlt1).trans y0
         have x1 := (Hb10.cell (p := ⟨w.heap.size + 1, 1, none⟩) hlt1).trans y1
         have f0 := (Hb10.frozen (p := ⟨w.heap.size + 1, 0, none⟩) hlt1).trans z0
         have f1 := (Hb10.frozen (p := ⟨w.heap.size + 1, 1, none⟩) hlt1).trans z1)
      | (refine stepO _ (by rfl) (.tmp 7) (.tmp 9) (by rfl) w.heap.size (.slice (some ⟨W.heap.size, 0, none⟩) 0 0) 0 [] (by rfl) (HO6.out.swap).rowAt A1 os.length c1 w.heap.size oc (by rfl) H.out.2.2.1 ((H.out.2.1.below HB.out).below ((Hb6.mono hB).trans (by repeat' (first | exact Below.refl _ _ | refine Below.alloc ?_ (by exact Nat.le_trans hB Hb6.size) _)))) H.out.2.2.2.one (by omega) (by first | exact Nat.le_trans hB Hb6.size | (have := Hb6.size; simp; omega)) ?_
         intro v10 w10 hown10 hgr10 hn10
         obtain ⟨A10, q10, rfl, hown10⟩ := own_slice0 hown10
         have HO10 := Lib.hid ((HO6.out.swap).app hgr10 hown10 hn10.2 (by first | exact Nat.le_trans hB Hb6.size | (have := Hb6.size; simp; omega)))
         have Hb10 : Below W.heap.size W w10 := by
           refine Below.grown (w := w6) (Hb6.trans (by repeat' (first | exact Below.refl _ _ | refine Below.alloc ?_ (by exact Hb6.size) _))) hgr10 (by first | exact Hb6.size | (have := Hb6.size; simp; omega)) (fun k hk => ?_)
           injection hk with hk
           have hk : W.heap.size = k := hk
           have := Hb6.size
           omega
         have x0 := (Hb10.cell (p := ⟨w.heap.size + 1, 0, none⟩) hlt1).trans y0
         have x1 := (Hb10.cell (p := ⟨w.heap.size + 1, 1, none⟩) hlt1).trans y1
         have f0 := (Hb10.frozen (p := ⟨w.heap.size + 1, 0, none⟩) hlt1).trans z0
         have f1 := (Hb10.frozen (p := ⟨w.heap.size + 1, 1, none⟩) hlt1).trans z1)
      | fail)
  all_goals
    have hs10 := Nat.le_trans hB Hb10.size
    have h2 := HO10.out.nth (L1 := [_, _]) (L2 := [])
    have h3 := (h2.boxSet1 0 (.slice A6 ns.length q6) hs10).boxSet1 1 (.slice A10 os.length q10) (by simpa using hs10)
    have h6 := (h3.tail.close0 HW.out (by simp)).swap.close0 (fun w' => OwL.ints w' ns) (by simp)
    have h7 := ((h6.single.swap.single.swap).pair.agg).out
    have H7 := Lib.hid h7
    have hbel : Below w.heap.size w w10 := HB.out.trans (Hb10.mono hB)
    have H8 := Lib.hid hbel
    clear h2 h3 h6 h7 hbel HO10 HO6 hown6 hown10 hgr6 hgr10 hn6 hn10
    go_wp2_with fail
    refine bodyPost_ret (v := .agg #[.slice A6 ns.length q6, .slice A10 os.length q10]) (by simp [results, Tryz.results39, go_sem, *]) rfl ⟨[.slice A6 ns.length q6, .slice A10 os.length q10], _, rfl, H7.out.1, H7.out.2, ?_⟩
    repeat' (first | refine Below.setCell ?_ (by first | (simp; done) | (simp; omega)) _ | exact H8.out)
end Go.Proofs.YtaanfdccnnfceaaGreat
