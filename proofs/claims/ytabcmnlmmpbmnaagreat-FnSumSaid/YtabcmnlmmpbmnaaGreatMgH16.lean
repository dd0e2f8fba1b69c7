/-
  Texts that the proof rests on, put together: Concat.
-/
import Derived.Test.YtabcmnlmmpbmnaaGreatMgH7
import Derived.Test.YtabcmnlmmpbmnaaGreatMgH5
import Derived.LoopN
import Derived.Lib.AppendZerosOnto
/-
  slices.Concat of two lists of values.
-/

namespace Go.Proofs.YtabcmnlmmpbmnaaGreat
open Go.RowKit
set_option linter.unusedVariables false

set_option maxHeartbeats 1600000 in
set_option maxRecDepth 100000 in
theorem growNil_any (n : Nat) (hn : n ≤ 1048576) (w : World) :
    Calls Tryz.prog 207 #[.slice none 0 0, .int .i64 n] w fun e w' => ∃ v, e = .returned v ∧ w'.ownsRow w.heap.size 28 7 v 0 [] ∧ Below w.heap.size w w' := by
  by_cases h0 : n = 0
  · subst h0
    go_enter Tryz.func207, Tryz.ntmps207
    go_wp2_with fail
    go_ret
    exact ⟨_, rfl, ⟨rfl, .inl ⟨rfl, rfl⟩⟩, Below.refl _ _⟩
  · obtain ⟨i0, hi, hz0, hz1, hz2⟩ := info_parts valInfo
    have hrz : ∀ ty, (Builtin.append_ #[24, 3] ty #[.slice none 0 0, .int .i64 (n : Int)]).run Tryz.prog w =
        .ok (.slice (some ⟨w.heap.size, 0, none⟩) n (grownCap w n 0 28)) (w.drew.alloc (.cells (#[] ++ Builtin.zeroCells (Value.cells (.agg #[.int .i64 0, .int .i64 0, .int .i64 0, .string ⟨#[]⟩, .slice none 0 0, .slice none 0 0, .slice none 0 0])) n ++ Builtin.zeroCells (Value.cells (.agg #[.int .i64 0, .int .i64 0, .int .i64 0, .string ⟨#[]⟩, .slice none 0 0, .slice none 0 0, .slice none 0 0])) (grownCap w n 0 28 - n)) 28)) := fun ty => by
      have h := Lib.run_append_grow_zeros w 24 3 ty 28 i0 _ .i64 .i64 Tryz.underlying24 Tryz.underlying3 hi hz0 none 0 0 [] (run_firstCells_none w.drew i0.size 0 0 0) n (by omega) (by omega) (by omega) (by omega) (by rw [hz2]; omega) (growslice_fits (by omega) (by rw [hz2]; omega))
      rw [Nat.zero_add] at h
      exact h
    have hG := grownCap_le_maxLen w n 0 28 (by unfold maxLen; omega)
    have hGn := grownCap_ge w n 0 28
    generalize grownCap w n 0 28 = G at hrz hG hGn
    have HM := Lib.hid hG
    unfold maxLen at hG
    have h1 : ¬ (n : Int) < 0 := by omega
    have h2 : (0 : Int) < (n : Int) := by omega
    have hzc : ∀ m, (Builtin.zeroCells (Value.cells (.agg #[.int .i64 0, .int .i64 0, .int .i64 0, .string ⟨#[]⟩, .slice none 0 0, .slice none 0 0, .slice none 0 0])) m).size = m * 7 := fun m => by
      rw [size_zeroCells]; rfl
    generalize hX : #[] ++ Builtin.zeroCells (Value.cells (.agg #[.int .i64 0, .int .i64 0, .int .i64 0, .string ⟨#[]⟩, .slice none 0 0, .slice none 0 0, .slice none 0 0])) n ++ Builtin.zeroCells (Value.cells (.agg #[.int .i64 0, .int .i64 0, .int .i64 0, .string ⟨#[]⟩, .slice none 0 0, .slice none 0 0, .slice none 0 0])) (G - n) = X at hrz
    have hXs : X.size = G * 7 := by
      rw [← hX]
      simp only [Array.size_append, hzc]
      simp
      omega
    have HX := Lib.hid hXs
    clear hX hzc hi hz0 hz1 hz2 hXs
    go_enter Tryz.func207, Tryz.ntmps207
    go_wp2_with (at_builtin; refine Lib.wpList_append_run _ rfl _ _ _ _ rfl _ _ rfl rfl _ _ (hrz _) ?_)
    go_ret
    refine ⟨_, rfl, ⟨rfl, .inr ⟨w.heap.size, G, X, rfl, Nat.le_refl _, heap_alloc_new w.drew _, by omega, HM.out, HX.out, by simp⟩⟩, ((Below.refl _ _).drew).alloc (Nat.le_refl _) _⟩

set_option maxHeartbeats 1600000 in
set_option maxRecDepth 100000 in
theorem concat_any (A A' : Option Addr) (c c' g B : Nat) (xs ys : List Dt) (hx : ∀ x ∈ xs, IsVal x) (hy : ∀ x ∈ ys, IsVal x) (w : World) (h : Rd w B (.lst xs) [.slice A xs.length c]) (h' : Rd w B (.lst ys) [.slice A' ys.length c'])
    (hB : B ≤ w.heap.size) (hlen : xs.length + ys.length ≤ 8) (c0 : w.cell? ⟨g, 0, none⟩ = some (.slice A xs.length c)) (c1 : w.cell? ⟨g, 1, none⟩ = some (.slice A' ys.length c')) (hg : g < w.heap.size) :
    Calls Tryz.prog 185 #[.slice (some ⟨g, 0, none⟩) 2 2] w fun e w' => ∃ A2 c2 cells, e = .returned (.slice A2 (xs.length + ys.length) c2) ∧ w'.ownsRow w.heap.size 28 7 (.slice A2 (xs.length + ys.length) c2) (xs.length + ys.length) cells ∧ RdL w B (xs ++ ys) cells ∧ Below w.heap.size w w' := by
  obtain ⟨cx, rx, lx, hlx, -⟩ := h.cells (k := 7) fun x hm => (hx x hm).width
  obtain ⟨cy, ry, ly, hly, -⟩ := h'.cells (k := 7) fun x hm => (hy x hm).width
  have HX := Lib.hid (And.intro rx (And.intro lx (And.intro hlx lx.one)))
  have HY := Lib.hid (And.intro ry (And.intro ly (And.intro hly ly.one)))
  clear rx lx hlx ry ly hly h h' hx hy
  have hgr := fun w => growNil_any (xs.length + ys.length) (by omega) w
  simp only [Int.natCast_add] at hgr
  have HG := Lib.hid hgr
  clear hgr
  go_enter Tryz.func185, Tryz.ntmps185
  go_wp2_with fail
  refine wp_loop_rounds 3 ?_
  rw [rounds_succ]
  go_wp2_with fail
  rw [rounds_succ]
  go_wp2_with fail
  rw [rounds_succ]
  go_wp2_with fail
  refine (HG.out w).mono ?_
  rintro e w1 ⟨v, rfl, hown, hb⟩
  obtain ⟨A1, q1, rfl⟩ := own_slice hown
  have hs1 := hb.size
  have HO := Lib.hid (And.intro hown hb)
  have d0 : w1.cell? ⟨g, 0, none⟩ = some (.slice A xs.length c) := (hb.cell (p := ⟨g, 0, none⟩) hg).trans c0
  have d1 : w1.cell? ⟨g, 1, none⟩ = some (.slice A' ys.length c') := (hb.cell (p := ⟨g, 1, none⟩) hg).trans c1
  have hg1 : g < w1.heap.size := by omega
  clear hown hb
  go_wp2_with fail
  refine wp_loop_rounds 3 ?_
  rw [rounds_succ]
  go_wp2_with (at_builtin; refine appV _ rfl (.tmp 31) (.tmp 32) rfl w.heap.size (.slice A1 0 q1) 0 [] rfl HO.out.1 A xs.length c B cx rfl HX.out.2.2.1 (HX.out.1.keep (fun j hj => HO.out.2.block j (by omega))) HX.out.2.2.2 (by omega) hs1 ?_; intro v2 w2 hown2 hgr2 hnil2)
  obtain ⟨A2, q2, rfl, hownB⟩ := own_slice0 hown2
  have hb2 : Below w.heap.size w w2 := Below.grown HO.out.2 hgr2 hs1 fun j hj => (HO.out.1.lt j hj).1
  have hs2 := hb2.size
  have HO2 := Lib.hid (And.intro hownB hb2)
  have e0 : w2.cell? ⟨g, 0, none⟩ = some (.slice A xs.length c) := (hb2.cell (p := ⟨g, 0, none⟩) hg).trans c0
  have e1 : w2.cell? ⟨g, 1, none⟩ = some (.slice A' ys.length c') := (hb2.cell (p := ⟨g, 1, none⟩) hg).trans c1
  have hg2 : g < w2.heap.size := by omega
  clear hown2 hownB hb2 hgr2 hnil2
  rw [rounds_succ]
  go_wp2_with (at_builtin; refine appV _ rfl (.tmp 31) (.tmp 32) rfl w.heap.size (.slice A2 xs.length q2) xs.length cx rfl HO2.out.1 A' ys.length c' B cy rfl HY.out.2.2.1 (HY.out.1.keep (fun j hj => HO2.out.2.block j (by omega))) HY.out.2.2.2 (by omega) hs2 ?_; intro v3 w3 hown3 hgr3 hnil3)
  obtain ⟨A3, q3, rfl⟩ := own_slice hown3
  have HO3 := Lib.hid (And.intro hown3 (Below.grown HO2.out.2 hgr3 hs2 fun j hj => (HO2.out.1.lt j hj).1))
  clear hown3 hgr3 hnil3
  rw [rounds_succ]
  go_wp2_with fail
  go_ret
  exact ⟨A3, q3, _, rfl, HO3.out.1, HX.out.2.1.app HY.out.2.1, HO3.out.2⟩
end Go.Proofs.YtabcmnlmmpbmnaaGreat
