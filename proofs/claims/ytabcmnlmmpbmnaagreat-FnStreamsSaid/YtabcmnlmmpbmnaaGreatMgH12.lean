/-
  Texts that the proof rests on, put together: DrawV3, DrawV4, StreamOf.
-/
import Derived.Test.YtabcmnlmmpbmnaaGreatMgH8
import Derived.Test.YtabcmnlmmpbmnaaGreatMgH7
import Derived.Deep.RegionLaw
import Derived.Test.YtabcmnlmmpbmnaaGreatMgH11
/-
  Draws of lists. (Written by gendraw.py.)
-/

namespace Go.Proofs.YtabcmnlmmpbmnaaGreat
open Go.RowKit
set_option linter.unusedVariables false

theorem pickInt_litG (w : World) (B blk n c g : Nat) (C : Array Value) (t : TypeId) (h : Cur w B blk) (hn : C.size = n) (hn1 : 1 ≤ n) (hn2 : n ≤ 1048576) (hg : g = w.heap.size) :
    Calls Tryz.prog 155 #[.pointer (some ⟨blk, 0, none⟩), .slice (some ⟨g, 0, none⟩) n c] (w.alloc (.cells C t)) fun e w' => ∃ (k : Nat) (v : Value), C[k]? = some v ∧ e = .returned v ∧ w.grownBy w' (some blk) ∧ Cur w' B blk := by
  subst hg
  exact pickInt_lit w B blk n c C t h hn hn1 hn2
theorem all_app {P : Dt → Prop} {xs : List Dt} {d : Dt} (h : ∀ x ∈ xs, P x) (hd : P d) : ∀ x ∈ xs ++ [d], P x := by
  intro x hx
  rcases List.mem_append.1 hx with hx | hx
  · exact h x hx
  · have : x = d := by simpa using hx
    rw [this]; exact hd
theorem wts_le {K : Nat} : ∀ xs : List Dt, (∀ x ∈ xs, IsVal x ∧ x.wt ≤ K) → wts xs ≤ xs.length * K
  | [], _ => by simp [wts]
  | x :: xs, h => by
    have h1 := wts_le xs fun y hy => h y (by simp [hy])
    have h2 := (h x (by simp)).2
    simp only [wts, List.length_cons, Nat.succ_mul]
    omega
theorem wt_list {xs : List Dt} {K : Nat} (h : wts xs ≤ xs.length * K) (hl : xs.length ≤ 8) : bwt ⟨#[]⟩ xs [] [] ≤ 8 + 8 * K := by
  have := Nat.mul_le_mul_right K hl
  have h0 : (⟨#[]⟩ : ByteArray).size = 0 := rfl
  simp [bwt, wts, tot, h0]; omega
set_option maxHeartbeats 3200000 in
set_option maxRecDepth 100000 in
theorem drawList_of (m : Nat) (ih : ElC m) (w : World) (B blk : Nat) (h : Cur w B blk) :
    Calls Tryz.prog 111 #[.pointer (some ⟨blk, 0, none⟩), .int .i64 ((m : Int) + 1)] w (DrawnT (KL (m + 1)) B blk w) := by
  have h0 := ((DrSt.start h).new 28 7 #[.int .i64 0, .int .i64 0, .int .i64 0, .string ⟨#[]⟩, .slice none 0 0, .slice none 0 0, .slice none 0 0] rfl).new 28 7 #[.int .i64 3, .int .i64 0, .int .i64 0, .string ⟨#[]⟩, .slice none 0 0, .slice none 0 0, .slice none 0 0] rfl
  rw [World.size_alloc] at h0
  have H := Lib.hid h0
  clear h h0
  go_enter Tryz.func111, Tryz.ntmps111
  go_wp2_with fail
  refine (pickInt_litG _ B blk 8 8 _ _ _ H.out.cur rfl (by omega) (by omega) (by simp)).mono ?_
  rintro e w0 ⟨k, v, hv, rfl, hg, hc⟩
  obtain ⟨n, hn0, hn1, rfl⟩ := ints_mem [0, 1, 2, 3, 3, 4, 5, 8] 0 8 (by decide) hv
  have H1 := Lib.hid (H.out.draw hg hc)
  clear hg hc hv H
  go_wp2_with fail
  go_loopw [7] (fun i wr => ∃ (j q : Nat) (A : Option Addr) (cl : List Value) (fp : List Nat) (xs : List Dt), (j : Int) ≤ n ∧ i = .int .i64 j ∧ xs.length = j ∧ Hid (∀ x ∈ xs, IsVal x ∧ x.wt ≤ KL m) ∧ DrSt w B blk [rowA 28 7 (.slice A j q) j cl, owLA xs cl fp, boxA 28 7 (w.heap.size + 1) [.int .i64 3, .int .i64 0, .int .i64 0, .string ⟨#[]⟩, .slice A j q, .slice none 0 0, .slice none 0 0], boxA 28 7 w.heap.size [.int .i64 0, .int .i64 0, .int .i64 0, .string ⟨#[]⟩, .slice none 0 0, .slice none 0 0, .slice none 0 0]] wr) (fun i _ => n.toNat - (intOf i).toNat)
  case atStart => exact ⟨0, 0, none, [], [], [], by omega, rfl, rfl, Lib.hid (by simp), H1.out.nilRow _ _⟩
  case round =>
    obtain ⟨j, q, A, cl, fp, xs, hj, rfl, hxs, HXS, hS⟩ := hrel
    by_cases hlt : (j : Int) < n
    · have hbx := (DrSt.nth (L1 := [_, _]) hS).box
      have x4 := hbx.cellAt 4 (by simp)
      simp at x4
      have hg3 := (hbx.lt _ rfl).2
      have HS := Lib.hid hS
      clear hS hbx
      go_wp2_with fail
      go_region_law (first
        | (go_simp
           go_at_call 157
           refine (ih _ B blk HS.out.drew.cur).mono ?_
           rintro e1 w1 ⟨d, cs, f, hd, hwt, rfl, hD⟩
           obtain ⟨qy0, qy1, qy2, qy3, qy4, qn4, qc4, qy5, qn5, qc5, qy6, qn6, qc6, rfl⟩ := hd.form hD.objs.out.1.read
           have hC1 := HS.out.drew.trans1 hD
           have HC1 := Lib.hid hC1
           have hs1 := hC1.size
           have hby := (DrSt.nth (L1 := [_, _, _]) hC1).box
           have y4 := hby.cellAt 4 (by simp)
           simp at y4
           have hg31 := (hby.lt _ rfl).2
           have HR1 := Lib.hid hD.objs.out.1.read.one
           have HEL := Lib.hid (And.intro hd hwt)
           clear hC1 hD hby hd hwt)
        | (refine stepV _ (by rfl) (.tmp 18) (.tmp 22) (by rfl) w.heap.size (.slice A j q) j cl (by rfl) (by exact (HC1.out.alloc _).swap.row) (some ⟨w1.heap.size, 0, none⟩) 1 1 (w1.heap.size + 1) [.int .i64 qy0, .int .i64 qy1, .int .i64 qy2, .string qy3, .slice qy4 qn4 qc4, .slice qy5 qn5 qc5, .slice qy6 qn6 qc6] (by rfl) rfl (row_new w1 ([.int .i64 qy0, .int .i64 qy1, .int .i64 qy2, .string qy3, .slice qy4 qn4 qc4, .slice qy5 qn5 qc5, .slice qy6 qn6 qc6]).toArray 28) HR1.out (by omega) (by simp; omega) ?_
           intro v2 w2 hown2 hgr2 hn2
           obtain ⟨A2, q2, rfl⟩ := own_slice hown2
           have hC2 := (HC1.out.alloc _).swap.app hgr2 hown2 hn2.2
           have HC2 := Lib.hid hC2
           have hby := (DrSt.nth (L1 := [_, _, _]) hC2).box
           have z4 := hby.cellAt 4 (by simp)
           have f4 := hby.frozenAt 4
           simp at z4 f4
           clear hC2 hown2 hgr2 hn2 hby)
        | fail)
      all_goals
        have h3 := (DrSt.nth (L1 := [_, _]) HC2.out.push).set1 4 (.slice A2 (j + 1) q2)
        have H3 := Lib.hid (h3.perm (List.perm_middle (l₁ := [_, _]) (l₂ := [_])).symm)
        clear HC2 HC1 h3 HS
        go_wp2_with fail
        exact ⟨⟨j + 1, q2, A2, _, _, xs ++ [_], by omega, by simp, by simp; omega, Lib.hid (all_app HXS.out HEL.out), H3.out⟩, by simp [intOf]; omega⟩
    · have h1 := hS
      have HW := Lib.hid (wts_le xs HXS.out)
      have h9 := h1.topL hxs.symm
      have hbx := (DrSt.nth (L1 := [_, _, _, _, _]) h9).box
      obtain ⟨s0, s1, s2, s3, s4, s5, s6, hg3⟩ := box7 hbx
      have H9 := Lib.hid h9
      clear hS h1 h9 hbx
      have hbr := (DrSt.nth (L1 := [_, _, _, _, _, _]) H9.out).box
      obtain ⟨r0, r1, r2, r3, r4, r5, r6, -⟩ := box7 hbr
      obtain ⟨z0, z1, z2, z3, z4, z5, z6⟩ := box7z hbr
      clear hbr
      go_wp2_with fail
      clear s0 s1 s2 s3 s4 s5 s6
      have hf := (DrSt.nth (L1 := [_, _, _, _, _, _]) H9.out).set7 [.int .i64 3, .int .i64 0, .int .i64 0, .string ⟨#[]⟩, .slice A j q, .slice none 0 0, .slice none 0 0] rfl
      simp only [World.setCells, Nat.zero_add, Nat.reduceAdd] at hf
      generalize (((((((wr.setCell ⟨w.heap.size, 0, none⟩ (.int .i64 3)).setCell ⟨w.heap.size, 1, none⟩ (.int .i64 0)).setCell ⟨w.heap.size, 2, none⟩ (.int .i64 0)).setCell ⟨w.heap.size, 3, none⟩ (.string ⟨#[]⟩)).setCell ⟨w.heap.size, 4, none⟩ (.slice A j q)).setCell ⟨w.heap.size, 5, none⟩ (.slice none 0 0)).setCell ⟨w.heap.size, 6, none⟩ (.slice none 0 0)) = W7 at hf ⊢
      have hq := hf.box
      obtain ⟨s0, s1, s2, s3, s4, s5, s6, -⟩ := box7 hq
      have HG := Lib.hid (DrSt.first5 hf.drop)
      clear hf hq H9 r0 z0 r1 z1 r2 z2 r3 z3 r4 z4 r5 z5 r6 z6
      refine bodyPost_ret (v := .agg #[.int .i64 3, .int .i64 0, .int .i64 0, .string ⟨#[]⟩, .slice A j q, .slice none 0 0, .slice none 0 0]) (by simp [results, Tryz.results111, go_sem, s0, s1, s2, s3, s4, s5, s6]) rfl (show DrawnT _ _ _ _ _ _ from ⟨3, 0, 0, ⟨#[]⟩, xs, [], [], _, _, _, cl, fp, [], [], (fun x hx => (HXS.out x hx).1), (by simp), wt_list (K := KL m) HW.out (by omega), rfl, HG.out⟩)
theorem lists_any : ∀ m, m ≤ 3 → 1 ≤ m → LiC m
  | 0, _, h => absurd h (by omega)
  | m + 1, hm, _ => by
    have h1 : ElC m := fun w B blk h => element_of m (by omega) (fun h1 => lists_any m (by omega) h1) w B blk h
    intro w B blk h
    exact drawList_of m h1 w B blk h
end Go.Proofs.YtabcmnlmmpbmnaaGreat

/-
  Draws of lists of numbers. (Written by gendraw.py.)
-/

namespace Go.Proofs.YtabcmnlmmpbmnaaGreat
open Go.RowKit
set_option linter.unusedVariables false

set_option maxHeartbeats 3200000 in
set_option maxRecDepth 100000 in
theorem drawNumbers_any (w : World) (B blk : Nat) (h : Cur w B blk) :
    Calls Tryz.prog 129 #[.pointer (some ⟨blk, 0, none⟩)] w (DrawnT 200 B blk w) := by
  have h0 := ((DrSt.start h).new 28 7 #[.int .i64 0, .int .i64 0, .int .i64 0, .string ⟨#[]⟩, .slice none 0 0, .slice none 0 0, .slice none 0 0] rfl).new 28 7 #[.int .i64 3, .int .i64 0, .int .i64 0, .string ⟨#[]⟩, .slice none 0 0, .slice none 0 0, .slice none 0 0] rfl
  rw [World.size_alloc] at h0
  have H := Lib.hid h0
  clear h h0
  go_enter Tryz.func129, Tryz.ntmps129
  go_wp2_with fail
  refine (below_pos _ B blk 9 H.out.cur (by omega) (by omega)).mono ?_
  rintro e w0 ⟨n, hn0, hn1, rfl, hg, hc⟩
  have H1 := Lib.hid (H.out.draw hg hc)
  clear hg hc H
  go_wp2_with fail
  go_loopw [5] (fun i wr => ∃ (j q : Nat) (A : Option Addr) (cl : List Value) (fp : List Nat) (xs : List Dt), (j : Int) ≤ n ∧ i = .int .i64 j ∧ xs.length = j ∧ Hid (∀ x ∈ xs, IsVal x ∧ x.wt ≤ 20) ∧ DrSt w B blk [rowA 28 7 (.slice A j q) j cl, owLA xs cl fp, boxA 28 7 (w.heap.size + 1) [.int .i64 3, .int .i64 0, .int .i64 0, .string ⟨#[]⟩, .slice A j q, .slice none 0 0, .slice none 0 0], boxA 28 7 w.heap.size [.int .i64 0, .int .i64 0, .int .i64 0, .string ⟨#[]⟩, .slice none 0 0, .slice none 0 0, .slice none 0 0]] wr) (fun i _ => n.toNat - (intOf i).toNat)
  case atStart => exact ⟨0, 0, none, [], [], [], by omega, rfl, rfl, Lib.hid (by simp), H1.out.nilRow _ _⟩
  case round =>
    obtain ⟨j, q, A, cl, fp, xs, hj, rfl, hxs, HXS, hS⟩ := hrel
    by_cases hlt : (j : Int) < n
    · have hbx := (DrSt.nth (L1 := [_, _]) hS).box
      have x4 := hbx.cellAt 4 (by simp)
      simp at x4
      have hg3 := (hbx.lt _ rfl).2
      have HS := Lib.hid hS
      clear hS hbx
      go_wp2_with fail
      go_region_law (first
        | (go_simp
           go_at_call 108
           refine (drawNum_any _ B blk HS.out.drew.cur).mono ?_
           rintro e0 w9 ⟨x, hx0, hx1, rfl, hg, hc⟩
           have hC0 := HS.out.drew.draw hg hc
           have HC0 := Lib.hid hC0
           have hby := (DrSt.nth (L1 := [_, _]) hC0).box
           have y4 := hby.cellAt 4 (by simp)
           simp at y4
           have hg30 := (hby.lt _ rfl).2
           clear hC0 hby hg hc)
        | (go_simp
           go_at_call 26
           refine (specNumberValue_any x w9).mono ?_
           rintro e1 w1 ⟨rfl, hb⟩
           have hC1 := (HC0.out.below hb).flat (flatOw 1 x 0 ⟨#[]⟩)
           have HC1 := Lib.hid hC1
           have hs1 := hC1.size
           have hby := (DrSt.nth (L1 := [_, _, _]) hC1).box
           have y5 := hby.cellAt 4 (by simp)
           simp at y5
           have hg31 := (hby.lt _ rfl).2
           have HR1 := Lib.hid (flat_one 1 x 0 ⟨#[]⟩)
           have HEL := Lib.hid (And.intro (flatVal 1 x 0 ⟨#[]⟩) (flatWt 1 x 0 ⟨#[]⟩ (K := 20) (Nat.zero_le _)))
           clear hC1 hby hb)
        | (refine stepV _ (by rfl) (.tmp 15) (.tmp 19) (by rfl) w.heap.size (.slice A j q) j cl (by rfl) (by exact (HC1.out.alloc _).swap.row) (some ⟨w1.heap.size, 0, none⟩) 1 1 (w1.heap.size + 1) (flatV 1 x 0 ⟨#[]⟩) (by rfl) rfl (row_new w1 ((flatV 1 x 0 ⟨#[]⟩)).toArray 28) HR1.out (by omega) (by simp; omega) ?_
           intro v2 w2 hown2 hgr2 hn2
           obtain ⟨A2, q2, rfl⟩ := own_slice hown2
           have hC2 := (HC1.out.alloc _).swap.app hgr2 hown2 hn2.2
           have HC2 := Lib.hid hC2
           have hby := (DrSt.nth (L1 := [_, _, _]) hC2).box
           have z4 := hby.cellAt 4 (by simp)
           have f4 := hby.frozenAt 4
           simp at z4 f4
           clear hC2 hown2 hgr2 hn2 hby)
        | fail)
      all_goals
        have h3 := (DrSt.nth (L1 := [_, _]) HC2.out.push).set1 4 (.slice A2 (j + 1) q2)
        have H3 := Lib.hid (h3.perm (List.perm_middle (l₁ := [_, _]) (l₂ := [_])).symm)
        clear HC2 HC1 h3 HS
        go_wp2_with fail
        exact ⟨⟨j + 1, q2, A2, _, _, xs ++ [_], by omega, by simp, by simp; omega, Lib.hid (all_app HXS.out HEL.out), H3.out⟩, by simp [intOf]; omega⟩
    · have h1 := hS
      have HW := Lib.hid (wts_le xs HXS.out)
      have h9 := h1.topL hxs.symm
      have hbx := (DrSt.nth (L1 := [_, _, _, _, _]) h9).box
      obtain ⟨s0, s1, s2, s3, s4, s5, s6, hg3⟩ := box7 hbx
      have H9 := Lib.hid h9
      clear hS h1 h9 hbx
      have hbr := (DrSt.nth (L1 := [_, _, _, _, _, _]) H9.out).box
      obtain ⟨r0, r1, r2, r3, r4, r5, r6, -⟩ := box7 hbr
      obtain ⟨z0, z1, z2, z3, z4, z5, z6⟩ := box7z hbr
      clear hbr
      go_wp2_with fail
      clear s0 s1 s2 s3 s4 s5 s6
      have hf := (DrSt.nth (L1 := [_, _, _, _, _, _]) H9.out).set7 [.int .i64 3, .int .i64 0, .int .i64 0, .string ⟨#[]⟩, .slice A j q, .slice none 0 0, .slice none 0 0] rfl
      simp only [World.setCells, Nat.zero_add, Nat.reduceAdd] at hf
      generalize (((((((wr.setCell ⟨w.heap.size, 0, none⟩ (.int .i64 3)).setCell ⟨w.heap.size, 1, none⟩ (.int .i64 0)).setCell ⟨w.heap.size, 2, none⟩ (.int .i64 0)).setCell ⟨w.heap.size, 3, none⟩ (.string ⟨#[]⟩)).setCell ⟨w.heap.size, 4, none⟩ (.slice A j q)).setCell ⟨w.heap.size, 5, none⟩ (.slice none 0 0)).setCell ⟨w.heap.size, 6, none⟩ (.slice none 0 0)) = W7 at hf ⊢
      have hq := hf.box
      obtain ⟨s0, s1, s2, s3, s4, s5, s6, -⟩ := box7 hq
      have HG := Lib.hid (DrSt.first5 hf.drop)
      clear hf hq H9 r0 z0 r1 z1 r2 z2 r3 z3 r4 z4 r5 z5 r6 z6
      refine bodyPost_ret (v := .agg #[.int .i64 3, .int .i64 0, .int .i64 0, .string ⟨#[]⟩, .slice A j q, .slice none 0 0, .slice none 0 0]) (by simp [results, Tryz.results129, go_sem, s0, s1, s2, s3, s4, s5, s6]) rfl (show DrawnT _ _ _ _ _ _ from ⟨3, 0, 0, ⟨#[]⟩, xs, [], [], _, _, _, cl, fp, [], [], (fun x hx => (HXS.out x hx).1), (by simp), Nat.le_trans (wt_list (K := 20) HW.out (by omega)) (by decide), rfl, HG.out⟩)
end Go.Proofs.YtabcmnlmmpbmnaaGreat

/-
  A stream is a closure. (Written by genlst.py.)
-/

namespace Go.Proofs.YtabcmnlmmpbmnaaGreat
open Go.RowKit
set_option linter.unusedVariables false
set_option linter.unusedSimpArgs false

theorem prod_bd {n p i : Int} (h1 : -1000000000 ≤ n) (h2 : n ≤ 1000000000) (h3 : -1000000000 ≤ p) (h4 : p ≤ 1000000000) (h5 : 0 ≤ i) (h6 : i ≤ 1000000000) :
    (-1000000000000000000 ≤ i * p ∧ i * p ≤ 1000000000000000000) ∧ -1000000001000000000 ≤ n + i * p ∧ n + i * p ≤ 1000000001000000000 := by
  have a : (i * p).natAbs ≤ 1000000000 * 1000000000 := by
    rw [Int.natAbs_mul]
    exact Nat.mul_le_mul (by omega) (by omega)
  omega
set_option maxHeartbeats 1600000 in
set_option maxRecDepth 100000 in
theorem streamOf_any (k n s : Int) (t : ByteArray) (v4 v5 v6 : Value) (w : World) :
    Calls Tryz.prog 67 #[.agg #[.int .i64 k, .int .i64 n, .int .i64 s, .string t, v4, v5, v6]] w fun e w' => e = .returned (.func (.func 130) #[] #[.pointer (some ⟨w.heap.size, 0, none⟩)]) ∧ w' = w.alloc (.cells #[.int .i64 k, .int .i64 n, .int .i64 s, .string t, v4, v5, v6] 28) := by
  have hmf : ∀ (fn : Fn) (first cap : Array Value) (w : World), (Instr.makeFunc fn first cap).run Tryz.prog w = .ok (.func fn first cap) w := fun _ _ _ _ => rfl
  go_enter Tryz.func67, Tryz.ntmps67
  go_wp2_with fail
  go_ret
  exact ⟨rfl, rfl⟩

theorem streamOf_b (k n s : Int) (t : ByteArray) (v4 v5 v6 : Value) (w : World) :
    Calls Tryz.prog 67 #[.agg #[.int .i64 k, .int .i64 n, .int .i64 s, .string t, v4, v5, v6]] w fun e w' => ∃ g, e = .returned (.func (.func 130) #[] #[.pointer (some ⟨g, 0, none⟩)]) ∧ (w'.cell? ⟨g, 1, none⟩ = some (.int .i64 n) ∧ w'.cell? ⟨g, 2, none⟩ = some (.int .i64 s) ∧ g < w'.heap.size) ∧ Below w.heap.size w w' := by
  refine (streamOf_any k n s t v4 v5 v6 w).mono ?_
  rintro e w' ⟨rfl, rfl⟩
  have h := box7 (MSt.box ((MSt.start w).new 28 7 #[.int .i64 k, .int .i64 n, .int .i64 s, .string t, v4, v5, v6] rfl))
  exact ⟨_, rfl, ⟨h.2.1, h.2.2.1, h.2.2.2.2.2.2.2⟩, (Below.refl _ _).alloc (Nat.le_refl _) _⟩

set_option maxHeartbeats 1600000 in
set_option maxRecDepth 100000 in
theorem streamEl_any (n p i : Int) (h1 : -1000000000 ≤ n) (h2 : n ≤ 1000000000) (h3 : -1000000000 ≤ p) (h4 : p ≤ 1000000000) (h5 : 0 ≤ i) (h6 : i ≤ 1000000000) (g : Nat) (w : World) (hg : g < w.heap.size) (hn : w.cell? ⟨g, 1, none⟩ = some (.int .i64 n)) (hp : w.cell? ⟨g, 2, none⟩ = some (.int .i64 p)) :
    Calls Tryz.prog 130 #[.int .i64 i, .pointer (some ⟨g, 0, none⟩)] w fun e w' => e = .returned (.agg #[.int .i64 (chkK (n + i * p)), .int .i64 (chkN (n + i * p)), .int .i64 0, .string ⟨#[]⟩, .slice none 0 0, .slice none 0 0, .slice none 0 0]) ∧ Below w.heap.size w w' := by
  obtain ⟨⟨m1, m2⟩, m3, m4⟩ := prod_bd h1 h2 h3 h4 h5 h6
  have h0 := (MSt.start w).new 28 7 #[.int .i64 0, .int .i64 0, .int .i64 0, .string ⟨#[]⟩, .slice none 0 0, .slice none 0 0, .slice none 0 0] rfl
  have H0 := Lib.hid h0
  clear h0
  have hgn : ¬ g = w.heap.size := by omega
  go_enter Tryz.func130, Tryz.ntmps130
  go_wp2_with fail
  refine (implChecked_any (n + i * p) _).mono ?_
  rintro e w1 ⟨rfl, hb⟩
  have H1 := Lib.hid (H0.out.later hb)
  clear hb
  obtain ⟨fR0, fR1, fR2, fR3, fR4, fR5, fR6, fRlt⟩ := box7 (MSt.box H1.out)
  obtain ⟨zR0, zR1, zR2, zR3, zR4, zR5, zR6⟩ := box7z (MSt.box H1.out)
  go_wp2_with fail
  obtain ⟨W7, hW, hg, y0, y1, y2, y3, y4, y5, y6⟩ := MSt.put H1.out (.int .i64 (chkK (n + i * p))) (.int .i64 (chkN (n + i * p))) (.int .i64 0) (.string ⟨#[]⟩) (.slice none 0 0) (.slice none 0 0) (.slice none 0 0)
  rw [← hW]
  refine bodyPost_ret (v := .agg #[.int .i64 (chkK (n + i * p)), .int .i64 (chkN (n + i * p)), .int .i64 0, .string ⟨#[]⟩, .slice none 0 0, .slice none 0 0, .slice none 0 0]) (by simp [results, Tryz.results130, go_sem, y0, y1, y2, y3, y4, y5, y6]) rfl ⟨rfl, hg.bel⟩

end Go.Proofs.YtabcmnlmmpbmnaaGreat
