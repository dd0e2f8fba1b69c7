/-
  Texts that the proof rests on, put together: NodV, LevV.
-/
import Derived.Test.YtaanfdccnnfceaaGreatMgV19
import Derived.Test.YtaanfdccnnfceaaGreatMgV8
import Derived.Deep.RegionHeld3
import Derived.Deep.CutRange
import Derived.Deep.LoopGhost
/-
  The functions that tell what is inside a node; the iterator that yields the nodes of a tree: its contract. (Written by gen10n.py.)
-/

namespace Go.Proofs.YtaanfdccnnfceaaGreat
open Go.RowKit
set_option linter.unusedVariables false

set_option maxHeartbeats 400000 in
set_option maxRecDepth 100000 in
theorem vinside_at (k n s : Int) (t : ByteArray) (A4 A5 A6 : Option Addr) (m4 q4 m5 q5 m6 q6 : Nat) (w : World) :
    Calls Tryz.prog 18 #[.agg #[.int .i64 k, .int .i64 n, .int .i64 s, .string t, .slice A4 m4 q4, .slice A5 m5 q5, .slice A6 m6 q6]] w fun e w' => e = .returned (.slice A4 m4 q4) ∧ Below w.heap.size w w' := by
  go_enter Tryz.func18, Tryz.ntmps18
  go_wp2_with fail
  go_ret
  exact ⟨rfl, (Below.refl _ _).alloc (Nat.le_refl _) _⟩

set_option maxHeartbeats 1600000 in
set_option maxRecDepth 100000 in
theorem vnodes_seq {d : Dt} (hd : IsVal d) (hwt : d.wt ≤ 1048576) (cs : List Value) (n₀ br bi fl : Nat) (W0 : World) (hrd : Rd W0 n₀ d cs) (hroot : ∀ j, j < 7 → W0.cell? ⟨br, j, none⟩ = cs[j]?)
    (hin : W0.cell? ⟨bi, 0, none⟩ = some (.func (.func 18) #[] #[])) (hbr : br < W0.heap.size) (hbi : bi < W0.heap.size) (hn0 : n₀ ≤ W0.heap.size) :
    SeqD Fence.wide fl Tryz.prog 33 #[.pointer (some ⟨br, 0, none⟩), .pointer (some ⟨bi, 0, none⟩)] d.vnods n₀ (fun k => k = br ∨ k = bi) W0 := by
  intro lr B0 Y J Jx W hbw hB hB' hY hJ hJx hR h0
  refine callsIn_wide.2 ?_
  simp only [List.append_toArray, List.cons_append, List.nil_append]
  obtain ⟨N, hN⟩ : ∃ N, N = d.vnods := ⟨_, rfl⟩
  have hlen := vnods_len hd
  rw [← hN] at hlen hR ⊢
  have hwd := hd.width
  have hcl := Rd.len d cs hrd
  rw [hwd] at hcl
  match cs, hcl with
  | [v0, v1, v2, v3, v4, v5, v6], _ =>
  have c0 : W.cell? ⟨br, 0, none⟩ = some v0 := (hbw.cell (p := ⟨br, 0, none⟩) hbr).trans (hroot 0 (by omega))
  have c1 : W.cell? ⟨br, 1, none⟩ = some v1 := (hbw.cell (p := ⟨br, 1, none⟩) hbr).trans (hroot 1 (by omega))
  have c2 : W.cell? ⟨br, 2, none⟩ = some v2 := (hbw.cell (p := ⟨br, 2, none⟩) hbr).trans (hroot 2 (by omega))
  have c3 : W.cell? ⟨br, 3, none⟩ = some v3 := (hbw.cell (p := ⟨br, 3, none⟩) hbr).trans (hroot 3 (by omega))
  have c4 : W.cell? ⟨br, 4, none⟩ = some v4 := (hbw.cell (p := ⟨br, 4, none⟩) hbr).trans (hroot 4 (by omega))
  have c5 : W.cell? ⟨br, 5, none⟩ = some v5 := (hbw.cell (p := ⟨br, 5, none⟩) hbr).trans (hroot 5 (by omega))
  have c6 : W.cell? ⟨br, 6, none⟩ = some v6 := (hbw.cell (p := ⟨br, 6, none⟩) hbr).trans (hroot 6 (by omega))
  have hfi : W.cell? ⟨bi, 0, none⟩ = some (.func (.func 18) #[] #[]) := (hbw.cell (p := ⟨bi, 0, none⟩) hbi).trans hin
  have hYi : ¬ Y bi := fun h => (hY bi h).2.2 (.inr rfl)
  have hbW := Nat.lt_of_lt_of_le hbi hbw.size
  have HH := Lib.hid (And.intro hd (And.intro hN (And.intro hrd (And.intro hY (And.intro hJ (And.intro hJx hR))))))
  have HB := Lib.hid (And.intro hbw h0)
  clear hd hN hrd hroot hin hY hJ hJx hR hbw h0
  go_enter Tryz.func33, Tryz.ntmps33
  go_wp2_with fail
  go_loopg [4] ((vnodsL [d]).length) (fun gk rv wr => ∃ (st : List Dt) (g c : Nat) (cells : List Value) (pre : List Dt), gk = (vnodsL st).length ∧ rv = .slice (some ⟨g, 0, none⟩) st.length c ∧
    wr.ownsRow W.heap.size 28 7 (.slice (some ⟨g, 0, none⟩) st.length c) st.length cells ∧ RdL wr n₀ st cells ∧ (∀ x ∈ st, IsVal x) ∧ N = pre ++ vnodsL st ∧ J pre wr ∧ Below n₀ W0 wr ∧
    wr.cell? ⟨bi, 0, none⟩ = some (.func (.func 18) #[] #[]) ∧ W.heap.size ≤ wr.heap.size)
  case atStart =>
    have hbl : Below W.heap.size W (W.alloc (.cells #[v0, v1, v2, v3, v4, v5, v6] 28)) := (Below.refl _ _).alloc (Nat.le_refl _) _
    refine ⟨[d], W.heap.size, 1, [v0, v1, v2, v3, v4, v5, v6], [], rfl, rfl, ?_, ?_, by simpa using HH.out.1, ?_, ?_, ?_, ?_, ?_⟩
    · exact World.ownsRow_lit W #[v0, v1, v2, v3, v4, v5, v6] 1 (Nat.le_refl _) (by unfold maxLen; omega) rfl
    · simp only [RdL]
      exact ⟨_, [], by simp, HH.out.2.2.1.below ((HB.out.1.mono hn0).trans (hbl.mono (by have := HB.out.1.size; omega))), rfl⟩
    · rw [HH.out.2.1, vnodsL_one]; rfl
    · exact HH.out.2.2.2.2.1 _ _ _ HB.out.2 (hbl.mono hB')
    · exact (HB.out.1.mono hn0).trans (hbl.mono (by have := HB.out.1.size; omega))
    · exact (hbl.cell (p := ⟨bi, 0, none⟩) hbW).trans hfi
    · simp
  case round =>
    obtain ⟨st, g, c, cells, pre, rfl, rfl, hown, hrl, hval, hNs, hJs, hb0, hfi', hws⟩ := hrel
    have hsl : st.length ≤ 1048577 := by
      have h1 := vnodsL_len st hval
      have h2 : N.length = pre.length + (vnodsL st).length := by rw [hNs, List.length_append]
      omega
    rcases List.eq_nil_or_concat st with rfl | ⟨us, x, rfl⟩
    · have HX := Lib.hid (And.intro hNs hJs)
      clear hNs hJs hrl hval hown hb0
      go_wp2_with fail
      go_end0
      refine ⟨⟨_, rfl⟩, .inl ?_⟩
      have e := HX.out.1
      simp only [vnodsL, List.append_nil] at e
      rw [e]
      exact HX.out.2
    · simp only [List.concat_eq_append] at *
      have hx : IsVal x := hval x (by simp)
      have hus : ∀ y ∈ us, IsVal y := fun y hy => hval y (by simp [hy])
      obtain ⟨hr1, cs, hr2, hclx⟩ := hrl.last (k := 7) fun y hy => (hus y hy).width
      rw [vnodsL_last hx] at *
      simp only [List.length_append, List.length_cons, List.length_nil, Nat.zero_add] at *
      have hkx := hx.kidsIs
      have hpx : pre ++ [x] <+: N := ⟨vnodsL (us ++ vkids x), by rw [hNs]; simp⟩
      have hNx : N = (pre ++ [x]) ++ vnodsL (us ++ vkids x) := by rw [hNs]; simp
      have hrx := hr2
      cases hx with
      | mk k n s t l cc r hl hr =>
        obtain ⟨A4, q4, A5, q5, A6, q6, rfl, r4, r5, r6⟩ := Rd.ofValue hr2
        rw [List.length_map] at hrx hclx
        simp only [vkids] at hkx hNx ⊢
        obtain ⟨lc, hlc1, hlc2, hlc3, _⟩ := r4.cells (k := 7) fun y hy => (hl y hy).width
        have hc0 := hown.cellAt (us.length * 7 + 0) (by omega)
        have hc1 := hown.cellAt (us.length * 7 + 1) (by omega)
        have hc2 := hown.cellAt (us.length * 7 + 2) (by omega)
        have hc3 := hown.cellAt (us.length * 7 + 3) (by omega)
        have hc4 := hown.cellAt (us.length * 7 + 4) (by omega)
        have hc5 := hown.cellAt (us.length * 7 + 5) (by omega)
        have hc6 := hown.cellAt (us.length * 7 + 6) (by omega)
        rw [hclx] at hc0 hc1 hc2 hc3 hc4 hc5 hc6
        simp only [List.getElem?_cons_zero, List.getElem?_cons_succ, Nat.add_zero] at hc0 hc1 hc2 hc3 hc4 hc5 hc6
        have hul : us.length + l.length ≤ 1048577 := by
          have h1 := vnodsL_len (us ++ l) (fun y hy => (List.mem_append.1 hy).elim (hus y) (hl y))
          have h2 : N.length = (pre ++ [Dt.agg [.int k, .int n, .int s, .str t, .lst l, .lst (cc.map .str), .lst r]]).length + (vnodsL (us ++ l)).length := by rw [hNx, List.length_append]
          rw [List.length_append] at h1
          omega
        have HX := Lib.hid (And.intro hown (And.intro hr1 (And.intro hlc1 (And.intro hlc2 (And.intro hus (And.intro hl (And.intro hNx (And.intro hJs (And.intro hb0 (And.intro hpx hrx))))))))))
        clear hown hr1 hlc1 hlc2 hus hl hNx hJs hb0 hpx hrx hr2 hclx hrl hval hNs hkx r4 r5 r6 hr
        go_upto_region 4 with fail
        obtain ⟨hbx, hbA, hsA⟩ := box_new (e := 28) (s := 7) wr #[.int .i64 k, .int .i64 n, .int .i64 s, .string t, .slice A4 l.length q4, .slice A5 cc.length q5, .slice A6 r.length q6] rfl
        generalize wr.alloc (.cells #[.int .i64 k, .int .i64 n, .int .i64 s, .string t, .slice A4 l.length q4, .slice A5 cc.length q5, .slice A6 r.length q6] 28) = A at *
        have hb0A := HX.out.2.2.2.2.2.2.2.2.1.trans (hbA.mono (by omega))
        obtain ⟨fn, tmps, assign, body, hy, hRd⟩ := HH.out.2.2.2.2.2.2 pre (.agg [.int k, .int n, .int s, .str t, .lst l, .lst (cc.map .str), .lst r]) [.int .i64 k, .int .i64 n, .int .i64 s, .string t, .slice A4 l.length q4, .slice A5 cc.length q5, .slice A6 r.length q6] A (HH.out.2.2.2.2.1 _ _ _ HX.out.2.2.2.2.2.2.2.1 (hbA.mono (by omega))) HX.out.2.2.2.2.2.2.2.2.2.1 (HX.out.2.2.2.2.2.2.2.2.2.2.below (hbA.mono (by omega))) (by omega)
        have y0 := hbx.cellAt 0 (by omega)
        have y1 := hbx.cellAt 1 (by omega)
        have y2 := hbx.cellAt 2 (by omega)
        have y3 := hbx.cellAt 3 (by omega)
        have y4 := hbx.cellAt 4 (by omega)
        have y5 := hbx.cellAt 5 (by omega)
        have y6 := hbx.cellAt 6 (by omega)
        simp only [List.getElem?_cons_zero, List.getElem?_cons_succ] at y0 y1 y2 y3 y4 y5 y6
        have hfiA : A.cell? ⟨bi, 0, none⟩ = some (.func (.func 18) #[] #[]) := (hbA.cell (p := ⟨bi, 0, none⟩) (by show bi < wr.heap.size; omega)).trans hfi'
        have hownA := own_keep HX.out.1 fun b hb => hbA.block b (HX.out.1.lt b hb).2
        have HA := Lib.hid (And.intro hbx (And.intro hbA (And.intro hb0A hownA)))
        clear hbx hbA hb0A hownA hc0 hc1 hc2 hc3 hc4 hc5 hc6
        refine (wpIn_wide (n := fl)).1 ?_
        gi_wp2_with fail
        refine ⟨fun h => (by cases h), hRd.mono ?_⟩
        rintro e W3 (⟨rfl, hJ3, hk3⟩ | ⟨rfl, hJx3⟩)
        · clear hy hRd
          have hYB : ∀ k, W.heap.size ≤ k → ¬ Y k := fun k hk h => by have := (HH.out.2.2.2.1 k h).2.1; omega
          have hs3 := hk3.size
          have hwA : wr.heap.size < A.heap.size := by omega
          have hb03 := HA.out.2.2.1.trans (hk3.below (N := n₀) (by have := HB.out.1.size; omega) fun k hk => (HH.out.2.2.2.1 k hk).1)
          have hown3 := own_keep HA.out.2.2.2 fun b hb => hk3.block b (HA.out.2.2.2.lt b hb).2 (hYB b (HA.out.2.2.2.lt b hb).1)
          have hbx3 := own_keep HA.out.1 fun b hb => hk3.block b (HA.out.1.lt b hb).2 (hYB b (by have := (HA.out.1.lt b hb).1; omega))
          have hfi3 : W3.cell? ⟨bi, 0, none⟩ = some (.func (.func 18) #[] #[]) := (hk3.cell (p := ⟨bi, 0, none⟩) (by show bi < A.heap.size; omega) hYi).trans hfiA
          clear y0 y1 y2 y3 y4 y5 y6 hfiA
          have z0 := hbx3.cellAt 0 (by omega)
          have z1 := hbx3.cellAt 1 (by omega)
          have z2 := hbx3.cellAt 2 (by omega)
          have z3 := hbx3.cellAt 3 (by omega)
          have z4 := hbx3.cellAt 4 (by omega)
          have z5 := hbx3.cellAt 5 (by omega)
          have z6 := hbx3.cellAt 6 (by omega)
          simp only [List.getElem?_cons_zero, List.getElem?_cons_succ] at z0 z1 z2 z3 z4 z5 z6
          have hcap := own_cap hown3
          have hgl := (hown3.lt g rfl).2
          have HW := Lib.hid (And.intro hown3 (And.intro hb03 hJ3))
          clear hown3 hbx3 hb03 hJ3
          have hbwr : Below n₀ wr W3.drew := (HA.out.2.1.mono (by have := HB.out.1.size; omega)).trans ((hk3.below (N := n₀) (by have := HB.out.1.size; omega) fun k hk => (HH.out.2.2.2.1 k hk).1)).drew
          have hn3 : n₀ ≤ W3.heap.size := by have := HB.out.1.size; omega
          have hgb := (HX.out.1.lt g rfl)
          have hcap1 : (us.length : Int) ≤ (c : Int) := by omega
          have hcap0 : (0 : Int) ≤ (us.length : Int) := by omega
          have HC := Lib.hid hbwr
          clear hk3 hbwr
          gi_wp2_with fail
          go_wp2_with fail
          go_region_held3 (fun w' => w'.cell? ⟨bi, 0, none⟩ = some (.func (.func 18) #[] #[]) ∧ w'.cell? ⟨wr.heap.size, 0, none⟩ = some (.int .i64 k) ∧ w'.cell? ⟨wr.heap.size, 1, none⟩ = some (.int .i64 n) ∧ w'.cell? ⟨wr.heap.size, 2, none⟩ = some (.int .i64 s) ∧ w'.cell? ⟨wr.heap.size, 3, none⟩ = some (.string t) ∧ w'.cell? ⟨wr.heap.size, 4, none⟩ = some (.slice A4 l.length q4) ∧ w'.cell? ⟨wr.heap.size, 5, none⟩ = some (.slice A5 cc.length q5) ∧ w'.cell? ⟨wr.heap.size, 6, none⟩ = some (.slice A6 r.length q6))
            (first | exact ⟨hfi3, z0, z1, z2, z3, z4, z5, z6⟩ | exact ⟨hk', z0', z1', z2', z3', z4', z5', z6'⟩ | exact ⟨hq, q0_, q1_, q2_, q3_, q4_, q5_, q6_⟩)
            (first
              | (go_at_call_of 18 (Value.agg #[.int .i64 k, .int .i64 n, .int .i64 s, .string t, .slice A4 l.length q4, .slice A5 cc.length q5, .slice A6 r.length q6]); refine (vinside_at k n s t A4 A5 A6 l.length q4 cc.length q5 r.length q6 _).mono ?_; rintro e w4 ⟨rfl, hb4⟩; have hq : w4.cell? ⟨bi, 0, none⟩ = some (.func (.func 18) #[] #[]) := (hb4.cell (p := ⟨bi, 0, none⟩) (by show bi < W3.heap.size; omega)).trans hfi3; have q0_ : w4.cell? ⟨wr.heap.size, 0, none⟩ = some (.int .i64 k) := (hb4.cell (p := ⟨wr.heap.size, 0, none⟩) (by show wr.heap.size < W3.heap.size; omega)).trans z0; have q1_ : w4.cell? ⟨wr.heap.size, 1, none⟩ = some (.int .i64 n) := (hb4.cell (p := ⟨wr.heap.size, 1, none⟩) (by show wr.heap.size < W3.heap.size; omega)).trans z1; have q2_ : w4.cell? ⟨wr.heap.size, 2, none⟩ = some (.int .i64 s) := (hb4.cell (p := ⟨wr.heap.size, 2, none⟩) (by show wr.heap.size < W3.heap.size; omega)).trans z2; have q3_ : w4.cell? ⟨wr.heap.size, 3, none⟩ = some (.string t) := (hb4.cell (p := ⟨wr.heap.size, 3, none⟩) (by show wr.heap.size < W3.heap.size; omega)).trans z3; have q4_ : w4.cell? ⟨wr.heap.size, 4, none⟩ = some (.slice A4 l.length q4) := (hb4.cell (p := ⟨wr.heap.size, 4, none⟩) (by show wr.heap.size < W3.heap.size; omega)).trans z4; have q5_ : w4.cell? ⟨wr.heap.size, 5, none⟩ = some (.slice A5 cc.length q5) := (hb4.cell (p := ⟨wr.heap.size, 5, none⟩) (by show wr.heap.size < W3.heap.size; omega)).trans z5; have q6_ : w4.cell? ⟨wr.heap.size, 6, none⟩ = some (.slice A6 r.length q6) := (hb4.cell (p := ⟨wr.heap.size, 6, none⟩) (by show wr.heap.size < W3.heap.size; omega)).trans z6)
              | (refine stepV _ (by rfl) (.tmp 25) (.tmp 28) (by rfl) W.heap.size _ us.length (cells.take (us.length * 7)) (by rfl) (own_takeW (own_keep (w := W3.drew) HW.out.1 fun b hb => hb4.block b (by injection hb with hb; have hb : g = b := hb; show b < W3.heap.size; omega)) (by omega)) A4 l.length q4 n₀ lc (by rfl) hlc3 (HX.out.2.2.1.below (B := n₀) (HC.out.trans (hb4.mono hn3))) (HX.out.2.2.2.1.one) (by omega) (by have h4 : W3.heap.size ≤ w4.heap.size := hb4.size; omega) ?_
                 intro v2 w2 hown2 hgr2 hnil2
                 have hs4 : W3.heap.size ≤ w4.heap.size := hb4.size
                 have hk' : w2.cell? ⟨bi, 0, none⟩ = some (.func (.func 18) #[] #[]) := (World.cell?_of_block (hgr2.block bi (by omega) (fun e => by injection e with e; have e : bi = g := e; omega))).trans hq
                 have z0' : w2.cell? ⟨wr.heap.size, 0, none⟩ = some (.int .i64 k) := (World.cell?_of_block (hgr2.block wr.heap.size (by omega) (fun e => by injection e with e; have e : wr.heap.size = g := e; omega))).trans q0_
                 have z1' : w2.cell? ⟨wr.heap.size, 1, none⟩ = some (.int .i64 n) := (World.cell?_of_block (hgr2.block wr.heap.size (by omega) (fun e => by injection e with e; have e : wr.heap.size = g := e; omega))).trans q1_
                 have z2' : w2.cell? ⟨wr.heap.size, 2, none⟩ = some (.int .i64 s) := (World.cell?_of_block (hgr2.block wr.heap.size (by omega) (fun e => by injection e with e; have e : wr.heap.size = g := e; omega))).trans q2_
                 have z3' : w2.cell? ⟨wr.heap.size, 3, none⟩ = some (.string t) := (World.cell?_of_block (hgr2.block wr.heap.size (by omega) (fun e => by injection e with e; have e : wr.heap.size = g := e; omega))).trans q3_
                 have z4' : w2.cell? ⟨wr.heap.size, 4, none⟩ = some (.slice A4 l.length q4) := (World.cell?_of_block (hgr2.block wr.heap.size (by omega) (fun e => by injection e with e; have e : wr.heap.size = g := e; omega))).trans q4_
                 have z5' : w2.cell? ⟨wr.heap.size, 5, none⟩ = some (.slice A5 cc.length q5) := (World.cell?_of_block (hgr2.block wr.heap.size (by omega) (fun e => by injection e with e; have e : wr.heap.size = g := e; omega))).trans q5_
                 have z6' : w2.cell? ⟨wr.heap.size, 6, none⟩ = some (.slice A6 r.length q6) := (World.cell?_of_block (hgr2.block wr.heap.size (by omega) (fun e => by injection e with e; have e : wr.heap.size = g := e; omega))).trans q6_)
              | fail)
          obtain ⟨g2, c2, rfl, hg2, hg2'⟩ : ∃ g2 c2, v2 = .slice (some ⟨g2, 0, none⟩) (us.length + l.length) c2 ∧ W.heap.size ≤ g2 ∧ g2 < w2.heap.size := by
            rcases hown2.2 with ⟨e, _⟩ | ⟨g2, cap2, cur2, e, h1, h2, _⟩
            · have := (hnil2.1.1 e).1
              cases this
            · exact ⟨g2, cap2, e, h1, (hown2.lt g2 (by rw [e]; rfl)).2⟩
          have hb32 : Below W.heap.size W3 w2 := Below.trans (b := W3.drew) (Below.refl _ _).drew ((hb4.mono (by show W.heap.size ≤ W3.heap.size; omega)).grown hgr2 (by have h4 : W3.heap.size ≤ w4.heap.size := hb4.size; omega) (fun j hj => by injection hj with hj; have hj : g = j := hj; omega))
          have hbn2 : Below n₀ wr w2 := HC.out.trans ((hb4.mono hn3).grown hgr2 (by have h4 : W3.heap.size ≤ w4.heap.size := hb4.size; omega) (fun j hj => by injection hj with hj; have hj : g = j := hj; have := HB.out.1.size; omega))
          have hfi2 := hk'
          have HO2 := Lib.hid (And.intro hown2 (And.intro hb32 hbn2))
          clear hown2 hgr2 hnil2 hb32 hbn2 hb4 hq q0_ q1_ q2_ q3_ q4_ q5_ q6_
          go_wp2_with fail
          go_roundg ((vnodsL (us ++ l)).length)
          case measure => simp only [vkids]; omega
          case rel =>
            refine ⟨us ++ l, g2, c2, cells.take (us.length * 7) ++ lc, pre ++ [.agg [.int k, .int n, .int s, .str t, .lst l, .lst (cc.map .str), .lst r]], rfl, by simp, by simpa using HO2.out.1, ?_, fun y hy => (List.mem_append.1 hy).elim (HX.out.2.2.2.2.1 y) (HX.out.2.2.2.2.2.1 y), HX.out.2.2.2.2.2.2.1, ?_, ?_, hfi2, ?_⟩
            · exact (HX.out.2.1.below HO2.out.2.2).app (HX.out.2.2.2.1.below HO2.out.2.2)
            · exact HH.out.2.2.2.2.1 _ _ _ HW.out.2.2 (HO2.out.2.1.mono hB')
            · exact HW.out.2.1.trans (HO2.out.2.1.mono (by have := HB.out.1.size; omega))
            · have := HO2.out.2.1.size; omega
        · clear hy hRd
          gi_wp2_with fail
          go_wp2_with fail
          refine bodyPost_ret (results_none rfl _ _ _) rfl ?_
          exact ⟨⟨_, rfl⟩, .inr ⟨_, HX.out.2.2.2.2.2.2.2.2.2.1, hJx3⟩⟩
end Go.Proofs.YtaanfdccnnfceaaGreat

/-
  countLevels: the depth of a tree, level by level. (Written by gen10n.py.)
-/

namespace Go.Proofs.YtaanfdccnnfceaaGreat
open Go.RowKit
set_option linter.unusedVariables false

mutual
def Dt.dep : Dt → Nat
  | .agg [_, _, _, _, .lst l, _, _] => 1 + deps l
  | _ => 0
def deps : List Dt → Nat
  | [] => 0
  | x :: xs => max x.dep (deps xs)
end
def kids : Dt → List Dt
  | .agg [_, _, _, _, .lst l, _, _] => l
  | _ => []
theorem dep_mk (k n s : Int) (t : ByteArray) (l c r : List Dt) : Dt.dep (.agg [.int k, .int n, .int s, .str t, .lst l, .lst c, .lst r]) = 1 + deps l := by simp only [Dt.dep]
theorem IsVal.dep {d : Dt} (h : IsVal d) : d.dep = 1 + deps (kids d) := by
  cases h
  simp only [Dt.dep, kids]
end Go.Proofs.YtaanfdccnnfceaaGreat
