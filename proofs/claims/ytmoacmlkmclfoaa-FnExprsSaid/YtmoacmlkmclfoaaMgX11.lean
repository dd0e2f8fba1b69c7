/-
  Texts that the proof rests on, put together: NodE, DrawE1, DrawE2.
-/
import Derived.Test.YtmoacmlkmclfoaaMgX10
import Derived.Deep.RegionHeld3
import Derived.Deep.CutRange
import Derived.Deep.LoopGhost
import Derived.Test.YtmoacmlkmclfoaaMgX6
import Derived.Test.YtmoacmlkmclfoaaMgX4
import Derived.Test.YtmoacmlkmclfoaaMgX8
/-
  The functions that tell what is inside a node; the iterator that yields the nodes of a tree: its contract. (Written by gen10n.py.)
-/

namespace Go.Proofs.Ytmoacmlkmclfoaa
open Go.RowKit
set_option linter.unusedVariables false

theorem eInfo : (Try.prog.info? 26).map (fun i => (i.zero, i.size, i.bytes)) = some (some (.agg #[.int .i64 0, .int .i64 0, .string ⟨#[]⟩, .slice none 0 0]), 4, 56) := by kernel_rfl
theorem wpE {o : Oper} {a : Act} {K : Act → World → Prop} {Q : Exit → Act → World → Prop} (w : World) (s x : Operand)
    (ho : o.op = .call { callee := .builtin .append, args := #[s, x], argTypes := #[24, 24] })
    (base : Nat) (v : Value) (n : Nat) (xs : List Value) (hs : a.eval s = v) (hown : w.ownsRow base 26 4 v n xs)
    (A : Option Addr) (m c B : Nat) (news : List Value) (hx : a.eval x = .slice A m c) (hl : news.length = m * 4) (hrow : RowOf w B A news) (h1 : ∀ u ∈ news, u.oneCell' = true)
    (hb : n + m ≤ 4194304) (hbase : base ≤ w.heap.size)
    (h : ∀ v' w', w'.ownsRow base 26 4 v' (n + m) (xs ++ news) → w.grownBy w' v.ownBlock → ((v' = .slice none 0 0 ↔ v = .slice none 0 0 ∧ m = 0) ∧ (v'.ownBlock = v.ownBlock ∨ v'.ownBlock = some w.heap.size)) → K (a.put o.dst v') w') : Oper.wp Try.prog o a w K Q := by
  obtain ⟨i0, hi, hz0, hz1, hz2⟩ := info_parts eInfo
  exact wp_append_src w s x 24 ho base 26 i0 _ 4 56 Try.underlying24 hi hz0 hz1 hz2 rfl (by decide) v n xs hs hown A m c B news hx hl hrow h1 (by unfold maxLen; omega) (by omega) hbase h
theorem appE {ops : Array Oper} {rest : List Oper} {o : Oper} {a : Act} {Q : Exit → Act → World → Prop} (w : World) (hgd : o.guard = none) (s x : Operand)
    (ho : o.op = .call { callee := .builtin .append, args := #[s, x], argTypes := #[24, 24] })
    (base : Nat) (v : Value) (n : Nat) (xs : List Value) (hs : a.eval s = v) (hown : w.ownsRow base 26 4 v n xs)
    (A : Option Addr) (m c B : Nat) (news : List Value) (hx : a.eval x = .slice A m c) (hl : news.length = m * 4) (hrow : RowOf w B A news) (h1 : ∀ u ∈ news, u.oneCell' = true)
    (hb : n + m ≤ 4194304) (hbase : base ≤ w.heap.size)
    (h : ∀ v' w', w'.ownsRow base 26 4 v' (n + m) (xs ++ news) → w.grownBy w' v.ownBlock → ((v' = .slice none 0 0 ↔ v = .slice none 0 0 ∧ m = 0) ∧ (v'.ownBlock = v.ownBlock ∨ v'.ownBlock = some w.heap.size)) → wpList Try.prog ops Q rest (a.put o.dst v') w') : wpList Try.prog ops Q (o :: rest) a w :=
  wpList_plain hgd fun _ hK => wpE w s x ho base v n xs hs hown A m c B news hx hl hrow h1 hb hbase fun v' w' h2 h3 h4 => hK _ _ (h v' w' h2 h3 h4)
theorem stepE {ops : Array Oper} {o : Oper} {a : Act} {K : Act → World → Prop} {Q : Exit → Act → World → Prop} {E : Prop} (w : World) (hgd : o.guard = none) (s x : Operand)
    (ho : o.op = .call { callee := .builtin .append, args := #[s, x], argTypes := #[24, 24] })
    (base : Nat) (v : Value) (n : Nat) (xs : List Value) (hs : a.eval s = v) (hown : w.ownsRow base 26 4 v n xs)
    (A : Option Addr) (m c B : Nat) (news : List Value) (hx : a.eval x = .slice A m c) (hl : news.length = m * 4) (hrow : RowOf w B A news) (h1 : ∀ u ∈ news, u.oneCell' = true)
    (hb : n + m ≤ 4194304) (hbase : base ≤ w.heap.size)
    (h : ∀ v' w', w'.ownsRow base 26 4 v' (n + m) (xs ++ news) → w.grownBy w' v.ownBlock → ((v' = .slice none 0 0 ↔ v = .slice none 0 0 ∧ m = 0) ∧ (v'.ownBlock = v.ownBlock ∨ v'.ownBlock = some w.heap.size)) → K (a.put o.dst v') w') :
    if Region.wanted o (yielded ops a.tmps) = true then Oper.wp Try.prog o a w K Q else E := by
  have hw : Region.wanted o (yielded ops a.tmps) = true := by simp [Region.wanted, hgd]
  rw [if_pos hw]
  exact wpE w s x ho base v n xs hs hown A m c B news hx hl hrow h1 hb hbase h

set_option maxHeartbeats 400000 in
set_option maxRecDepth 100000 in
theorem einside_at (k n : Int) (t : ByteArray) (A3 : Option Addr) (m3 q3 : Nat) (w : World) :
    Calls Try.prog 16 #[.agg #[.int .i64 k, .int .i64 n, .string t, .slice A3 m3 q3]] w fun e w' => e = .returned (.slice A3 m3 q3) ∧ Below w.heap.size w w' := by
  go_enter Try.func16, Try.ntmps16
  go_wp2_with fail
  go_ret
  exact ⟨rfl, (Below.refl _ _).alloc (Nat.le_refl _) _⟩

set_option maxHeartbeats 1600000 in
set_option maxRecDepth 100000 in
theorem enodes_seq {d : Dt} (hd : IsExp d) (hwt : d.wt ≤ 1048576) (cs : List Value) (n₀ br bi fl : Nat) (W0 : World) (hrd : Rd W0 n₀ d cs) (hroot : ∀ j, j < 4 → W0.cell? ⟨br, j, none⟩ = cs[j]?)
    (hin : W0.cell? ⟨bi, 0, none⟩ = some (.func (.func 16) #[] #[])) (hbr : br < W0.heap.size) (hbi : bi < W0.heap.size) (hn0 : n₀ ≤ W0.heap.size) :
    SeqD Fence.wide fl Try.prog 31 #[.pointer (some ⟨br, 0, none⟩), .pointer (some ⟨bi, 0, none⟩)] d.enods n₀ (fun k => k = br ∨ k = bi) W0 := by
  intro lr B0 Y J Jx W hbw hB hB' hY hJ hJx hR h0
  refine callsIn_wide.2 ?_
  simp only [List.append_toArray, List.cons_append, List.nil_append]
  obtain ⟨N, hN⟩ : ∃ N, N = d.enods := ⟨_, rfl⟩
  have hlen := enods_len hd
  rw [← hN] at hlen hR ⊢
  have hwd := hd.width
  have hcl := Rd.len d cs hrd
  rw [hwd] at hcl
  match cs, hcl with
  | [v0, v1, v2, v3], _ =>
  have c0 : W.cell? ⟨br, 0, none⟩ = some v0 := (hbw.cell (p := ⟨br, 0, none⟩) hbr).trans (hroot 0 (by omega))
  have c1 : W.cell? ⟨br, 1, none⟩ = some v1 := (hbw.cell (p := ⟨br, 1, none⟩) hbr).trans (hroot 1 (by omega))
  have c2 : W.cell? ⟨br, 2, none⟩ = some v2 := (hbw.cell (p := ⟨br, 2, none⟩) hbr).trans (hroot 2 (by omega))
  have c3 : W.cell? ⟨br, 3, none⟩ = some v3 := (hbw.cell (p := ⟨br, 3, none⟩) hbr).trans (hroot 3 (by omega))
  have hfi : W.cell? ⟨bi, 0, none⟩ = some (.func (.func 16) #[] #[]) := (hbw.cell (p := ⟨bi, 0, none⟩) hbi).trans hin
  have hYi : ¬ Y bi := fun h => (hY bi h).2.2 (.inr rfl)
  have hbW := Nat.lt_of_lt_of_le hbi hbw.size
  have HH := Lib.hid (And.intro hd (And.intro hN (And.intro hrd (And.intro hY (And.intro hJ (And.intro hJx hR))))))
  have HB := Lib.hid (And.intro hbw h0)
  clear hd hN hrd hroot hin hY hJ hJx hR hbw h0
  go_enter Try.func31, Try.ntmps31
  go_wp2_with fail
  go_loopg [4] ((enodsL [d]).length) (fun gk rv wr => ∃ (st : List Dt) (g c : Nat) (cells : List Value) (pre : List Dt), gk = (enodsL st).length ∧ rv = .slice (some ⟨g, 0, none⟩) st.length c ∧
    wr.ownsRow W.heap.size 26 4 (.slice (some ⟨g, 0, none⟩) st.length c) st.length cells ∧ RdL wr n₀ st cells ∧ (∀ x ∈ st, IsExp x) ∧ N = pre ++ enodsL st ∧ J pre wr ∧ Below n₀ W0 wr ∧
    wr.cell? ⟨bi, 0, none⟩ = some (.func (.func 16) #[] #[]) ∧ W.heap.size ≤ wr.heap.size)
  case atStart =>
    have hbl : Below W.heap.size W (W.alloc (.cells #[v0, v1, v2, v3] 26)) := (Below.refl _ _).alloc (Nat.le_refl _) _
    refine ⟨[d], W.heap.size, 1, [v0, v1, v2, v3], [], rfl, rfl, ?_, ?_, by simpa using HH.out.1, ?_, ?_, ?_, ?_, ?_⟩
    · exact World.ownsRow_lit W #[v0, v1, v2, v3] 1 (Nat.le_refl _) (by unfold maxLen; omega) rfl
    · simp only [RdL]
      exact ⟨_, [], by simp, HH.out.2.2.1.below ((HB.out.1.mono hn0).trans (hbl.mono (by have := HB.out.1.size; omega))), rfl⟩
    · rw [HH.out.2.1, enodsL_one]; rfl
    · exact HH.out.2.2.2.2.1 _ _ _ HB.out.2 (hbl.mono hB')
    · exact (HB.out.1.mono hn0).trans (hbl.mono (by have := HB.out.1.size; omega))
    · exact (hbl.cell (p := ⟨bi, 0, none⟩) hbW).trans hfi
    · simp
  case round =>
    obtain ⟨st, g, c, cells, pre, rfl, rfl, hown, hrl, hval, hNs, hJs, hb0, hfi', hws⟩ := hrel
    have hsl : st.length ≤ 1048577 := by
      have h1 := enodsL_len st hval
      have h2 : N.length = pre.length + (enodsL st).length := by rw [hNs, List.length_append]
      omega
    rcases List.eq_nil_or_concat st with rfl | ⟨us, x, rfl⟩
    · have HX := Lib.hid (And.intro hNs hJs)
      clear hNs hJs hrl hval hown hb0
      go_wp2_with fail
      go_end0
      refine ⟨⟨_, rfl⟩, .inl ?_⟩
      have e := HX.out.1
      simp only [enodsL, List.append_nil] at e
      rw [e]
      exact HX.out.2
    · simp only [List.concat_eq_append] at *
      have hx : IsExp x := hval x (by simp)
      have hus : ∀ y ∈ us, IsExp y := fun y hy => hval y (by simp [hy])
      obtain ⟨hr1, cs, hr2, hclx⟩ := hrl.last (k := 4) fun y hy => (hus y hy).width
      rw [enodsL_last hx] at *
      simp only [List.length_append, List.length_cons, List.length_nil, Nat.zero_add] at *
      have hkx := hx.kidsIs
      have hpx : pre ++ [x] <+: N := ⟨enodsL (us ++ ekids x), by rw [hNs]; simp⟩
      have hNx : N = (pre ++ [x]) ++ enodsL (us ++ ekids x) := by rw [hNs]; simp
      have hrx := hr2
      cases hx with
      | mk k n t l hl =>
        obtain ⟨A3, q3, rfl, r3⟩ := Rd.ofExpr hr2
        simp only [ekids] at hkx hNx ⊢
        obtain ⟨lc, hlc1, hlc2, hlc3, _⟩ := r3.cells (k := 4) fun y hy => (hl y hy).width
        have hc0 := hown.cellAt (us.length * 4 + 0) (by omega)
        have hc1 := hown.cellAt (us.length * 4 + 1) (by omega)
        have hc2 := hown.cellAt (us.length * 4 + 2) (by omega)
        have hc3 := hown.cellAt (us.length * 4 + 3) (by omega)
        rw [hclx] at hc0 hc1 hc2 hc3
        simp only [List.getElem?_cons_zero, List.getElem?_cons_succ, Nat.add_zero] at hc0 hc1 hc2 hc3
        have hul : us.length + l.length ≤ 1048577 := by
          have h1 := enodsL_len (us ++ l) (fun y hy => (List.mem_append.1 hy).elim (hus y) (hl y))
          have h2 : N.length = (pre ++ [Dt.agg [.int k, .int n, .str t, .lst l]]).length + (enodsL (us ++ l)).length := by rw [hNx, List.length_append]
          rw [List.length_append] at h1
          omega
        have HX := Lib.hid (And.intro hown (And.intro hr1 (And.intro hlc1 (And.intro hlc2 (And.intro hus (And.intro hl (And.intro hNx (And.intro hJs (And.intro hb0 (And.intro hpx hrx))))))))))
        clear hown hr1 hlc1 hlc2 hus hl hNx hJs hb0 hpx hrx hr2 hclx hrl hval hNs hkx r3
        go_upto_region 4 with fail
        obtain ⟨hbx, hbA, hsA⟩ := box_new (e := 26) (s := 4) wr #[.int .i64 k, .int .i64 n, .string t, .slice A3 l.length q3] rfl
        generalize wr.alloc (.cells #[.int .i64 k, .int .i64 n, .string t, .slice A3 l.length q3] 26) = A at *
        have hb0A := HX.out.2.2.2.2.2.2.2.2.1.trans (hbA.mono (by omega))
        obtain ⟨fn, tmps, assign, body, hy, hRd⟩ := HH.out.2.2.2.2.2.2 pre (.agg [.int k, .int n, .str t, .lst l]) [.int .i64 k, .int .i64 n, .string t, .slice A3 l.length q3] A (HH.out.2.2.2.2.1 _ _ _ HX.out.2.2.2.2.2.2.2.1 (hbA.mono (by omega))) HX.out.2.2.2.2.2.2.2.2.2.1 (HX.out.2.2.2.2.2.2.2.2.2.2.below (hbA.mono (by omega))) (by omega)
        have y0 := hbx.cellAt 0 (by omega)
        have y1 := hbx.cellAt 1 (by omega)
        have y2 := hbx.cellAt 2 (by omega)
        have y3 := hbx.cellAt 3 (by omega)
        simp only [List.getElem?_cons_zero, List.getElem?_cons_succ] at y0 y1 y2 y3
        have hfiA : A.cell? ⟨bi, 0, none⟩ = some (.func (.func 16) #[] #[]) := (hbA.cell (p := ⟨bi, 0, none⟩) (by show bi < wr.heap.size; omega)).trans hfi'
        have hownA := own_keep HX.out.1 fun b hb => hbA.block b (HX.out.1.lt b hb).2
        have HA := Lib.hid (And.intro hbx (And.intro hbA (And.intro hb0A hownA)))
        clear hbx hbA hb0A hownA hc0 hc1 hc2 hc3
        refine (wpIn_wide (n := fl)).1 ?_
        gi_wp2_with fail
        refine ⟨fun h => (by cases h), hRd.mono ?_⟩
        rintro e W3 (⟨rfl, hJ3, hk3⟩ | ⟨rfl, hJx3⟩)
        · clear hy hRd
          have hYB : ∀ k, W.heap.size ≤ k → ¬ Y k := fun k hk h => by have := (HH.out.2.2.2.1 k h).2.1; omega
          have hs3 := hk3.size
          have hwA : wr.heap.size < A.heap.size := by omega
          have hb03 := HA.out.2.2.1.trans (hk3.below (N := n₀) (by have := HB.out.1.size; omega) fun k hk => (HH.out.2.2.2.1 k hk).1)
          have hown3 := own_keep HA.out.2.2.2 fun b hb => hk3.block b (HA.out.2.2.2.lt b hb).2 (hYB b (HA.out.2.2.2.lt b hb).1)
          have hbx3 := own_keep HA.out.1 fun b hb => hk3.block b (HA.out.1.lt b hb).2 (hYB b (by have := (HA.out.1.lt b hb).1; omega))
          have hfi3 : W3.cell? ⟨bi, 0, none⟩ = some (.func (.func 16) #[] #[]) := (hk3.cell (p := ⟨bi, 0, none⟩) (by show bi < A.heap.size; omega) hYi).trans hfiA
          clear y0 y1 y2 y3 hfiA
          have z0 := hbx3.cellAt 0 (by omega)
          have z1 := hbx3.cellAt 1 (by omega)
          have z2 := hbx3.cellAt 2 (by omega)
          have z3 := hbx3.cellAt 3 (by omega)
          simp only [List.getElem?_cons_zero, List.getElem?_cons_succ] at z0 z1 z2 z3
          have hcap := own_cap hown3
          have hgl := (hown3.lt g rfl).2
          have HW := Lib.hid (And.intro hown3 (And.intro hb03 hJ3))
          clear hown3 hbx3 hb03 hJ3
          have hbwr : Below n₀ wr W3.drew := (HA.out.2.1.mono (by have := HB.out.1.size; omega)).trans ((hk3.below (N := n₀) (by have := HB.out.1.size; omega) fun k hk => (HH.out.2.2.2.1 k hk).1)).drew
          have hn3 : n₀ ≤ W3.heap.size := by have := HB.out.1.size; omega
          have hgb := (HX.out.1.lt g rfl)
          have hcap1 : (us.length : Int) ≤ (c : Int) := by omega
          have hcap0 : (0 : Int) ≤ (us.length : Int) := by omega
          have HC := Lib.hid hbwr
          clear hk3 hbwr
          gi_wp2_with fail
          go_wp2_with fail
          go_region_held3 (fun w' => w'.cell? ⟨bi, 0, none⟩ = some (.func (.func 16) #[] #[]) ∧ w'.cell? ⟨wr.heap.size, 0, none⟩ = some (.int .i64 k) ∧ w'.cell? ⟨wr.heap.size, 1, none⟩ = some (.int .i64 n) ∧ w'.cell? ⟨wr.heap.size, 2, none⟩ = some (.string t) ∧ w'.cell? ⟨wr.heap.size, 3, none⟩ = some (.slice A3 l.length q3))
            (first | exact ⟨hfi3, z0, z1, z2, z3⟩ | exact ⟨hk', z0', z1', z2', z3'⟩ | exact ⟨hq, q0_, q1_, q2_, q3_⟩)
            (first
              | (go_at_call_of 16 (Value.agg #[.int .i64 k, .int .i64 n, .string t, .slice A3 l.length q3]); refine (einside_at k n t A3 l.length q3 _).mono ?_; rintro e w4 ⟨rfl, hb4⟩; have hq : w4.cell? ⟨bi, 0, none⟩ = some (.func (.func 16) #[] #[]) := (hb4.cell (p := ⟨bi, 0, none⟩) (by show bi < W3.heap.size; omega)).trans hfi3; have q0_ : w4.cell? ⟨wr.heap.size, 0, none⟩ = some (.int .i64 k) := (hb4.cell (p := ⟨wr.heap.size, 0, none⟩) (by show wr.heap.size < W3.heap.size; omega)).trans z0; have q1_ : w4.cell? ⟨wr.heap.size, 1, none⟩ = some (.int .i64 n) := (hb4.cell (p := ⟨wr.heap.size, 1, none⟩) (by show wr.heap.size < W3.heap.size; omega)).trans z1; have q2_ : w4.cell? ⟨wr.heap.size, 2, none⟩ = some (.string t) := (hb4.cell (p := ⟨wr.heap.size, 2, none⟩) (by show wr.heap.size < W3.heap.size; omega)).trans z2; have q3_ : w4.cell? ⟨wr.heap.size, 3, none⟩ = some (.slice A3 l.length q3) := (hb4.cell (p := ⟨wr.heap.size, 3, none⟩) (by show wr.heap.size < W3.heap.size; omega)).trans z3)
              | (refine stepE _ (by rfl) (.tmp 25) (.tmp 28) (by rfl) W.heap.size _ us.length (cells.take (us.length * 4)) (by rfl) (own_takeW (own_keep (w := W3.drew) HW.out.1 fun b hb => hb4.block b (by injection hb with hb; have hb : g = b := hb; show b < W3.heap.size; omega)) (by omega)) A3 l.length q3 n₀ lc (by rfl) hlc3 (HX.out.2.2.1.below (B := n₀) (HC.out.trans (hb4.mono hn3))) (HX.out.2.2.2.1.one) (by omega) (by have h4 : W3.heap.size ≤ w4.heap.size := hb4.size; omega) ?_
                 intro v2 w2 hown2 hgr2 hnil2
                 have hs4 : W3.heap.size ≤ w4.heap.size := hb4.size
                 have hk' : w2.cell? ⟨bi, 0, none⟩ = some (.func (.func 16) #[] #[]) := (World.cell?_of_block (hgr2.block bi (by omega) (fun e => by injection e with e; have e : bi = g := e; omega))).trans hq
                 have z0' : w2.cell? ⟨wr.heap.size, 0, none⟩ = some (.int .i64 k) := (World.cell?_of_block (hgr2.block wr.heap.size (by omega) (fun e => by injection e with e; have e : wr.heap.size = g := e; omega))).trans q0_
                 have z1' : w2.cell? ⟨wr.heap.size, 1, none⟩ = some (.int .i64 n) := (World.cell?_of_block (hgr2.block wr.heap.size (by omega) (fun e => by injection e with e; have e : wr.heap.size = g := e; omega))).trans q1_
                 have z2' : w2.cell? ⟨wr.heap.size, 2, none⟩ = some (.string t) := (World.cell?_of_block (hgr2.block wr.heap.size (by omega) (fun e => by injection e with e; have e : wr.heap.size = g := e; omega))).trans q2_
                 have z3' : w2.cell? ⟨wr.heap.size, 3, none⟩ = some (.slice A3 l.length q3) := (World.cell?_of_block (hgr2.block wr.heap.size (by omega) (fun e => by injection e with e; have e : wr.heap.size = g := e; omega))).trans q3_)
              | fail)
          obtain ⟨g2, c2, rfl, hg2, hg2'⟩ : ∃ g2 c2, v2 = .slice (some ⟨g2, 0, none⟩) (us.length + l.length) c2 ∧ W.heap.size ≤ g2 ∧ g2 < w2.heap.size := by
            rcases hown2.2 with ⟨e, _⟩ | ⟨g2, cap2, cur2, e, h1, h2, _⟩
            · have := (hnil2.1.1 e).1
              cases this
            · exact ⟨g2, cap2, e, h1, (hown2.lt g2 (by rw [e]; rfl)).2⟩
          have hb32 : Below W.heap.size W3 w2 := Below.trans (b := W3.drew) (Below.refl _ _).drew ((hb4.mono (by show W.heap.size ≤ W3.heap.size; omega)).grown hgr2 (by have h4 : W3.heap.size ≤ w4.heap.size := hb4.size; omega) (fun j hj => by injection hj with hj; have hj : g = j := hj; omega))
          have hbn2 : Below n₀ wr w2 := HC.out.trans ((hb4.mono hn3).grown hgr2 (by have h4 : W3.heap.size ≤ w4.heap.size := hb4.size; omega) (fun j hj => by injection hj with hj; have hj : g = j := hj; have := HB.out.1.size; omega))
          have hfi2 := hk'
          have HO2 := Lib.hid (And.intro hown2 (And.intro hb32 hbn2))
          clear hown2 hgr2 hnil2 hb32 hbn2 hb4 hq q0_ q1_ q2_ q3_
          go_wp2_with fail
          go_roundg ((enodsL (us ++ l)).length)
          case measure => simp only [ekids]; omega
          case rel =>
            refine ⟨us ++ l, g2, c2, cells.take (us.length * 4) ++ lc, pre ++ [.agg [.int k, .int n, .str t, .lst l]], rfl, by simp, by simpa using HO2.out.1, ?_, fun y hy => (List.mem_append.1 hy).elim (HX.out.2.2.2.2.1 y) (HX.out.2.2.2.2.2.1 y), HX.out.2.2.2.2.2.2.1, ?_, ?_, hfi2, ?_⟩
            · exact (HX.out.2.1.below HO2.out.2.2).app (HX.out.2.2.2.1.below HO2.out.2.2)
            · exact HH.out.2.2.2.2.1 _ _ _ HW.out.2.2 (HO2.out.2.1.mono hB')
            · exact HW.out.2.1.trans (HO2.out.2.1.mono (by have := HB.out.1.size; omega))
            · have := HO2.out.2.1.size; omega
        · clear hy hRd
          gi_wp2_with fail
          go_wp2_with fail
          refine bodyPost_ret (results_none rfl _ _ _) rfl ?_
          exact ⟨⟨_, rfl⟩, .inr ⟨_, HX.out.2.2.2.2.2.2.2.2.2.1, hJx3⟩⟩
end Go.Proofs.Ytmoacmlkmclfoaa

/-
  Draws of expressions: constructors. (Written by gen10n.py.)
-/

namespace Go.Proofs.Ytmoacmlkmclfoaa
open Go.RowKit
set_option linter.unusedVariables false

theorem ow_exp {w : World} (k n : Int) (t : ByteArray) {l : List Dt} {v : Value} {f : List Nat} (h : Ow w (.lst l) [v] f) : Ow w (.agg [.int k, .int n, .str t, .lst l]) [.int .i64 k, .int .i64 n, .string t, v] f := by
  simp only [Ow] at h
  simp only [Ow, OwL]
  exact ⟨[_], _, [], f, rfl, rfl, ⟨rfl, rfl⟩, [_], _, [], f, rfl, rfl, ⟨rfl, rfl⟩, [_], _, [], f, rfl, rfl, ⟨rfl, rfl⟩, [v], [], f, [], by simp, by simp, h, rfl, rfl⟩
/-- The arguments of a node have no memory if there are none. -/
def NilE (cs : List Value) : Prop := ∀ A c, cs[3]? = some (.slice A 0 c) → A = none ∧ c = 0
theorem nilE_lit (a b c : Value) (g : Option Addr) (n q : Nat) : NilE [a, b, c, .slice g (n + 1) q] := by
  intro A c h
  simp at h
theorem nilE_flat (a b c : Value) : NilE [a, b, c, .slice none 0 0] := by
  intro A c h
  simp at h
  exact ⟨h.1.symm, h.2.symm⟩
/-- An expression that was drawn. -/
def DrawnE (K : Nat) (B blk : Nat) (w : World) (e : Ending) (w' : World) : Prop := ∃ d cs fp, IsExp d ∧ d.wt ≤ K ∧ NilE cs ∧ e = .returned (.agg cs.toArray) ∧ DrSt w B blk [owA d cs fp] w'
theorem flat_exp (w : World) (k n : Int) (t : ByteArray) : Ow w (.agg [.int k, .int n, .str t, .lst []]) [.int .i64 k, .int .i64 n, .string t, .slice none 0 0] [] := ow_exp k n t (Ow.nilLst w)
theorem flat_isexp (k n : Int) (t : ByteArray) : IsExp (.agg [.int k, .int n, .str t, .lst []]) := IsExp.mk k n t [] (by simp)
theorem flat_wt (k n : Int) (t : ByteArray) {K : Nat} (h : t.size ≤ K) : (Dt.agg [.int k, .int n, .str t, .lst []]).wt ≤ K := by
  simp [Dt.wt, wts]; omega

set_option maxHeartbeats 400000 in
set_option maxRecDepth 100000 in
theorem l10Num_any (n : Int) (w : World) : Calls Try.prog 30 #[.int .i64 n] w fun e w' => e = .returned (.agg #[.int .i64 1, .int .i64 n, .string ⟨#[]⟩, .slice none 0 0]) ∧ Below w.heap.size w w' := by
  have hc := (box_new (e := 26) (s := 4) w #[Value.int .i64 1, .int .i64 n, .string ⟨#[]⟩, .slice none 0 0] rfl).1
  have r0 := hc.cellAt 0 (by omega)
  have r1 := hc.cellAt 1 (by omega)
  have r2 := hc.cellAt 2 (by omega)
  have r3 := hc.cellAt 3 (by omega)
  simp only [List.getElem?_cons_zero, List.getElem?_cons_succ] at r0 r1 r2 r3
  clear hc
  go_enter Try.func30, Try.ntmps30
  go_wp2_with fail
  refine bodyPost_ret (v := .agg #[.int .i64 1, .int .i64 n, .string ⟨#[]⟩, .slice none 0 0]) (by simp [results, Try.results30, go_sem, r0, r1, r2, r3]) rfl ⟨rfl, (Below.refl _ _).alloc (Nat.le_refl _) _⟩

set_option maxHeartbeats 400000 in
set_option maxRecDepth 100000 in
theorem l10Name_any (s : ByteArray) (w : World) : Calls Try.prog 36 #[.string s] w fun e w' => e = .returned (.agg #[.int .i64 3, .int .i64 0, .string s, .slice none 0 0]) ∧ Below w.heap.size w w' := by
  have hc := (box_new (e := 26) (s := 4) w #[Value.int .i64 3, .int .i64 0, .string s, .slice none 0 0] rfl).1
  have r0 := hc.cellAt 0 (by omega)
  have r1 := hc.cellAt 1 (by omega)
  have r2 := hc.cellAt 2 (by omega)
  have r3 := hc.cellAt 3 (by omega)
  simp only [List.getElem?_cons_zero, List.getElem?_cons_succ] at r0 r1 r2 r3
  clear hc
  go_enter Try.func36, Try.ntmps36
  go_wp2_with fail
  refine bodyPost_ret (v := .agg #[.int .i64 3, .int .i64 0, .string s, .slice none 0 0]) (by simp [results, Try.results36, go_sem, r0, r1, r2, r3]) rfl ⟨rfl, (Below.refl _ _).alloc (Nat.le_refl _) _⟩

set_option maxHeartbeats 400000 in
set_option maxRecDepth 100000 in
theorem l10Call_any (s : ByteArray) (A : Option Addr) (m c : Nat) (w : World) : Calls Try.prog 42 #[.string s, .slice A m c] w fun e w' => e = .returned (.agg #[.int .i64 5, .int .i64 0, .string s, .slice A m c]) ∧ Below w.heap.size w w' := by
  have hc := (box_new (e := 26) (s := 4) w #[Value.int .i64 5, .int .i64 0, .string s, .slice A m c] rfl).1
  have r0 := hc.cellAt 0 (by omega)
  have r1 := hc.cellAt 1 (by omega)
  have r2 := hc.cellAt 2 (by omega)
  have r3 := hc.cellAt 3 (by omega)
  simp only [List.getElem?_cons_zero, List.getElem?_cons_succ] at r0 r1 r2 r3
  clear hc
  go_enter Try.func42, Try.ntmps42
  go_wp2_with fail
  refine bodyPost_ret (v := .agg #[.int .i64 5, .int .i64 0, .string s, .slice A m c]) (by simp [results, Try.results42, go_sem, r0, r1, r2, r3]) rfl ⟨rfl, (Below.refl _ _).alloc (Nat.le_refl _) _⟩
end Go.Proofs.Ytmoacmlkmclfoaa

/-
  Draws of expressions: operators, choices, leaves. (Written by gen10n.py.)
-/

namespace Go.Proofs.Ytmoacmlkmclfoaa
open Go.RowKit
set_option linter.unusedVariables false

section
variable {w wx wy : World} {B blk : Nat} {L : List Asn}
/-- A literal slice of trees that are owned. -/
theorem DrSt.litRow {xs : List Dt} {cs : List Value} {fp : List Nat} (h : DrSt w B blk (owLA xs cs fp :: L) wx) (e : TypeId) (k : Nat) (hn : cs.length = xs.length * k) (hx : xs.length ≤ 100) :
    DrSt w B blk (owA (.lst xs) [.slice (some ⟨wx.heap.size, 0, none⟩) xs.length xs.length] (wx.heap.size :: fp) :: L) (wx.alloc (.cells cs.toArray e)) := by
  have hr : (rowA e k (.slice (some ⟨wx.heap.size, 0, none⟩) xs.length xs.length) xs.length cs).At wx.heap.size (wx.alloc (.cells cs.toArray e)) :=
    rowA_at (by have := World.ownsRow_lit (base := wx.heap.size) (e := e) (size := k) wx cs.toArray xs.length (Nat.le_refl _) (by unfold maxLen; omega) (by simpa using hn); simpa using this)
  exact (h.belowAdd ((Below.refl _ _).alloc (Nat.le_refl _) _) hr).close rfl
theorem DrSt.asExp {l : List Dt} {v : Value} {f : List Nat} (k n : Int) (t : ByteArray) (h : DrSt w B blk (owA (.lst l) [v] f :: L) wx) : DrSt w B blk (owA (.agg [.int k, .int n, .str t, .lst l]) [.int .i64 k, .int .i64 n, .string t, v] f :: L) wx :=
  h.alter fun o => owA_weak o fun _ h => ow_exp k n t h
theorem DrSt.single {d : Dt} {c : List Value} {f : List Nat} (h : DrSt w B blk (owA d c f :: L) wx) : DrSt w B blk (owLA [d] c f :: L) wx := by
  have h1 := (h.noRow 3 1).perm (L' := rowA 3 1 (.slice none 0 0) 0 [] :: owA d c f :: L) (List.Perm.refl _)
  have h2 := h1.drop.noTrees
  have h3 := (h2.noRow 3 1)
  have h4 := h3.perm (L' := rowA 3 1 (.slice none 0 0) 0 [] :: owA d c f :: owLA [] [] [] :: L) (List.Perm.cons _ (List.Perm.swap _ _ _))
  have h5 := h4.push.drop
  simpa using h5
theorem DrSt.join {xs : List Dt} {cs : List Value} {fp : List Nat} {d : Dt} {c : List Value} {f : List Nat} (h : DrSt w B blk (owA d c f :: owLA xs cs fp :: L) wx) : DrSt w B blk (owLA (xs ++ [d]) (cs ++ c) (fp ++ f) :: L) wx :=
  (h.noRow 3 1).push.drop
end
set_option maxHeartbeats 800000 in
set_option maxRecDepth 100000 in
theorem l10Op_any (op : Int) {d1 d2 : Dt} {c1 c2 : List Value} {f1 f2 : List Nat} {L : List Asn} {w wx : World} {B blk : Nat} (h1 : IsExp d1) (h2 : IsExp d2) (H : DrSt w B blk (owA d1 c1 f1 :: owA d2 c2 f2 :: L) wx) :
    Calls Try.prog 29 #[.int .i64 op, .agg c1.toArray, .agg c2.toArray] wx fun e w' => ∃ v f, NilE [.int .i64 6, .int .i64 op, .string ⟨#[]⟩, v] ∧ e = .returned (.agg #[.int .i64 6, .int .i64 op, .string ⟨#[]⟩, v]) ∧ DrSt w B blk (owA (.agg [.int 6, .int op, .str ⟨#[]⟩, .lst [d1, d2]]) [.int .i64 6, .int .i64 op, .string ⟨#[]⟩, v] f :: L) w' := by
  obtain ⟨a0, a1, a2, a3, am, aq, rfl⟩ := h1.form H.objs.out.1.read
  obtain ⟨b0, b1, b2, b3, bm, bq, rfl⟩ := h2.form H.drop.objs.out.1.read
  have hH := Lib.hid H
  clear H
  go_enter Try.func29, Try.ntmps29
  go_wp2_with fail
  have h3 := (((hH.out.alloc (.cells #[Value.int .i64 a0, .int .i64 a1, .string a2, .slice a3 am aq] 26)).alloc (.cells #[Value.int .i64 b0, .int .i64 b1, .string b2, .slice b3 bm bq] 26)).alloc (.cells #[Value.int .i64 6, .int .i64 op, .string ⟨#[]⟩, .slice (some ⟨wx.heap.size + 1 + 1 + 1, 0, none⟩) 2 2] 26))
  have h4 := (h3.single.swap.join.litRow 26 4 (by simp) (by simp)).asExp 6 op ⟨#[]⟩
  simp only [World.size_alloc, List.cons_append, List.nil_append, List.length_cons, List.length_nil, Nat.zero_add, Nat.reduceAdd] at h4
  have hr := (box_new (e := 26) (s := 4) ((wx.alloc (.cells #[Value.int .i64 a0, .int .i64 a1, .string a2, .slice a3 am aq] 26)).alloc (.cells #[Value.int .i64 b0, .int .i64 b1, .string b2, .slice b3 bm bq] 26)) #[Value.int .i64 6, .int .i64 op, .string ⟨#[]⟩, .slice (some ⟨wx.heap.size + 1 + 1 + 1, 0, none⟩) 2 2] rfl).1
  simp only [World.size_alloc] at hr
  have hr2 := World.ownsRow.alloc hr (.cells #[Value.int .i64 a0, .int .i64 a1, .string a2, .slice a3 am aq, .int .i64 b0, .int .i64 b1, .string b2, .slice b3 bm bq] 26)
  have r0 := hr2.cellAt 0 (by omega)
  have r1 := hr2.cellAt 1 (by omega)
  have r2 := hr2.cellAt 2 (by omega)
  have r3 := hr2.cellAt 3 (by omega)
  simp only [List.getElem?_cons_zero, List.getElem?_cons_succ] at r0 r1 r2 r3
  refine bodyPost_ret (v := .agg #[.int .i64 6, .int .i64 op, .string ⟨#[]⟩, .slice (some ⟨wx.heap.size + 1 + 1 + 1, 0, none⟩) 2 2]) (by simp [results, Try.results29, go_sem, r0, r1, r2, r3]) rfl ⟨_, _, nilE_lit _ _ _ _ 1 _, rfl, h4⟩
end Go.Proofs.Ytmoacmlkmclfoaa
