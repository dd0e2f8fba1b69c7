/-
  Texts that the proof rests on, put together: NodE, EqSE, EqNE.
-/
import Derived.Test.YtaanfdccnnfceaaMgW15
import Derived.Deep.RegionHeld3
import Derived.Deep.CutRange
import Derived.Deep.LoopGhost
import Derived.Test.YtaanfdccnnfceaaMgW11
/-
  The functions that tell what is inside a node; the iterator that yields the nodes of a tree: its contract. (Written by gen10n.py.)
-/

namespace Go.Proofs.Ytaanfdccnnfceaa
open Go.RowKit
set_option linter.unusedVariables false

theorem eInfo : (Try.prog.info? 26).map (fun i => (i.zero, i.size, i.bytes)) = some (some (.agg #[.int .i64 0, .int .i64 0, .string ⟨#[]⟩, .slice none 0 0]), 4, 56) := by kernel_rfl
theorem wpE {o : Oper} {a : Act} {K : Act → World → Prop} {Q : Exit → Act → World → Prop} (w : World) (s x : Operand)
    (ho : o.op = .call { callee := .builtin .append, args := #[s, x], argTypes := #[24, 24] })
    (base : Nat) (v : Value) (n : Nat) (xs : List Value) (hs : a.eval s = v) (hown : w.ownsRow base 26 4 v n xs)
    (A : Option Addr) (m c B : Nat) (news : List Value) (hx : a.eval x = .slice A m c) (hl : news.length = m * 4) (hrow : RowOf w B A news) (h1 : ∀ u ∈ news, u.oneCell' = true)
    (hb : n + m ≤ 4194304) (hbase : base ≤ w.heap.size)
    (h : ∀ v' w', w'.ownsRow base 26 4 v' (n + m) (xs ++ news) → w.grownBy w' v.ownBlock → ((v' = .slice none 0 0 ↔ v = .slice none 0 0 ∧ m = 0) ∧ (v'.ownBlock = v.ownBlock ∨ v'.ownBlock = some w.heap.size)) → K (a.put o.dst v') w') : Oper.wp Try.prog o a w K Q := by
  obtain ⟨i0, hi, hz0, hz1, hz2⟩ := info_parts eInfo
  exact wp_append_src w s x 24 ho base 26 i0 _ 4 56 Try.underlying24 hi hz0 hz1 hz2 rfl (by decide) v n xs hs hown A m c B news hx hl hrow h1 (by unfold maxLen; omega) (by omega) hbase h
theorem appE {ops : Array Oper} {rest : List Oper} {o : Oper} {a : Act} {Q : Exit → Act → World → Prop} (w : World) (hgd : o.guard = none) (s x : Operand)
    (ho : o.op = .call { callee := .builtin .append, args := #[s, x], argTypes := #[24, 24] })
    (base : Nat) (v : Value) (n : Nat) (xs : List Value) (hs : a.eval s = v) (hown : w.ownsRow base 26 4 v n xs)
    (A : Option Addr) (m c B : Nat) (news : List Value) (hx : a.eval x = .slice A m c) (hl : news.length = m * 4) (hrow : RowOf w B A news) (h1 : ∀ u ∈ news, u.oneCell' = true)
    (hb : n + m ≤ 4194304) (hbase : base ≤ w.heap.size)
    (h : ∀ v' w', w'.ownsRow base 26 4 v' (n + m) (xs ++ news) → w.grownBy w' v.ownBlock → ((v' = .slice none 0 0 ↔ v = .slice none 0 0 ∧ m = 0) ∧ (v'.ownBlock = v.ownBlock ∨ v'.ownBlock = some w.heap.size)) → wpList Try.prog ops Q rest (a.put o.dst v') w') : wpList Try.prog ops Q (o :: rest) a w :=
  wpList_plain hgd fun _ hK => wpE w s x ho base v n xs hs hown A m c B news hx hl hrow h1 hb hbase fun v' w' h2 h3 h4 => hK _ _ (h v' w' h2 h3 h4)
theorem stepE {ops : Array Oper} {o : Oper} {a : Act} {K : Act → World → Prop} {Q : Exit → Act → World → Prop} {E : Prop} (w : World) (hgd : o.guard = none) (s x : Operand)
    (ho : o.op = .call { callee := .builtin .append, args := #[s, x], argTypes := #[24, 24] })
    (base : Nat) (v : Value) (n : Nat) (xs : List Value) (hs : a.eval s = v) (hown : w.ownsRow base 26 4 v n xs)
    (A : Option Addr) (m c B : Nat) (news : List Value) (hx : a.eval x = .slice A m c) (hl : news.length = m * 4) (hrow : RowOf w B A news) (h1 : ∀ u ∈ news, u.oneCell' = true)
    (hb : n + m ≤ 4194304) (hbase : base ≤ w.heap.size)
    (h : ∀ v' w', w'.ownsRow base 26 4 v' (n + m) (xs ++ news) → w.grownBy w' v.ownBlock → ((v' = .slice none 0 0 ↔ v = .slice none 0 0 ∧ m = 0) ∧ (v'.ownBlock = v.ownBlock ∨ v'.ownBlock = some w.heap.size)) → K (a.put o.dst v') w') :
    if Region.wanted o (yielded ops a.tmps) = true then Oper.wp Try.prog o a w K Q else E := by
  have hw : Region.wanted o (yielded ops a.tmps) = true := by simp [Region.wanted, hgd]
  rw [if_pos hw]
  exact wpE w s x ho base v n xs hs hown A m c B news hx hl hrow h1 hb hbase h

set_option maxHeartbeats 400000 in
set_option maxRecDepth 100000 in
theorem einside_at (k n : Int) (t : ByteArray) (A3 : Option Addr) (m3 q3 : Nat) (w : World) :
    Calls Try.prog 45 #[.agg #[.int .i64 k, .int .i64 n, .string t, .slice A3 m3 q3]] w fun e w' => e = .returned (.slice A3 m3 q3) ∧ Below w.heap.size w w' := by
  go_enter Try.func45, Try.ntmps45
  go_wp2_with fail
  go_ret
  exact ⟨rfl, (Below.refl _ _).alloc (Nat.le_refl _) _⟩

set_option maxHeartbeats 1600000 in
set_option maxRecDepth 100000 in
theorem enodes_seq {d : Dt} (hd : IsExp d) (hwt : d.wt ≤ 1048576) (cs : List Value) (n₀ br bi fl : Nat) (W0 : World) (hrd : Rd W0 n₀ d cs) (hroot : ∀ j, j < 4 → W0.cell? ⟨br, j, none⟩ = cs[j]?)
    (hin : W0.cell? ⟨bi, 0, none⟩ = some (.func (.func 45) #[] #[])) (hbr : br < W0.heap.size) (hbi : bi < W0.heap.size) (hn0 : n₀ ≤ W0.heap.size) :
    SeqD Fence.wide fl Try.prog 80 #[.pointer (some ⟨br, 0, none⟩), .pointer (some ⟨bi, 0, none⟩)] d.enods n₀ (fun k => k = br ∨ k = bi) W0 := by
  intro lr B0 Y J Jx W hbw hB hB' hY hJ hJx hR h0
  refine callsIn_wide.2 ?_
  simp only [List.append_toArray, List.cons_append, List.nil_append]
  obtain ⟨N, hN⟩ : ∃ N, N = d.enods := ⟨_, rfl⟩
  have hlen := enods_len hd
  rw [← hN] at hlen hR ⊢
  have hwd := hd.width
  have hcl := Rd.len d cs hrd
  rw [hwd] at hcl
  match cs, hcl with
  | [v0, v1, v2, v3], _ =>
  have c0 : W.cell? ⟨br, 0, none⟩ = some v0 := (hbw.cell (p := ⟨br, 0, none⟩) hbr).trans (hroot 0 (by omega))
  have c1 : W.cell? ⟨br, 1, none⟩ = some v1 := (hbw.cell (p := ⟨br, 1, none⟩) hbr).trans (hroot 1 (by omega))
  have c2 : W.cell? ⟨br, 2, none⟩ = some v2 := (hbw.cell (p := ⟨br, 2, none⟩) hbr).trans (hroot 2 (by omega))
  have c3 : W.cell? ⟨br, 3, none⟩ = some v3 := (hbw.cell (p := ⟨br, 3, none⟩) hbr).trans (hroot 3 (by omega))
  have hfi : W.cell? ⟨bi, 0, none⟩ = some (.func (.func 45) #[] #[]) := (hbw.cell (p := ⟨bi, 0, none⟩) hbi).trans hin
  have hYi : ¬ Y bi := fun h => (hY bi h).2.2 (.inr rfl)
  have hbW := Nat.lt_of_lt_of_le hbi hbw.size
  have HH := Lib.hid (And.intro hd (And.intro hN (And.intro hrd (And.intro hY (And.intro hJ (And.intro hJx hR))))))
  have HB := Lib.hid (And.intro hbw h0)
  clear hd hN hrd hroot hin hY hJ hJx hR hbw h0
  go_enter Try.func80, Try.ntmps80
  go_wp2_with fail
  go_loopg [4] ((enodsL [d]).length) (fun gk rv wr => ∃ (st : List Dt) (g c : Nat) (cells : List Value) (pre : List Dt), gk = (enodsL st).length ∧ rv = .slice (some ⟨g, 0, none⟩) st.length c ∧
    wr.ownsRow W.heap.size 26 4 (.slice (some ⟨g, 0, none⟩) st.length c) st.length cells ∧ RdL wr n₀ st cells ∧ (∀ x ∈ st, IsExp x) ∧ N = pre ++ enodsL st ∧ J pre wr ∧ Below n₀ W0 wr ∧
    wr.cell? ⟨bi, 0, none⟩ = some (.func (.func 45) #[] #[]) ∧ W.heap.size ≤ wr.heap.size)
  case atStart =>
    have hbl : Below W.heap.size W (W.alloc (.cells #[v0, v1, v2, v3] 26)) := (Below.refl _ _).alloc (Nat.le_refl _) _
    refine ⟨[d], W.heap.size, 1, [v0, v1, v2, v3], [], rfl, rfl, ?_, ?_, by simpa using HH.out.1, ?_, ?_, ?_, ?_, ?_⟩
    · exact World.ownsRow_lit W #[v0, v1, v2, v3] 1 (Nat.le_refl _) (by unfold maxLen; omega) rfl
    · simp only [RdL]
      exact ⟨_, [], by simp, HH.out.2.2.1.below ((HB.out.1.mono hn0).trans (hbl.mono (by have := HB.out.1.size; omega))), rfl⟩
    · rw [HH.out.2.1, enodsL_one]; rfl
    · exact HH.out.2.2.2.2.1 _ _ _ HB.out.2 (hbl.mono hB')
    · exact (HB.out.1.mono hn0).trans (hbl.mono (by have := HB.out.1.size; omega))
    · exact (hbl.cell (p := ⟨bi, 0, none⟩) hbW).trans hfi
    · simp
  case round =>
    obtain ⟨st, g, c, cells, pre, rfl, rfl, hown, hrl, hval, hNs, hJs, hb0, hfi', hws⟩ := hrel
    have hsl : st.length ≤ 1048577 := by
      have h1 := enodsL_len st hval
      have h2 : N.length = pre.length + (enodsL st).length := by rw [hNs, List.length_append]
      omega
    rcases List.eq_nil_or_concat st with rfl | ⟨us, x, rfl⟩
    · have HX := Lib.hid (And.intro hNs hJs)
      clear hNs hJs hrl hval hown hb0
      go_wp2_with fail
      go_end0
      refine ⟨⟨_, rfl⟩, .inl ?_⟩
      have e := HX.out.1
      simp only [enodsL, List.append_nil] at e
      rw [e]
      exact HX.out.2
    · simp only [List.concat_eq_append] at *
      have hx : IsExp x := hval x (by simp)
      have hus : ∀ y ∈ us, IsExp y := fun y hy => hval y (by simp [hy])
      obtain ⟨hr1, cs, hr2, hclx⟩ := hrl.last (k := 4) fun y hy => (hus y hy).width
      rw [enodsL_last hx] at *
      simp only [List.length_append, List.length_cons, List.length_nil, Nat.zero_add] at *
      have hkx := hx.kidsIs
      have hpx : pre ++ [x] <+: N := ⟨enodsL (us ++ ekids x), by rw [hNs]; simp⟩
      have hNx : N = (pre ++ [x]) ++ enodsL (us ++ ekids x) := by rw [hNs]; simp
      have hrx := hr2
      cases hx with
      | mk k n t l hl =>
        obtain ⟨A3, q3, rfl, r3⟩ := Rd.ofExpr hr2
        simp only [ekids] at hkx hNx ⊢
        obtain ⟨lc, hlc1, hlc2, hlc3, _⟩ := r3.cells (k := 4) fun y hy => (hl y hy).width
        have hc0 := hown.cellAt (us.length * 4 + 0) (by omega)
        have hc1 := hown.cellAt (us.length * 4 + 1) (by omega)
        have hc2 := hown.cellAt (us.length * 4 + 2) (by omega)
        have hc3 := hown.cellAt (us.length * 4 + 3) (by omega)
        rw [hclx] at hc0 hc1 hc2 hc3
        simp only [List.getElem?_cons_zero, List.getElem?_cons_succ, Nat.add_zero] at hc0 hc1 hc2 hc3
        have hul : us.length + l.length ≤ 1048577 := by
          have h1 := enodsL_len (us ++ l) (fun y hy => (List.mem_append.1 hy).elim (hus y) (hl y))
          have h2 : N.length = (pre ++ [Dt.agg [.int k, .int n, .str t, .lst l]]).length + (enodsL (us ++ l)).length := by rw [hNx, List.length_append]
          rw [List.length_append] at h1
          omega
        have HX := Lib.hid (And.intro hown (And.intro hr1 (And.intro hlc1 (And.intro hlc2 (And.intro hus (And.intro hl (And.intro hNx (And.intro hJs (And.intro hb0 (And.intro hpx hrx))))))))))
        clear hown hr1 hlc1 hlc2 hus hl hNx hJs hb0 hpx hrx hr2 hclx hrl hval hNs hkx r3
        go_upto_region 4 with fail
        obtain ⟨hbx, hbA, hsA⟩ := box_new (e := 26) (s := 4) wr #[.int .i64 k, .int .i64 n, .string t, .slice A3 l.length q3] rfl
        generalize wr.alloc (.cells #[.int .i64 k, .int .i64 n, .string t, .slice A3 l.length q3] 26) = A at *
        have hb0A := HX.out.2.2.2.2.2.2.2.2.1.trans (hbA.mono (by omega))
        obtain ⟨fn, tmps, assign, body, hy, hRd⟩ := HH.out.2.2.2.2.2.2 pre (.agg [.int k, .int n, .str t, .lst l]) [.int .i64 k, .int .i64 n, .string t, .slice A3 l.length q3] A (HH.out.2.2.2.2.1 _ _ _ HX.out.2.2.2.2.2.2.2.1 (hbA.mono (by omega))) HX.out.2.2.2.2.2.2.2.2.2.1 (HX.out.2.2.2.2.2.2.2.2.2.2.below (hbA.mono (by omega))) (by omega)
        have y0 := hbx.cellAt 0 (by omega)
        have y1 := hbx.cellAt 1 (by omega)
        have y2 := hbx.cellAt 2 (by omega)
        have y3 := hbx.cellAt 3 (by omega)
        simp only [List.getElem?_cons_zero, List.getElem?_cons_succ] at y0 y1 y2 y3
        have hfiA : A.cell? ⟨bi, 0, none⟩ = some (.func (.func 45) #[] #[]) := (hbA.cell (p := ⟨bi, 0, none⟩) (by show bi < wr.heap.size; omega)).trans hfi'
        have hownA := own_keep HX.out.1 fun b hb => hbA.block b (HX.out.1.lt b hb).2
        have HA := Lib.hid (And.intro hbx (And.intro hbA (And.intro hb0A hownA)))
        clear hbx hbA hb0A hownA hc0 hc1 hc2 hc3
        refine (wpIn_wide (n := fl)).1 ?_
        gi_wp2_with fail
        refine ⟨fun h => (by cases h), hRd.mono ?_⟩
        rintro e W3 (⟨rfl, hJ3, hk3⟩ | ⟨rfl, hJx3⟩)
        · clear hy hRd
          have hYB : ∀ k, W.heap.size ≤ k → ¬ Y k := fun k hk h => by have := (HH.out.2.2.2.1 k h).2.1; omega
          have hs3 := hk3.size
          have hwA : wr.heap.size < A.heap.size := by omega
          have hb03 := HA.out.2.2.1.trans (hk3.below (N := n₀) (by have := HB.out.1.size; omega) fun k hk => (HH.out.2.2.2.1 k hk).1)
          have hown3 := own_keep HA.out.2.2.2 fun b hb => hk3.block b (HA.out.2.2.2.lt b hb).2 (hYB b (HA.out.2.2.2.lt b hb).1)
          have hbx3 := own_keep HA.out.1 fun b hb => hk3.block b (HA.out.1.lt b hb).2 (hYB b (by have := (HA.out.1.lt b hb).1; omega))
          have hfi3 : W3.cell? ⟨bi, 0, none⟩ = some (.func (.func 45) #[] #[]) := (hk3.cell (p := ⟨bi, 0, none⟩) (by show bi < A.heap.size; omega) hYi).trans hfiA
          clear y0 y1 y2 y3 hfiA
          have z0 := hbx3.cellAt 0 (by omega)
          have z1 := hbx3.cellAt 1 (by omega)
          have z2 := hbx3.cellAt 2 (by omega)
          have z3 := hbx3.cellAt 3 (by omega)
          simp only [List.getElem?_cons_zero, List.getElem?_cons_succ] at z0 z1 z2 z3
          have hcap := own_cap hown3
          have hgl := (hown3.lt g rfl).2
          have HW := Lib.hid (And.intro hown3 (And.intro hb03 hJ3))
          clear hown3 hbx3 hb03 hJ3
          have hbwr : Below n₀ wr W3.drew := (HA.out.2.1.mono (by have := HB.out.1.size; omega)).trans ((hk3.below (N := n₀) (by have := HB.out.1.size; omega) fun k hk => (HH.out.2.2.2.1 k hk).1)).drew
          have hn3 : n₀ ≤ W3.heap.size := by have := HB.out.1.size; omega
          have hgb := (HX.out.1.lt g rfl)
          have hcap1 : (us.length : Int) ≤ (c : Int) := by omega
          have hcap0 : (0 : Int) ≤ (us.length : Int) := by omega
          have HC := Lib.hid hbwr
          clear hk3 hbwr
          gi_wp2_with fail
          go_wp2_with fail
          go_region_held3 (fun w' => w'.cell? ⟨bi, 0, none⟩ = some (.func (.func 45) #[] #[]) ∧ w'.cell? ⟨wr.heap.size, 0, none⟩ = some (.int .i64 k) ∧ w'.cell? ⟨wr.heap.size, 1, none⟩ = some (.int .i64 n) ∧ w'.cell? ⟨wr.heap.size, 2, none⟩ = some (.string t) ∧ w'.cell? ⟨wr.heap.size, 3, none⟩ = some (.slice A3 l.length q3))
            (first | exact ⟨hfi3, z0, z1, z2, z3⟩ | exact ⟨hk', z0', z1', z2', z3'⟩ | exact ⟨hq, q0_, q1_, q2_, q3_⟩)
            (first
              | (go_at_call_of 45 (Value.agg #[.int .i64 k, .int .i64 n, .string t, .slice A3 l.length q3]); refine (einside_at k n t A3 l.length q3 _).mono ?_; rintro e w4 ⟨rfl, hb4⟩; have hq : w4.cell? ⟨bi, 0, none⟩ = some (.func (.func 45) #[] #[]) := (hb4.cell (p := ⟨bi, 0, none⟩) (by show bi < W3.heap.size; omega)).trans hfi3; have q0_ : w4.cell? ⟨wr.heap.size, 0, none⟩ = some (.int .i64 k) := (hb4.cell (p := ⟨wr.heap.size, 0, none⟩) (by show wr.heap.size < W3.heap.size; omega)).trans z0; have q1_ : w4.cell? ⟨wr.heap.size, 1, none⟩ = some (.int .i64 n) := (hb4.cell (p := ⟨wr.heap.size, 1, none⟩) (by show wr.heap.size < W3.heap.size; omega)).trans z1; have q2_ : w4.cell? ⟨wr.heap.size, 2, none⟩ = some (.string t) := (hb4.cell (p := ⟨wr.heap.size, 2, none⟩) (by show wr.heap.size < W3.heap.size; omega)).trans z2; have q3_ : w4.cell? ⟨wr.heap.size, 3, none⟩ = some (.slice A3 l.length q3) := (hb4.cell (p := ⟨wr.heap.size, 3, none⟩) (by show wr.heap.size < W3.heap.size; omega)).trans z3)
              | (refine stepE _ (by rfl) (.tmp 25) (.tmp 28) (by rfl) W.heap.size _ us.length (cells.take (us.length * 4)) (by rfl) (own_takeW (own_keep (w := W3.drew) HW.out.1 fun b hb => hb4.block b (by injection hb with hb; have hb : g = b := hb; show b < W3.heap.size; omega)) (by omega)) A3 l.length q3 n₀ lc (by rfl) hlc3 (HX.out.2.2.1.below (B := n₀) (HC.out.trans (hb4.mono hn3))) (HX.out.2.2.2.1.one) (by omega) (by have h4 : W3.heap.size ≤ w4.heap.size := hb4.size; omega) ?_
                 intro v2 w2 hown2 hgr2 hnil2
                 have hs4 : W3.heap.size ≤ w4.heap.size := hb4.size
                 have hk' : w2.cell? ⟨bi, 0, none⟩ = some (.func (.func 45) #[] #[]) := (World.cell?_of_block (hgr2.block bi (by omega) (fun e => by injection e with e; have e : bi = g := e; omega))).trans hq
                 have z0' : w2.cell? ⟨wr.heap.size, 0, none⟩ = some (.int .i64 k) := (World.cell?_of_block (hgr2.block wr.heap.size (by omega) (fun e => by injection e with e; have e : wr.heap.size = g := e; omega))).trans q0_
                 have z1' : w2.cell? ⟨wr.heap.size, 1, none⟩ = some (.int .i64 n) := (World.cell?_of_block (hgr2.block wr.heap.size (by omega) (fun e => by injection e with e; have e : wr.heap.size = g := e; omega))).trans q1_
                 have z2' : w2.cell? ⟨wr.heap.size, 2, none⟩ = some (.string t) := (World.cell?_of_block (hgr2.block wr.heap.size (by omega) (fun e => by injection e with e; have e : wr.heap.size = g := e; omega))).trans q2_
                 have z3' : w2.cell? ⟨wr.heap.size, 3, none⟩ = some (.slice A3 l.length q3) := (World.cell?_of_block (hgr2.block wr.heap.size (by omega) (fun e => by injection e with e; have e : wr.heap.size = g := e; omega))).trans q3_)
              | fail)
          obtain ⟨g2, c2, rfl, hg2, hg2'⟩ : ∃ g2 c2, v2 = .slice (some ⟨g2, 0, none⟩) (us.length + l.length) c2 ∧ W.heap.size ≤ g2 ∧ g2 < w2.heap.size := by
            rcases hown2.2 with ⟨e, _⟩ | ⟨g2, cap2, cur2, e, h1, h2, _⟩
            · have := (hnil2.1.1 e).1
              cases this
            · exact ⟨g2, cap2, e, h1, (hown2.lt g2 (by rw [e]; rfl)).2⟩
          have hb32 : Below W.heap.size W3 w2 := Below.trans (b := W3.drew) (Below.refl _ _).drew ((hb4.mono (by show W.heap.size ≤ W3.heap.size; omega)).grown hgr2 (by have h4 : W3.heap.size ≤ w4.heap.size := hb4.size; omega) (fun j hj => by injection hj with hj; have hj : g = j := hj; omega))
          have hbn2 : Below n₀ wr w2 := HC.out.trans ((hb4.mono hn3).grown hgr2 (by have h4 : W3.heap.size ≤ w4.heap.size := hb4.size; omega) (fun j hj => by injection hj with hj; have hj : g = j := hj; have := HB.out.1.size; omega))
          have hfi2 := hk'
          have HO2 := Lib.hid (And.intro hown2 (And.intro hb32 hbn2))
          clear hown2 hgr2 hnil2 hb32 hbn2 hb4 hq q0_ q1_ q2_ q3_
          go_wp2_with fail
          go_roundg ((enodsL (us ++ l)).length)
          case measure => simp only [ekids]; omega
          case rel =>
            refine ⟨us ++ l, g2, c2, cells.take (us.length * 4) ++ lc, pre ++ [.agg [.int k, .int n, .str t, .lst l]], rfl, by simp, by simpa using HO2.out.1, ?_, fun y hy => (List.mem_append.1 hy).elim (HX.out.2.2.2.2.1 y) (HX.out.2.2.2.2.2.1 y), HX.out.2.2.2.2.2.2.1, ?_, ?_, hfi2, ?_⟩
            · exact (HX.out.2.1.below HO2.out.2.2).app (HX.out.2.2.2.1.below HO2.out.2.2)
            · exact HH.out.2.2.2.2.1 _ _ _ HW.out.2.2 (HO2.out.2.1.mono hB')
            · exact HW.out.2.1.trans (HO2.out.2.1.mono (by have := HB.out.1.size; omega))
            · have := HO2.out.2.1.size; omega
        · clear hy hRd
          gi_wp2_with fail
          go_wp2_with fail
          refine bodyPost_ret (results_none rfl _ _ _) rfl ?_
          exact ⟨⟨_, rfl⟩, .inr ⟨_, HX.out.2.2.2.2.2.2.2.2.2.1, hJx3⟩⟩
end Go.Proofs.Ytaanfdccnnfceaa

/-
  Two stacks of expressions beside two boxes: what equalTrees holds from round to round. (Written by gen10n.py.)
-/

namespace Go.Proofs.Ytaanfdccnnfceaa
open Go.RowKit
set_option linter.unusedVariables false

theorem eqs_push (us vs : List Dt) (x y : Dt) (h : us.length = vs.length) : us ++ [x] = vs ++ [y] ↔ us = vs ∧ x = y := by
  constructor
  · intro e
    have := List.append_inj e h
    exact ⟨this.1, by simpa using this.2⟩
  · rintro ⟨h1, h2⟩
    rw [h1, h2]
theorem eqs_app (us vs l l' : List Dt) (h : us.length = vs.length) : us ++ l = vs ++ l' ↔ us = vs ∧ l = l' := by
  constructor
  · intro e
    exact List.append_inj e h
  · rintro ⟨h1, h2⟩
    rw [h1, h2]
theorem exp_eq (k n : Int) (t : ByteArray) (l : List Dt) (k' n' : Int) (t' : ByteArray) (l' : List Dt) :
    Dt.agg [.int k, .int n, .str t, .lst l] = Dt.agg [.int k', .int n', .str t', .lst l'] ↔ l.length = l'.length ∧ (k = k' ∧ n = n' ∧ t = t') ∧ l = l' := by
  simp only [Dt.agg.injEq, List.cons.injEq, Dt.int.injEq, Dt.str.injEq, Dt.lst.injEq, and_true]
  constructor
  · rintro ⟨h1, h2, h3, h4⟩
    exact ⟨by rw [h4], ⟨h1, h2, h3⟩, h4⟩
  · rintro ⟨_, ⟨h1, h2, h3⟩, h4⟩
    exact ⟨h1, h2, h3, h4⟩
structure EqSE (w : World) (st ts : List Dt) (b1 b2 : List Value) (g1 q1 g2 q2 : Nat) (cl cr : List Value) (wx : World) : Prop where
  o1 : wx.ownsRow (w.heap.size + 2) 26 4 (.slice (some ⟨g1, 0, none⟩) st.length q1) st.length cl
  o2 : wx.ownsRow (w.heap.size + 2) 26 4 (.slice (some ⟨g2, 0, none⟩) ts.length q2) ts.length cr
  ne : g1 ≠ g2
  r1 : RdL w w.heap.size st cl
  r2 : RdL w w.heap.size ts cr
  x1 : wx.ownsRow w.heap.size 26 4 (.slice (some ⟨w.heap.size, 0, none⟩) 1 1) 1 b1
  x2 : wx.ownsRow w.heap.size 26 4 (.slice (some ⟨w.heap.size + 1, 0, none⟩) 1 1) 1 b2
  bel : Below w.heap.size w wx
  v1 : ∀ x ∈ st, IsExp x
  v2 : ∀ x ∈ ts, IsExp x

theorem own_atE {w : World} {base n q g s : Nat} {e : TypeId} {xs : List Value} (h : w.ownsRow base e s (.slice (some ⟨g, 0, none⟩) n q) n xs) : base ≤ g ∧ g < w.heap.size := h.lt g rfl
theorem own_blkE {w : World} {base n q g s : Nat} {e : TypeId} {xs : List Value} (h : w.ownsRow base e s (.slice (some ⟨g, 0, none⟩) n q) n xs) {w' : World} (hk : w'.heap[g]? = w.heap[g]?) : w'.ownsRow base e s (.slice (some ⟨g, 0, none⟩) n q) n xs :=
  own_keep h fun b hb => by injection hb with hb; have hb : g = b := hb; subst hb; exact hk
theorem EqSE.keep {w wx wy : World} {st ts : List Dt} {b1 b2 cl cr : List Value} {g1 q1 g2 q2 : Nat} (h : EqSE w st ts b1 b2 g1 q1 g2 q2 cl cr wx) (hb : Below wx.heap.size wx wy) : EqSE w st ts b1 b2 g1 q1 g2 q2 cl cr wy :=
  ⟨own_blkE h.o1 (hb.block _ (own_atE h.o1).2), own_blkE h.o2 (hb.block _ (own_atE h.o2).2), h.ne, h.r1, h.r2, own_blkE h.x1 (hb.block _ (own_atE h.x1).2), own_blkE h.x2 (hb.block _ (own_atE h.x2).2), h.bel.trans (hb.mono h.bel.size), h.v1, h.v2⟩
theorem EqSE.drew {w wx : World} {st ts : List Dt} {b1 b2 cl cr : List Value} {g1 q1 g2 q2 : Nat} (h : EqSE w st ts b1 b2 g1 q1 g2 q2 cl cr wx) : EqSE w st ts b1 b2 g1 q1 g2 q2 cl cr wx.drew := h.keep (Below.refl _ _).drew
theorem EqSE.store1 {w wx : World} {st ts : List Dt} {b1 b2 cl cr : List Value} {g1 q1 g2 q2 : Nat} (h : EqSE w st ts b1 b2 g1 q1 g2 q2 cl cr wx) (us : List Value) (hu : us.length = 4) : EqSE w st ts us b2 g1 q1 g2 q2 cl cr (wx.setCells w.heap.size 0 us) := by
  obtain ⟨h1, h2⟩ := box_store h.x1 us hu
  have k : ∀ g, g < wx.heap.size → g ≠ w.heap.size → (wx.setCells w.heap.size 0 us).heap[g]? = wx.heap[g]? := fun g hg hne => h2.block g hg (fun e => hne (by injection e))
  have a1 := own_atE h.o1
  have a2 := own_atE h.o2
  have a3 := own_atE h.x2
  exact ⟨own_blkE h.o1 (k _ a1.2 (by omega)), own_blkE h.o2 (k _ a2.2 (by omega)), h.ne, h.r1, h.r2, h1, own_blkE h.x2 (k _ a3.2 (by omega)), h.bel.grown h2 h.bel.size (fun j hj => by cases hj; first | exact Nat.le_refl _ | exact Nat.le_succ _), h.v1, h.v2⟩
theorem EqSE.store2 {w wx : World} {st ts : List Dt} {b1 b2 cl cr : List Value} {g1 q1 g2 q2 : Nat} (h : EqSE w st ts b1 b2 g1 q1 g2 q2 cl cr wx) (us : List Value) (hu : us.length = 4) : EqSE w st ts b1 us g1 q1 g2 q2 cl cr (wx.setCells (w.heap.size + 1) 0 us) := by
  obtain ⟨h1, h2⟩ := box_store h.x2 us hu
  have k : ∀ g, g < wx.heap.size → g ≠ w.heap.size + 1 → (wx.setCells (w.heap.size + 1) 0 us).heap[g]? = wx.heap[g]? := fun g hg hne => h2.block g hg (fun e => hne (by cases e; rfl))
  have a1 := own_atE h.o1
  have a2 := own_atE h.o2
  have a3 := own_atE h.x1
  exact ⟨own_blkE h.o1 (k _ a1.2 (by omega)), own_blkE h.o2 (k _ a2.2 (by omega)), h.ne, h.r1, h.r2, own_blkE h.x1 (k _ a3.2 (by omega)), h1, h.bel.grown h2 h.bel.size (fun j hj => by cases hj; first | exact Nat.le_refl _ | exact Nat.le_succ _), h.v1, h.v2⟩
/-- The left stack loses its last value and takes others. -/
theorem EqSE.push1 {w wx w2 : World} {us zs ts : List Dt} {x : Dt} {b1 b2 cl cr news : List Value} {g1 q1 g2 q2 m : Nat} {v2 : Value} (h : EqSE w (us ++ [x]) ts b1 b2 g1 q1 g2 q2 cl cr wx)
    (ho : w2.ownsRow (w.heap.size + 2) 26 4 v2 (us.length + zs.length) (cl.take (us.length * 4) ++ news)) (hg : wx.grownBy w2 (Value.slice (some ⟨g1, 0, none⟩) us.length q1).ownBlock)
    (hn : (v2 = .slice none 0 0 ↔ Value.slice (some ⟨g1, 0, none⟩) us.length q1 = .slice none 0 0 ∧ m = 0) ∧ (v2.ownBlock = (Value.slice (some ⟨g1, 0, none⟩) us.length q1).ownBlock ∨ v2.ownBlock = some wx.heap.size))
    (hz : RdL w w.heap.size zs news) (hv : ∀ z ∈ zs, IsExp z) : ∃ g q, v2 = .slice (some ⟨g, 0, none⟩) (us.length + zs.length) q ∧ EqSE w (us ++ zs) ts b1 b2 g q g2 q2 (cl.take (us.length * 4) ++ news) cr w2 := by
  obtain ⟨g, q, rfl, hgg, hgb, hgl⟩ := own_form_at ho hn
  have k : ∀ j, j < wx.heap.size → j ≠ g1 → w2.heap[j]? = wx.heap[j]? := fun j hj hne => hg.block j hj (fun e => hne (by injection e))
  have a2 := own_atE h.o2
  have a3 := own_atE h.x1
  have a4 := own_atE h.x2
  have a1 := own_atE h.o1
  have hne := h.ne
  refine ⟨g, q, rfl, ⟨by simpa using ho, own_blkE h.o2 (k _ a2.2 (fun e => hne e.symm)), ?_, ?_, h.r2, own_blkE h.x1 (k _ a3.2 (by omega)), own_blkE h.x2 (k _ a4.2 (by omega)), h.bel.grown hg h.bel.size (fun j hj => by injection hj with hj; have hj : g1 = j := hj; omega), ?_, h.v2⟩⟩
  · rcases hgg with rfl | rfl
    · exact hne
    · omega
  · exact (h.r1.last (k := 4) fun y hy => (h.v1 y (by simp [hy])).width).1.app hz
  · intro y hy
    rcases List.mem_append.1 hy with hy | hy
    · exact h.v1 y (by simp [hy])
    · exact hv y hy
theorem EqSE.push2 {w wx w2 : World} {us zs st : List Dt} {x : Dt} {b1 b2 cl cr news : List Value} {g1 q1 g2 q2 m : Nat} {v2 : Value} (h : EqSE w st (us ++ [x]) b1 b2 g1 q1 g2 q2 cl cr wx)
    (ho : w2.ownsRow (w.heap.size + 2) 26 4 v2 (us.length + zs.length) (cr.take (us.length * 4) ++ news)) (hg : wx.grownBy w2 (Value.slice (some ⟨g2, 0, none⟩) us.length q2).ownBlock)
    (hn : (v2 = .slice none 0 0 ↔ Value.slice (some ⟨g2, 0, none⟩) us.length q2 = .slice none 0 0 ∧ m = 0) ∧ (v2.ownBlock = (Value.slice (some ⟨g2, 0, none⟩) us.length q2).ownBlock ∨ v2.ownBlock = some wx.heap.size))
    (hz : RdL w w.heap.size zs news) (hv : ∀ z ∈ zs, IsExp z) : ∃ g q, v2 = .slice (some ⟨g, 0, none⟩) (us.length + zs.length) q ∧ EqSE w st (us ++ zs) b1 b2 g1 q1 g q cl (cr.take (us.length * 4) ++ news) w2 := by
  obtain ⟨g, q, rfl, hgg, hgb, hgl⟩ := own_form_at ho hn
  have k : ∀ j, j < wx.heap.size → j ≠ g2 → w2.heap[j]? = wx.heap[j]? := fun j hj hne => hg.block j hj (fun e => hne (by injection e))
  have a1 := own_atE h.o1
  have a3 := own_atE h.x1
  have a4 := own_atE h.x2
  have a2 := own_atE h.o2
  have hne := h.ne
  refine ⟨g, q, rfl, ⟨own_blkE h.o1 (k _ a1.2 hne), by simpa using ho, ?_, h.r1, ?_, own_blkE h.x1 (k _ a3.2 (by omega)), own_blkE h.x2 (k _ a4.2 (by omega)), h.bel.grown hg h.bel.size (fun j hj => by injection hj with hj; have hj : g2 = j := hj; omega), h.v1, ?_⟩⟩
  · rcases hgg with rfl | rfl
    · exact hne
    · omega
  · exact (h.r2.last (k := 4) fun y hy => (h.v2 y (by simp [hy])).width).1.app hz
  · intro y hy
    rcases List.mem_append.1 hy with hy | hy
    · exact h.v2 y (by simp [hy])
    · exact hv y hy
theorem EqSE.start {w : World} {d d' : Dt} (b1 b2 : Array Value) (h1 : b1.size = 4) (h2 : b2.size = 4) (hd : IsExp d) (hd' : IsExp d') (hr : Rd w w.heap.size d b1.toList) (hr' : Rd w w.heap.size d' b2.toList) :
    EqSE w [d] [d'] b1.toList b2.toList (w.heap.size + 2) 1 (w.heap.size + 3) 1 b1.toList b2.toList ((((w.alloc (.cells b1 26)).alloc (.cells b2 26)).alloc (.cells b1 26)).alloc (.cells b2 26)) ∧
    EqSE w [d] [d'] b1.toList b2.toList (w.heap.size + 3) 1 (w.heap.size + 2) 1 b1.toList b2.toList ((((w.alloc (.cells b1 26)).alloc (.cells b2 26)).alloc (.cells b2 26)).alloc (.cells b1 26)) := by
  have a1 := World.ownsRow_lit (base := w.heap.size) (e := 26) (size := 4) w b1 1 (Nat.le_refl _) (by unfold maxLen; omega) (by omega)
  have a2 := World.ownsRow_lit (base := w.heap.size) (e := 26) (size := 4) (w.alloc (.cells b1 26)) b2 1 (by simp) (by unfold maxLen; omega) (by omega)
  have a3 := World.ownsRow_lit (base := w.heap.size + 2) (e := 26) (size := 4) ((w.alloc (.cells b1 26)).alloc (.cells b2 26)) b1 1 (by simp) (by unfold maxLen; omega) (by omega)
  have a4 := World.ownsRow_lit (base := w.heap.size + 2) (e := 26) (size := 4) (((w.alloc (.cells b1 26)).alloc (.cells b2 26)).alloc (.cells b1 26)) b2 1 (by first | (simp; done) | (simp; omega)) (by unfold maxLen; omega) (by omega)
  have c3 := World.ownsRow_lit (base := w.heap.size + 2) (e := 26) (size := 4) ((w.alloc (.cells b1 26)).alloc (.cells b2 26)) b2 1 (by simp) (by unfold maxLen; omega) (by omega)
  have c4 := World.ownsRow_lit (base := w.heap.size + 2) (e := 26) (size := 4) (((w.alloc (.cells b1 26)).alloc (.cells b2 26)).alloc (.cells b2 26)) b1 1 (by first | (simp; done) | (simp; omega)) (by unfold maxLen; omega) (by omega)
  have bl : ∀ c3 c4, Below w.heap.size w ((((w.alloc (.cells b1 26)).alloc (.cells b2 26)).alloc c3).alloc c4) := fun c3 c4 => (((((Below.refl _ _).alloc (Nat.le_refl _) _).alloc (by simp) _).alloc (by simp; omega) _).alloc (by simp; omega) _)
  have e2 : (w.alloc (.cells b1 26)).heap.size = w.heap.size + 1 := by simp
  have e3 : ((w.alloc (.cells b1 26)).alloc (.cells b2 26)).heap.size = w.heap.size + 2 := by simp
  have e4 : (((w.alloc (.cells b1 26)).alloc (.cells b2 26)).alloc (.cells b1 26)).heap.size = w.heap.size + 3 := by simp
  have e4' : (((w.alloc (.cells b1 26)).alloc (.cells b2 26)).alloc (.cells b2 26)).heap.size = w.heap.size + 3 := by simp
  rw [e2] at a2
  rw [e3] at a3 c3
  rw [e4] at a4
  rw [e4'] at c4
  have rl : RdL w w.heap.size [d] b1.toList := by simp only [RdL]; exact ⟨_, [], by simp, hr, rfl⟩
  have rl' : RdL w w.heap.size [d'] b2.toList := by simp only [RdL]; exact ⟨_, [], by simp, hr', rfl⟩
  exact ⟨⟨World.ownsRow.alloc a3 _, a4, by omega, rl, rl', ((World.ownsRow.alloc a1 _).alloc _).alloc _, (World.ownsRow.alloc a2 _).alloc _, bl _ _, by simpa using hd, by simpa using hd'⟩,
    ⟨c4, World.ownsRow.alloc c3 _, by omega, rl, rl', ((World.ownsRow.alloc a1 _).alloc _).alloc _, (World.ownsRow.alloc a2 _).alloc _, bl _ _, by simpa using hd, by simpa using hd'⟩⟩
end Go.Proofs.Ytaanfdccnnfceaa

/-
  equalNode: two nodes compared in all but what is inside. (Written by gen10n.py.)
-/

namespace Go.Proofs.Ytaanfdccnnfceaa
open Go.RowKit
set_option linter.unusedVariables false

set_option maxHeartbeats 800000 in
set_option maxRecDepth 100000 in
theorem equalNode_any (k n : Int) (t : ByteArray) (A : Option Addr) (m c : Nat) (k' n' : Int) (t' : ByteArray) (A' : Option Addr) (m' c' : Nat) (w : World) :
    Calls Try.prog 50 #[.agg #[.int .i64 k, .int .i64 n, .string t, .slice A m c], .agg #[.int .i64 k', .int .i64 n', .string t', .slice A' m' c']] w (EqP (k = k' ∧ n = n' ∧ t = t') w) := by
  have hb0 := ((Below.refl w.heap.size w).alloc (Nat.le_refl _) (.cells #[Value.int .i64 k, .int .i64 n, .string t, .slice A m c] 26)).alloc (by simp) (.cells #[Value.int .i64 k', .int .i64 n', .string t', .slice A' m' c'] 26)
  have HB := Lib.hid hb0
  clear hb0
  by_cases h1 : k = k'
  · subst h1
    by_cases h2 : n = n'
    · subst h2
      by_cases h3 : t = t'
      · subst h3
        have hb : (t.toList == t.toList) = true := by simp
        go_enter Try.func50, Try.ntmps50
        go_wp2_with fail
        go_ret
        exact ⟨true, rfl, by simp, HB.out⟩
      · have hb : (t.toList == t'.toList) = false := by simp; exact fun e => h3 (bytes_inj e)
        have HN := Lib.hid h3
        clear h3
        go_enter Try.func50, Try.ntmps50
        go_wp2_with fail
        go_ret
        exact ⟨false, rfl, ⟨fun h => (by cases h), fun h => absurd h.2.2 HN.out⟩, HB.out⟩
    · have hb : ((n : Int) == n') = false := by simp [h2]
      have HN := Lib.hid h2
      clear h2
      go_enter Try.func50, Try.ntmps50
      go_wp2_with fail
      go_ret
      exact ⟨false, rfl, ⟨fun h => (by cases h), fun h => absurd h.2.1 HN.out⟩, HB.out⟩
  · have hb : ((k : Int) == k') = false := by simp [h1]
    have HN := Lib.hid h1
    clear h1
    go_enter Try.func50, Try.ntmps50
    go_wp2_with fail
    go_ret
    exact ⟨false, rfl, ⟨fun h => (by cases h), fun h => absurd h.1 HN.out⟩, HB.out⟩
end Go.Proofs.Ytaanfdccnnfceaa
