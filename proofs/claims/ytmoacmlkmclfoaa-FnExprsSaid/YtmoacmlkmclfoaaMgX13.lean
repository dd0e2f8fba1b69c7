/-
  Texts that the proof rests on, put together: AppE, EqSE, EqNE.
-/
import Derived.Test.YtmoacmlkmclfoaaMgX11
import Derived.Test.YtmoacmlkmclfoaaMgX6
import Derived.Maps.AppendAt
import Derived.Laws.CopyRow
import Derived.Test.YtmoacmlkmclfoaaMgX8
import Derived.Test.YtmoacmlkmclfoaaMgX10
/-
  append onto the row of a tree that is owned. (Written by gen10n.py.)
-/

namespace Go.Proofs.Ytmoacmlkmclfoaa
open Go.RowKit
set_option linter.unusedVariables false

section
variable {P : Program}
theorem run_append_anyT (w : World) (base : Nat) (t ty e e0 : TypeId) (i : TypeInfo) (z : Value) (size bytes : Nat) (ht : P.underlying t = some (.slice e)) (hi : P.info? e = some i) (hz : i.zero = some z)
    (hsize : i.size = size) (hby : i.bytes = bytes) (hzs : z.cells.size = size) (hsz : 0 < size)
    (v : Value) (n : Nat) (xs : List Value) (hown : w.ownsRow base e0 size v n xs)
    (a : Addr) (m c : Nat) (news : List Value) (hl : news.length = m * size) (hnews : ∀ j u, news[j]? = some u → w.cell? (a.add j) = some u) (h1 : ∀ u ∈ news, u.oneCell' = true)
    (h63 : n + m ≤ maxLen) (hbytes : (n + m) * bytes ≤ 140737488355328) (hbase : base ≤ w.heap.size) :
    ∃ v' w' e1, (Builtin.append_ #[t, t] ty #[v, .slice (some a) m c]).run P w = .ok v' w' ∧ w'.ownsRow base e1 size v' (n + m) (xs ++ news) ∧ w.grownBy w' v.ownBlock ∧ (v'.ownBlock = v.ownBlock ∨ v'.ownBlock = some w.heap.size) := by
  subst hsize
  subst hby
  have hlen : (xs ++ news).length = (n + m) * i.size := by rw [List.length_append, hown.1, hl, Nat.add_mul]
  rcases hown.2 with ⟨rfl, rfl⟩ | ⟨g, cap, cur, rfl, hbg, hg, hnc, hcm, hcs, htake⟩
  · have hx : xs = [] := List.eq_nil_of_length_eq_zero (by simpa using hown.1)
    subst hx
    obtain ⟨v', w', hr, h2, h3, _, h5⟩ := run_append_own_at (P := P) w base t ty e i z i.size i.bytes ht hi hz rfl rfl hzs hsz (.slice none 0 0) 0 [] (World.ownsRow_nil w base e i.size) a m c news hl hnews h1 h63 hbytes hbase
    exact ⟨v', w', e, hr, h2, h3, h5⟩
  · by_cases hroom : n + m ≤ cap
    · have hfit : n * i.size + news.length ≤ cur.size := by rw [hl, hcs, ← Nat.add_mul]; exact Nat.mul_le_mul_right _ hroom
      have hf := run_firstCells_some (P := P) w i.size m a m c news hl hnews
      have hst := run_storeCells_at P g (n * i.size) e0 news 0 cur w hg (by simpa using hfit) h1
      simp only [Nat.add_zero] at hst
      have hr : (Builtin.append_ #[t, t] ty #[.slice (some ⟨g, 0, none⟩) n cap, .slice (some a) m c]).run P w = .ok (.slice (some ⟨g, 0, none⟩) (n + m) cap) (w.setRow g (cur.toList.take (n * i.size) ++ news ++ cur.toList.drop (n * i.size + news.length)).toArray) := by
        simp [Builtin.append_, run_underlying ht, sizeOf, typeInfo, hi, Builtin.lenOf, hroom, hf, Addr.add_lit, hst]
      refine ⟨_, _, e0, hr, ⟨hlen, .inr ⟨g, cap, _, rfl, hbg, setRow_heap w g cur _ e0 _ hg, hroom, hcm, ?_, ?_⟩⟩, ⟨rfl, rfl, rfl, by simp, fun k _ hk => setRow_other w g k _ (fun e => hk (by simp [Value.ownBlock, e]))⟩, .inl rfl⟩
      · simp only [List.size_toArray, List.length_append, List.length_take, List.length_drop, Array.length_toList]
        omega
      · rw [htake, ← hlen]
        exact List.take_left
    · have hsmall : n + m ≤ 9223372036854775807 := by simp only [maxLen] at h63; omega
      have holds : ∀ j u, xs[j]? = some u → w.cell? ((⟨g, 0, none⟩ : Addr).add j) = some u := hown.cells (g := g) rfl
      have hr := run_append_grow (P := P) w t ty e i z ht hi hz ⟨g, 0, none⟩ n cap xs hown.1 holds a m c news hl hnews (by omega) (by omega) (growslice_fits (by omega) hbytes)
      have hge := grownCap_ge w (n + m) cap e
      have hcm2 := grownCap_le_maxLen w (n + m) cap e h63
      refine ⟨_, _, e, hr, ⟨hlen, .inr ⟨w.heap.size, _, _, rfl, hbase, Go.heap_alloc_new w.drew _, hge, hcm2, ?_, ?_⟩⟩, ⟨rfl, rfl, rfl, by simp, fun k hk _ => Below.heap_alloc w.drew _ k hk⟩, .inr rfl⟩
      · simp only [Array.size_append, List.size_toArray, size_zeroCells, hzs, hown.1, hl, ← Nat.add_mul]
        congr 1
        omega
      · simp only [Array.toList_append, List.append_assoc]
        rw [← List.append_assoc, ← hlen]
        exact List.take_left
end
/-- 'append' of one new node, at a plain operation. -/
theorem wpEA {o : Oper} {a : Act} {K : Act → World → Prop} {Q : Exit → Act → World → Prop} (w : World) (s x : Operand)
    (ho : o.op = .call { callee := .builtin .append, args := #[s, x], argTypes := #[24, 24] })
    (base : Nat) (e0 : TypeId) (v : Value) (n : Nat) (xs : List Value) (hs : a.eval s = v) (hown : w.ownsRow base e0 4 v n xs)
    (ad : Addr) (m c : Nat) (news : List Value) (hx : a.eval x = .slice (some ad) m c) (hl : news.length = m * 4) (hnews : ∀ j u, news[j]? = some u → w.cell? (ad.add j) = some u) (h1 : ∀ u ∈ news, u.oneCell' = true)
    (hb : n + m ≤ 4194304) (hbase : base ≤ w.heap.size)
    (h : ∀ v' w' e1, w'.ownsRow base e1 4 v' (n + m) (xs ++ news) → w.grownBy w' v.ownBlock → (v'.ownBlock = v.ownBlock ∨ v'.ownBlock = some w.heap.size) → K (a.put o.dst v') w') : Oper.wp Try.prog o a w K Q := by
  obtain ⟨i0, hi, hz0, hz1, hz2⟩ := info_parts eInfo
  obtain ⟨v', w', e1, hr, h2, h3, h4⟩ := run_append_anyT (P := Try.prog) w base 24 o.type 26 e0 i0 _ 4 56 Try.underlying24 hi hz0 hz1 hz2 rfl (by decide) v n xs hown ad m c news hl hnews h1 (by unfold maxLen; omega) (by omega) hbase
  unfold Oper.wp execOp
  simp only [ho, resolve, invoke, builtin, Sem.run_bind, Sem.run_pure, Result.andThen_ok, List.map_toArray, List.map_cons, List.map_nil, hs, hx, hr]
  exact h v' w' e1 h2 h3 h4
theorem stepEA {ops : Array Oper} {o : Oper} {a : Act} {K : Act → World → Prop} {Q : Exit → Act → World → Prop} {E : Prop} (w : World) (hgd : o.guard = none) (s x : Operand)
    (ho : o.op = .call { callee := .builtin .append, args := #[s, x], argTypes := #[24, 24] })
    (base : Nat) (e0 : TypeId) (v : Value) (n : Nat) (xs : List Value) (hs : a.eval s = v) (hown : w.ownsRow base e0 4 v n xs)
    (ad : Addr) (m c : Nat) (news : List Value) (hx : a.eval x = .slice (some ad) m c) (hl : news.length = m * 4) (hnews : ∀ j u, news[j]? = some u → w.cell? (ad.add j) = some u) (h1 : ∀ u ∈ news, u.oneCell' = true)
    (hb : n + m ≤ 4194304) (hbase : base ≤ w.heap.size)
    (h : ∀ v' w' e1, w'.ownsRow base e1 4 v' (n + m) (xs ++ news) → w.grownBy w' v.ownBlock → (v'.ownBlock = v.ownBlock ∨ v'.ownBlock = some w.heap.size) → K (a.put o.dst v') w') :
    if Region.wanted o (yielded ops a.tmps) = true then Oper.wp Try.prog o a w K Q else E := by
  have hw : Region.wanted o (yielded ops a.tmps) = true := by simp [Region.wanted, hgd]
  rw [if_pos hw]
  exact wpEA w s x ho base e0 v n xs hs hown ad m c news hx hl hnews h1 hb hbase h
theorem new_cells (w : World) (g : Nat) (cs : Array Value) (t : TypeId) (hg : g = w.heap.size) : ∀ j u, cs.toList[j]? = some u → (w.alloc (.cells cs t)).cell? ((⟨g, 0, none⟩ : Addr).add j) = some u := by
  intro j u hu
  subst hg
  rw [show (⟨w.heap.size, 0, none⟩ : Addr).add j = ⟨w.heap.size, j, none⟩ by unfold Addr.add; split <;> simp_all, World.cell?_alloc_mark]
  simpa using hu
theorem Objs.part2 {B : Nat} {w : World} {a b c : Asn} {L : List Asn} (h : Objs B w (c :: L)) (h1 : a.holds w) (h2 : b.holds w) (l1 : a.Loc) (l2 : b.Loc) (fa : ∀ k, a.foot k → c.foot k) (fb : ∀ k, b.foot k → c.foot k) (ap : ∀ k, a.foot k → ¬ b.foot k) : Objs B w (a :: b :: L) := by
  have hc := List.pairwise_cons.1 h.2
  have hcc := h.1 c (by simp)
  refine ⟨fun x hx => ?_, List.pairwise_cons.2 ⟨fun x hx => ?_, List.pairwise_cons.2 ⟨fun x hx k hk => hc.1 x hx k (fb k hk), hc.2⟩⟩⟩
  · rcases List.mem_cons.1 hx with rfl | hx
    · exact ⟨h1, l1, fun k hk => hcc.2.2 k (fa k hk)⟩
    · rcases List.mem_cons.1 hx with rfl | hx
      · exact ⟨h2, l2, fun k hk => hcc.2.2 k (fb k hk)⟩
      · exact h.1 x (List.mem_cons_of_mem _ hx)
  · rcases List.mem_cons.1 hx with rfl | hx
    · exact ap
    · exact fun k hk => hc.1 x hx k (fa k hk)
theorem ow_unexp {w : World} {k n : Int} {t : ByteArray} {l : List Dt} {x0 x1 x2 v : Value} {f : List Nat} (h : Ow w (.agg [.int k, .int n, .str t, .lst l]) [x0, x1, x2, v] f) : Ow w (.lst l) [v] f := by
  simp only [Ow, OwL] at h ⊢
  obtain ⟨_, c1, _, f1, e0, rfl, ⟨rfl, rfl⟩, _, c2, _, f2, e1, rfl, ⟨rfl, rfl⟩, _, c3, _, f3, e2, rfl, ⟨rfl, rfl⟩, _, c4, f4, f5, e3, rfl, ⟨A, c, e, kk, cells, fp, rfl, h1, h2, rfl⟩, rfl, rfl⟩ := h
  subst e3
  subst e2
  subst e1
  simp only [List.cons_append, List.nil_append, List.cons.injEq] at e0
  exact ⟨A, c, e, kk, cells, fp, by rw [e0.2.2.2.1], h1, h2, by simp⟩
theorem owL_len {w : World} {k : Nat} : ∀ (xs : List Dt) (cs : List Value) (fp : List Nat), OwL w xs cs fp → (∀ x ∈ xs, x.width = k) → cs.length = xs.length * k
  | [], cs, fp, h, _ => by
    simp only [OwL] at h
    simp [h.1]
  | x :: xs, cs, fp, h, hw => by
    simp only [OwL] at h
    obtain ⟨c1, c2, f1, f2, rfl, rfl, h1, h2⟩ := h
    have e1 := Rd.len x c1 h1.read
    have e2 := owL_len xs c2 f2 h2 fun y hy => hw y (by simp [hy])
    rw [hw x (by simp)] at e1
    rw [List.length_append, e1, e2, List.length_cons, Nat.add_mul]
    omega
section
variable {w wx wy : World} {B blk : Nat} {L : List Asn}
theorem DrSt.unExp {k n : Int} {t : ByteArray} {l : List Dt} {x0 x1 x2 v : Value} {f : List Nat} (h : DrSt w B blk (owA (.agg [.int k, .int n, .str t, .lst l]) [x0, x1, x2, v] f :: L) wx) : DrSt w B blk (owA (.lst l) [v] f :: L) wx :=
  h.alter fun o => owA_weak o fun _ h => ow_unexp h
theorem DrSt.appT {e e' : TypeId} {k n n' base : Nat} {v v' : Value} {xs xs' : List Value} (h : DrSt w B blk (rowA e k v n xs :: L) wx) (hg : wx.grownBy wy v.ownBlock) (ho : wy.ownsRow base e' k v' n' xs')
    (hb : v'.ownBlock = v.ownBlock ∨ v'.ownBlock = some wx.heap.size) : DrSt w B blk (rowA e' k v' n' xs' :: L) wy :=
  h.with hg (fun k hk => (h.objs.rowAt.lt k hk).1) (h.objs.upd hg.size (fun b hb hf => hg.block b hb fun e => hf e.symm) (own_base0 ho (Nat.zero_le _)) (rowA_loc _ _ _ _ _) (fun b hb' => by
    rcases hb with e | e
    · exact .inl (e.symm.trans hb')
    · have hb' : v'.ownBlock = some b := hb'
      rw [e] at hb'
      injection hb' with hb'
      subst hb'
      exact .inr ⟨Nat.le_refl _, (ho.lt _ e).2⟩) h.size)
/-- The arguments of a node: a row and trees. -/
theorem DrSt.args {l : List Dt} {A : Option Addr} {n c : Nat} {fp : List Nat} (hl : ∀ x ∈ l, IsExp x) (hnil : n = 0 → A = none ∧ c = 0) (h : DrSt w B blk (owA (.lst l) [.slice A n c] fp :: L) wx) :
    n = l.length ∧ ∃ e cells f, cells.length = l.length * 4 ∧ DrSt w B blk (rowA e 4 (.slice A n c) n cells :: owLA l cells f :: L) wx := by
  obtain ⟨hh, hnd⟩ := h.objs.head
  simp only [Ow] at hh
  obtain ⟨A', c', e, k, cells, f, he, h1, h2, rfl⟩ := hh
  simp only [List.cons.injEq, Value.slice.injEq, and_true] at he
  obtain ⟨rfl, rfl, rfl⟩ := he
  have hcl := owL_len l cells f h2 fun x hx => (hl x hx).width
  refine ⟨rfl, ?_⟩
  cases l with
  | nil =>
    obtain ⟨rfl, rfl⟩ := hnil rfl
    have hc0 : cells = [] := List.eq_nil_of_length_eq_zero (by simpa using hcl)
    subst hc0
    exact ⟨3, [], [], rfl, ((h.drop.noTrees).noRow 3 4)⟩
  | cons x xs =>
    have hk : k = 4 := by
      have e1 := h1.1
      rw [hcl] at e1
      exact (Nat.eq_of_mul_eq_mul_left (by simp) e1).symm
    subst hk
    have hn := List.nodup_append.1 hnd
    exact ⟨e, cells, f, hcl, h.alter fun o => o.part2 h1 ⟨h2, hn.2.1⟩ (rowA_loc _ _ _ _ _) (owLA_loc _ _ _) (fun j hk => List.mem_append.2 (.inl (by have hk : (Value.slice A (x :: xs).length c).ownBlock = some j := hk; rw [hk]; simp))) (fun j hk => List.mem_append.2 (.inr hk))
      (fun j hk hk2 => hn.2.2 j (by have hk : (Value.slice A (x :: xs).length c).ownBlock = some j := hk; rw [hk]; simp) j hk2 rfl)⟩
end
end Go.Proofs.Ytmoacmlkmclfoaa

/-
  Two stacks of expressions beside two boxes: what equalTrees holds from round to round. (Written by gen10n.py.)
-/

namespace Go.Proofs.Ytmoacmlkmclfoaa
open Go.RowKit
set_option linter.unusedVariables false

theorem eqs_push (us vs : List Dt) (x y : Dt) (h : us.length = vs.length) : us ++ [x] = vs ++ [y] ↔ us = vs ∧ x = y := by
  constructor
  · intro e
    have := List.append_inj e h
    exact ⟨this.1, by simpa using this.2⟩
  · rintro ⟨h1, h2⟩
    rw [h1, h2]
theorem eqs_app (us vs l l' : List Dt) (h : us.length = vs.length) : us ++ l = vs ++ l' ↔ us = vs ∧ l = l' := by
  constructor
  · intro e
    exact List.append_inj e h
  · rintro ⟨h1, h2⟩
    rw [h1, h2]
theorem exp_eq (k n : Int) (t : ByteArray) (l : List Dt) (k' n' : Int) (t' : ByteArray) (l' : List Dt) :
    Dt.agg [.int k, .int n, .str t, .lst l] = Dt.agg [.int k', .int n', .str t', .lst l'] ↔ l.length = l'.length ∧ (k = k' ∧ n = n' ∧ t = t') ∧ l = l' := by
  simp only [Dt.agg.injEq, List.cons.injEq, Dt.int.injEq, Dt.str.injEq, Dt.lst.injEq, and_true]
  constructor
  · rintro ⟨h1, h2, h3, h4⟩
    exact ⟨by rw [h4], ⟨h1, h2, h3⟩, h4⟩
  · rintro ⟨_, ⟨h1, h2, h3⟩, h4⟩
    exact ⟨h1, h2, h3, h4⟩
structure EqSE (w : World) (st ts : List Dt) (b1 b2 : List Value) (g1 q1 g2 q2 : Nat) (cl cr : List Value) (wx : World) : Prop where
  o1 : wx.ownsRow (w.heap.size + 2) 26 4 (.slice (some ⟨g1, 0, none⟩) st.length q1) st.length cl
  o2 : wx.ownsRow (w.heap.size + 2) 26 4 (.slice (some ⟨g2, 0, none⟩) ts.length q2) ts.length cr
  ne : g1 ≠ g2
  r1 : RdL w w.heap.size st cl
  r2 : RdL w w.heap.size ts cr
  x1 : wx.ownsRow w.heap.size 26 4 (.slice (some ⟨w.heap.size, 0, none⟩) 1 1) 1 b1
  x2 : wx.ownsRow w.heap.size 26 4 (.slice (some ⟨w.heap.size + 1, 0, none⟩) 1 1) 1 b2
  bel : Below w.heap.size w wx
  v1 : ∀ x ∈ st, IsExp x
  v2 : ∀ x ∈ ts, IsExp x

theorem own_atE {w : World} {base n q g s : Nat} {e : TypeId} {xs : List Value} (h : w.ownsRow base e s (.slice (some ⟨g, 0, none⟩) n q) n xs) : base ≤ g ∧ g < w.heap.size := h.lt g rfl
theorem own_blkE {w : World} {base n q g s : Nat} {e : TypeId} {xs : List Value} (h : w.ownsRow base e s (.slice (some ⟨g, 0, none⟩) n q) n xs) {w' : World} (hk : w'.heap[g]? = w.heap[g]?) : w'.ownsRow base e s (.slice (some ⟨g, 0, none⟩) n q) n xs :=
  own_keep h fun b hb => by injection hb with hb; have hb : g = b := hb; subst hb; exact hk
theorem EqSE.keep {w wx wy : World} {st ts : List Dt} {b1 b2 cl cr : List Value} {g1 q1 g2 q2 : Nat} (h : EqSE w st ts b1 b2 g1 q1 g2 q2 cl cr wx) (hb : Below wx.heap.size wx wy) : EqSE w st ts b1 b2 g1 q1 g2 q2 cl cr wy :=
  ⟨own_blkE h.o1 (hb.block _ (own_atE h.o1).2), own_blkE h.o2 (hb.block _ (own_atE h.o2).2), h.ne, h.r1, h.r2, own_blkE h.x1 (hb.block _ (own_atE h.x1).2), own_blkE h.x2 (hb.block _ (own_atE h.x2).2), h.bel.trans (hb.mono h.bel.size), h.v1, h.v2⟩
theorem EqSE.drew {w wx : World} {st ts : List Dt} {b1 b2 cl cr : List Value} {g1 q1 g2 q2 : Nat} (h : EqSE w st ts b1 b2 g1 q1 g2 q2 cl cr wx) : EqSE w st ts b1 b2 g1 q1 g2 q2 cl cr wx.drew := h.keep (Below.refl _ _).drew
theorem EqSE.swap {w wx : World} {st ts : List Dt} {b1 b2 cl cr : List Value} {g1 q1 g2 q2 : Nat} (h : EqSE w st ts b1 b2 g1 q1 g2 q2 cl cr wx) : g2 ≠ g1 := fun e => h.ne e.symm
theorem EqSE.store1 {w wx : World} {st ts : List Dt} {b1 b2 cl cr : List Value} {g1 q1 g2 q2 : Nat} (h : EqSE w st ts b1 b2 g1 q1 g2 q2 cl cr wx) (us : List Value) (hu : us.length = 4) : EqSE w st ts us b2 g1 q1 g2 q2 cl cr (wx.setCells w.heap.size 0 us) := by
  obtain ⟨h1, h2⟩ := box_store h.x1 us hu
  have k : ∀ g, g < wx.heap.size → g ≠ w.heap.size → (wx.setCells w.heap.size 0 us).heap[g]? = wx.heap[g]? := fun g hg hne => h2.block g hg (fun e => hne (by injection e))
  have a1 := own_atE h.o1
  have a2 := own_atE h.o2
  have a3 := own_atE h.x2
  exact ⟨own_blkE h.o1 (k _ a1.2 (by omega)), own_blkE h.o2 (k _ a2.2 (by omega)), h.ne, h.r1, h.r2, h1, own_blkE h.x2 (k _ a3.2 (by omega)), h.bel.grown h2 h.bel.size (fun j hj => by cases hj; first | exact Nat.le_refl _ | exact Nat.le_succ _), h.v1, h.v2⟩
theorem EqSE.store2 {w wx : World} {st ts : List Dt} {b1 b2 cl cr : List Value} {g1 q1 g2 q2 : Nat} (h : EqSE w st ts b1 b2 g1 q1 g2 q2 cl cr wx) (us : List Value) (hu : us.length = 4) : EqSE w st ts b1 us g1 q1 g2 q2 cl cr (wx.setCells (w.heap.size + 1) 0 us) := by
  obtain ⟨h1, h2⟩ := box_store h.x2 us hu
  have k : ∀ g, g < wx.heap.size → g ≠ w.heap.size + 1 → (wx.setCells (w.heap.size + 1) 0 us).heap[g]? = wx.heap[g]? := fun g hg hne => h2.block g hg (fun e => hne (by cases e; rfl))
  have a1 := own_atE h.o1
  have a2 := own_atE h.o2
  have a3 := own_atE h.x1
  exact ⟨own_blkE h.o1 (k _ a1.2 (by omega)), own_blkE h.o2 (k _ a2.2 (by omega)), h.ne, h.r1, h.r2, own_blkE h.x1 (k _ a3.2 (by omega)), h1, h.bel.grown h2 h.bel.size (fun j hj => by cases hj; first | exact Nat.le_refl _ | exact Nat.le_succ _), h.v1, h.v2⟩
/-- The left stack loses its last value and takes others. -/
theorem EqSE.push1 {w wx w2 : World} {us zs ts : List Dt} {x : Dt} {b1 b2 cl cr news : List Value} {g1 q1 g2 q2 m : Nat} {v2 : Value} (h : EqSE w (us ++ [x]) ts b1 b2 g1 q1 g2 q2 cl cr wx)
    (ho : w2.ownsRow (w.heap.size + 2) 26 4 v2 (us.length + zs.length) (cl.take (us.length * 4) ++ news)) (hg : wx.grownBy w2 (Value.slice (some ⟨g1, 0, none⟩) us.length q1).ownBlock)
    (hn : (v2 = .slice none 0 0 ↔ Value.slice (some ⟨g1, 0, none⟩) us.length q1 = .slice none 0 0 ∧ m = 0) ∧ (v2.ownBlock = (Value.slice (some ⟨g1, 0, none⟩) us.length q1).ownBlock ∨ v2.ownBlock = some wx.heap.size))
    (hz : RdL w w.heap.size zs news) (hv : ∀ z ∈ zs, IsExp z) : ∃ g q, v2 = .slice (some ⟨g, 0, none⟩) (us.length + zs.length) q ∧ EqSE w (us ++ zs) ts b1 b2 g q g2 q2 (cl.take (us.length * 4) ++ news) cr w2 := by
  obtain ⟨g, q, rfl, hgg, hgb, hgl⟩ := own_form_at ho hn
  have k : ∀ j, j < wx.heap.size → j ≠ g1 → w2.heap[j]? = wx.heap[j]? := fun j hj hne => hg.block j hj (fun e => hne (by injection e))
  have a2 := own_atE h.o2
  have a3 := own_atE h.x1
  have a4 := own_atE h.x2
  have a1 := own_atE h.o1
  have hne := h.ne
  refine ⟨g, q, rfl, ⟨by simpa using ho, own_blkE h.o2 (k _ a2.2 (fun e => hne e.symm)), ?_, ?_, h.r2, own_blkE h.x1 (k _ a3.2 (by omega)), own_blkE h.x2 (k _ a4.2 (by omega)), h.bel.grown hg h.bel.size (fun j hj => by injection hj with hj; have hj : g1 = j := hj; omega), ?_, h.v2⟩⟩
  · rcases hgg with rfl | rfl
    · exact hne
    · omega
  · exact (h.r1.last (k := 4) fun y hy => (h.v1 y (by simp [hy])).width).1.app hz
  · intro y hy
    rcases List.mem_append.1 hy with hy | hy
    · exact h.v1 y (by simp [hy])
    · exact hv y hy
theorem EqSE.push2 {w wx w2 : World} {us zs st : List Dt} {x : Dt} {b1 b2 cl cr news : List Value} {g1 q1 g2 q2 m : Nat} {v2 : Value} (h : EqSE w st (us ++ [x]) b1 b2 g1 q1 g2 q2 cl cr wx)
    (ho : w2.ownsRow (w.heap.size + 2) 26 4 v2 (us.length + zs.length) (cr.take (us.length * 4) ++ news)) (hg : wx.grownBy w2 (Value.slice (some ⟨g2, 0, none⟩) us.length q2).ownBlock)
    (hn : (v2 = .slice none 0 0 ↔ Value.slice (some ⟨g2, 0, none⟩) us.length q2 = .slice none 0 0 ∧ m = 0) ∧ (v2.ownBlock = (Value.slice (some ⟨g2, 0, none⟩) us.length q2).ownBlock ∨ v2.ownBlock = some wx.heap.size))
    (hz : RdL w w.heap.size zs news) (hv : ∀ z ∈ zs, IsExp z) : ∃ g q, v2 = .slice (some ⟨g, 0, none⟩) (us.length + zs.length) q ∧ EqSE w st (us ++ zs) b1 b2 g1 q1 g q cl (cr.take (us.length * 4) ++ news) w2 := by
  obtain ⟨g, q, rfl, hgg, hgb, hgl⟩ := own_form_at ho hn
  have k : ∀ j, j < wx.heap.size → j ≠ g2 → w2.heap[j]? = wx.heap[j]? := fun j hj hne => hg.block j hj (fun e => hne (by injection e))
  have a1 := own_atE h.o1
  have a3 := own_atE h.x1
  have a4 := own_atE h.x2
  have a2 := own_atE h.o2
  have hne := h.ne
  refine ⟨g, q, rfl, ⟨own_blkE h.o1 (k _ a1.2 hne), by simpa using ho, ?_, h.r1, ?_, own_blkE h.x1 (k _ a3.2 (by omega)), own_blkE h.x2 (k _ a4.2 (by omega)), h.bel.grown hg h.bel.size (fun j hj => by injection hj with hj; have hj : g2 = j := hj; omega), h.v1, ?_⟩⟩
  · rcases hgg with rfl | rfl
    · exact hne
    · omega
  · exact (h.r2.last (k := 4) fun y hy => (h.v2 y (by simp [hy])).width).1.app hz
  · intro y hy
    rcases List.mem_append.1 hy with hy | hy
    · exact h.v2 y (by simp [hy])
    · exact hv y hy
theorem EqSE.start {w : World} {d d' : Dt} (b1 b2 : Array Value) (h1 : b1.size = 4) (h2 : b2.size = 4) (hd : IsExp d) (hd' : IsExp d') (hr : Rd w w.heap.size d b1.toList) (hr' : Rd w w.heap.size d' b2.toList) :
    EqSE w [d] [d'] b1.toList b2.toList (w.heap.size + 2) 1 (w.heap.size + 3) 1 b1.toList b2.toList ((((w.alloc (.cells b1 26)).alloc (.cells b2 26)).alloc (.cells b1 26)).alloc (.cells b2 26)) ∧
    EqSE w [d] [d'] b1.toList b2.toList (w.heap.size + 3) 1 (w.heap.size + 2) 1 b1.toList b2.toList ((((w.alloc (.cells b1 26)).alloc (.cells b2 26)).alloc (.cells b2 26)).alloc (.cells b1 26)) := by
  have a1 := World.ownsRow_lit (base := w.heap.size) (e := 26) (size := 4) w b1 1 (Nat.le_refl _) (by unfold maxLen; omega) (by omega)
  have a2 := World.ownsRow_lit (base := w.heap.size) (e := 26) (size := 4) (w.alloc (.cells b1 26)) b2 1 (by simp) (by unfold maxLen; omega) (by omega)
  have a3 := World.ownsRow_lit (base := w.heap.size + 2) (e := 26) (size := 4) ((w.alloc (.cells b1 26)).alloc (.cells b2 26)) b1 1 (by simp) (by unfold maxLen; omega) (by omega)
  have a4 := World.ownsRow_lit (base := w.heap.size + 2) (e := 26) (size := 4) (((w.alloc (.cells b1 26)).alloc (.cells b2 26)).alloc (.cells b1 26)) b2 1 (by first | (simp; done) | (simp; omega)) (by unfold maxLen; omega) (by omega)
  have c3 := World.ownsRow_lit (base := w.heap.size + 2) (e := 26) (size := 4) ((w.alloc (.cells b1 26)).alloc (.cells b2 26)) b2 1 (by simp) (by unfold maxLen; omega) (by omega)
  have c4 := World.ownsRow_lit (base := w.heap.size + 2) (e := 26) (size := 4) (((w.alloc (.cells b1 26)).alloc (.cells b2 26)).alloc (.cells b2 26)) b1 1 (by first | (simp; done) | (simp; omega)) (by unfold maxLen; omega) (by omega)
  have bl : ∀ c3 c4, Below w.heap.size w ((((w.alloc (.cells b1 26)).alloc (.cells b2 26)).alloc c3).alloc c4) := fun c3 c4 => (((((Below.refl _ _).alloc (Nat.le_refl _) _).alloc (by simp) _).alloc (by simp; omega) _).alloc (by simp; omega) _)
  have e2 : (w.alloc (.cells b1 26)).heap.size = w.heap.size + 1 := by simp
  have e3 : ((w.alloc (.cells b1 26)).alloc (.cells b2 26)).heap.size = w.heap.size + 2 := by simp
  have e4 : (((w.alloc (.cells b1 26)).alloc (.cells b2 26)).alloc (.cells b1 26)).heap.size = w.heap.size + 3 := by simp
  have e4' : (((w.alloc (.cells b1 26)).alloc (.cells b2 26)).alloc (.cells b2 26)).heap.size = w.heap.size + 3 := by simp
  rw [e2] at a2
  rw [e3] at a3 c3
  rw [e4] at a4
  rw [e4'] at c4
  have rl : RdL w w.heap.size [d] b1.toList := by simp only [RdL]; exact ⟨_, [], by simp, hr, rfl⟩
  have rl' : RdL w w.heap.size [d'] b2.toList := by simp only [RdL]; exact ⟨_, [], by simp, hr', rfl⟩
  exact ⟨⟨World.ownsRow.alloc a3 _, a4, by omega, rl, rl', ((World.ownsRow.alloc a1 _).alloc _).alloc _, (World.ownsRow.alloc a2 _).alloc _, bl _ _, by simpa using hd, by simpa using hd'⟩,
    ⟨c4, World.ownsRow.alloc c3 _, by omega, rl, rl', ((World.ownsRow.alloc a1 _).alloc _).alloc _, (World.ownsRow.alloc a2 _).alloc _, bl _ _, by simpa using hd, by simpa using hd'⟩⟩
end Go.Proofs.Ytmoacmlkmclfoaa

/-
  equalNode: two nodes compared in all but what is inside. (Written by gen10n.py.)
-/

namespace Go.Proofs.Ytmoacmlkmclfoaa
open Go.RowKit
set_option linter.unusedVariables false

set_option maxHeartbeats 800000 in
set_option maxRecDepth 100000 in
theorem equalNode_any (k n : Int) (t : ByteArray) (A : Option Addr) (m c : Nat) (k' n' : Int) (t' : ByteArray) (A' : Option Addr) (m' c' : Nat) (w : World) :
    Calls Try.prog 22 #[.agg #[.int .i64 k, .int .i64 n, .string t, .slice A m c], .agg #[.int .i64 k', .int .i64 n', .string t', .slice A' m' c']] w (EqP (k = k' ∧ n = n' ∧ t = t') w) := by
  have hb0 := ((Below.refl w.heap.size w).alloc (Nat.le_refl _) (.cells #[Value.int .i64 k, .int .i64 n, .string t, .slice A m c] 26)).alloc (by simp) (.cells #[Value.int .i64 k', .int .i64 n', .string t', .slice A' m' c'] 26)
  have HB := Lib.hid hb0
  clear hb0
  by_cases h1 : k = k'
  · subst h1
    by_cases h2 : n = n'
    · subst h2
      by_cases h3 : t = t'
      · subst h3
        have hb : (t.toList == t.toList) = true := by simp
        go_enter Try.func22, Try.ntmps22
        go_wp2_with fail
        go_ret
        exact ⟨true, rfl, by simp, HB.out⟩
      · have hb : (t.toList == t'.toList) = false := by simp; exact fun e => h3 (bytes_inj e)
        have HN := Lib.hid h3
        clear h3
        go_enter Try.func22, Try.ntmps22
        go_wp2_with fail
        go_ret
        exact ⟨false, rfl, ⟨fun h => (by cases h), fun h => absurd h.2.2 HN.out⟩, HB.out⟩
    · have hb : ((n : Int) == n') = false := by simp [h2]
      have HN := Lib.hid h2
      clear h2
      go_enter Try.func22, Try.ntmps22
      go_wp2_with fail
      go_ret
      exact ⟨false, rfl, ⟨fun h => (by cases h), fun h => absurd h.2.1 HN.out⟩, HB.out⟩
  · have hb : ((k : Int) == k') = false := by simp [h1]
    have HN := Lib.hid h1
    clear h1
    go_enter Try.func22, Try.ntmps22
    go_wp2_with fail
    go_ret
    exact ⟨false, rfl, ⟨fun h => (by cases h), fun h => absurd h.1 HN.out⟩, HB.out⟩
end Go.Proofs.Ytmoacmlkmclfoaa
