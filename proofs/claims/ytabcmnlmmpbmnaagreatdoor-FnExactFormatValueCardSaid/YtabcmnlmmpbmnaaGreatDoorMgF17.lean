/-
  Texts that the proof rests on, put together: Stk, MSt, Cons, MSt2.
-/
import Derived.Test.YtabcmnlmmpbmnaaGreatDoorMgF8
import Derived.Deep.RegionHeld3
import Derived.Deep.AppendLies
import Derived.Maps.AppendAt
import Derived.Test.YtabcmnlmmpbmnaaGreatDoorMgF14
import Derived.Test.YtabcmnlmmpbmnaaGreatDoorMgF11
/-
  Stacks of values of the call's own: 'append' onto them of values that lie in memory (nil or not), and a stack without its last value.
-/

namespace Go.Proofs.YtabcmnlmmpbmnaaGreatDoor
open Go.RowKit
set_option linter.unusedVariables false

mutual
theorem Rd.one {w : World} {B : Nat} : ∀ (d : Dt) (cs : List Value), Rd w B d cs → ∀ u ∈ cs, u.oneCell' = true
  | .int _, cs, h, u, hu => by simp only [Rd] at h; subst h; simp at hu; subst hu; rfl
  | .bool _, cs, h, u, hu => by simp only [Rd] at h; subst h; simp at hu; subst hu; rfl
  | .str _, cs, h, u, hu => by simp only [Rd] at h; subst h; simp at hu; subst hu; rfl
  | .agg fs, cs, h, u, hu => by simp only [Rd] at h; exact RdL.one fs cs h u hu
  | .lst xs, cs, h, u, hu => by
    simp only [Rd] at h
    obtain ⟨A, c, cells, rfl, _⟩ := h
    simp at hu; subst hu; rfl
theorem RdL.one {w : World} {B : Nat} : ∀ (xs : List Dt) (cs : List Value), RdL w B xs cs → ∀ u ∈ cs, u.oneCell' = true
  | [], cs, h, u, hu => by simp only [RdL] at h; subst h; simp at hu
  | x :: xs, cs, h, u, hu => by
    simp only [RdL] at h
    obtain ⟨c1, c2, rfl, h1, h2⟩ := h
    rcases List.mem_append.1 hu with hu | hu
    · exact Rd.one x c1 h1 u hu
    · exact RdL.one xs c2 h2 u hu
end

/-- The first elements of a slice that is owned are owned too. -/
theorem own_takeW {w : World} {base : Nat} {e : TypeId} {s : Nat} {g : Addr} {n c k : Nat} {xs : List Value} (h : w.ownsRow base e s (.slice (some g) n c) n xs) (hk : k ≤ n) : w.ownsRow base e s (.slice (some g) k c) k (xs.take (k * s)) := by
  have hl := h.1
  have hks : k * s ≤ n * s := Nat.mul_le_mul_right s hk
  rcases h.2 with ⟨h0, _⟩ | ⟨g', cap', cur, hv, h1, h2, h3, h4, h5, h6⟩
  · cases h0
  · injection hv with e1 e2 e3
    subst e3
    refine ⟨by rw [List.length_take]; omega, .inr ⟨g', c, cur, by rw [e1], h1, h2, by omega, h4, h5, ?_⟩⟩
    rw [← h6, List.take_take, Nat.min_eq_left hks]

section
variable {P : Program}
theorem run_append_src (w : World) (base : Nat) (t ty e : TypeId) (i : TypeInfo) (z : Value) (size bytes : Nat) (ht : P.underlying t = some (.slice e)) (hi : P.info? e = some i) (hz : i.zero = some z)
    (hsize : i.size = size) (hby : i.bytes = bytes) (hzs : z.cells.size = size) (hsz : 0 < size)
    (v : Value) (n : Nat) (xs : List Value) (hown : w.ownsRow base e size v n xs)
    (A : Option Addr) (m c B : Nat) (news : List Value) (hl : news.length = m * size) (hrow : RowOf w B A news) (h1 : ∀ u ∈ news, u.oneCell' = true)
    (h63 : n + m ≤ maxLen) (hbytes : (n + m) * bytes ≤ 140737488355328) (hbase : base ≤ w.heap.size) :
    ∃ v' w', (Builtin.append_ #[t, t] ty #[v, .slice A m c]).run P w = .ok v' w' ∧ w'.ownsRow base e size v' (n + m) (xs ++ news) ∧ w.grownBy w' v.ownBlock ∧
      ((v' = .slice none 0 0 ↔ v = .slice none 0 0 ∧ m = 0) ∧ (v'.ownBlock = v.ownBlock ∨ v'.ownBlock = some w.heap.size)) := by
  cases A with
  | some a =>
    refine run_append_own_at w base t ty e i z size bytes ht hi hz hsize hby hzs hsz v n xs hown a m c news hl (fun j u hu => ?_) h1 h63 hbytes hbase
    obtain ⟨b, o, he, _, hc⟩ := hrow j u hu
    injection he with he
    subst he
    rw [← hc]
    congr 1
    unfold Addr.add
    split <;> simp_all
  | none =>
    have hn : news = [] := by
      cases news with
      | nil => rfl
      | cons u us =>
        obtain ⟨b, o, he, _⟩ := hrow 0 u rfl
        cases he
    subst hn
    have hm : m = 0 := by
      rcases Nat.eq_zero_or_pos m with h | h
      · exact h
      · have := Nat.mul_pos h hsz; simp at hl; omega
    subst hm
    refine ⟨v, w, ?_, by simpa using hown, World.grownBy.refl _ _, by simp⟩
    rcases hown.2 with ⟨rfl, rfl⟩ | ⟨g, cap, cur, rfl, _, _, hnc, _⟩
    · simp [Builtin.append_, run_underlying ht, sizeOf, typeInfo, hi, Builtin.lenOf, Builtin.firstCells]
    · simp [Builtin.append_, run_underlying ht, sizeOf, typeInfo, hi, Builtin.lenOf, Builtin.firstCells, hnc, storeCells]

theorem wp_append_src {o : Oper} {a : Act} {K : Act → World → Prop} {Q : Exit → Act → World → Prop} (w : World) (s x : Operand) (t : TypeId)
    (ho : o.op = .call { callee := .builtin .append, args := #[s, x], argTypes := #[t, t] })
    (base : Nat) (e : TypeId) (i : TypeInfo) (z : Value) (size bytes : Nat) (ht : P.underlying t = some (.slice e)) (hi : P.info? e = some i) (hz : i.zero = some z)
    (hsize : i.size = size) (hby : i.bytes = bytes) (hzs : z.cells.size = size) (hsz : 0 < size)
    (v : Value) (n : Nat) (xs : List Value) (hs : a.eval s = v) (hown : w.ownsRow base e size v n xs)
    (A : Option Addr) (m c B : Nat) (news : List Value) (hx : a.eval x = .slice A m c) (hl : news.length = m * size) (hrow : RowOf w B A news) (h1 : ∀ u ∈ news, u.oneCell' = true)
    (h63 : n + m ≤ maxLen) (hbytes : (n + m) * bytes ≤ 140737488355328) (hbase : base ≤ w.heap.size)
    (h : ∀ v' w', w'.ownsRow base e size v' (n + m) (xs ++ news) → w.grownBy w' v.ownBlock → ((v' = .slice none 0 0 ↔ v = .slice none 0 0 ∧ m = 0) ∧ (v'.ownBlock = v.ownBlock ∨ v'.ownBlock = some w.heap.size)) → K (a.put o.dst v') w') : o.wp P a w K Q := by
  obtain ⟨v', w', hr, h2, h3, h4⟩ := run_append_src (P := P) w base t o.type e i z size bytes ht hi hz hsize hby hzs hsz v n xs hown A m c B news hl hrow h1 h63 hbytes hbase
  unfold Oper.wp execOp
  simp only [ho, resolve, invoke, builtin, Sem.run_bind, Sem.run_pure, Result.andThen_ok, List.map_toArray, List.map_cons, List.map_nil, hs, hx, hr]
  exact h v' w' h2 h3 h4
end

theorem valInfo : (Tryz.prog.info? 28).map (fun i => (i.zero, i.size, i.bytes)) = some (some (.agg #[.int .i64 0, .int .i64 0, .int .i64 0, .string ⟨#[]⟩, .slice none 0 0, .slice none 0 0, .slice none 0 0]), 7, 112) := by kernel_rfl

theorem wpV {o : Oper} {a : Act} {K : Act → World → Prop} {Q : Exit → Act → World → Prop} (w : World) (s x : Operand)
    (ho : o.op = .call { callee := .builtin .append, args := #[s, x], argTypes := #[24, 24] })
    (base : Nat) (v : Value) (n : Nat) (xs : List Value) (hs : a.eval s = v) (hown : w.ownsRow base 28 7 v n xs)
    (A : Option Addr) (m c B : Nat) (news : List Value) (hx : a.eval x = .slice A m c) (hl : news.length = m * 7) (hrow : RowOf w B A news) (h1 : ∀ u ∈ news, u.oneCell' = true)
    (hb : n + m ≤ 4194304) (hbase : base ≤ w.heap.size)
    (h : ∀ v' w', w'.ownsRow base 28 7 v' (n + m) (xs ++ news) → w.grownBy w' v.ownBlock → ((v' = .slice none 0 0 ↔ v = .slice none 0 0 ∧ m = 0) ∧ (v'.ownBlock = v.ownBlock ∨ v'.ownBlock = some w.heap.size)) → K (a.put o.dst v') w') : Oper.wp Tryz.prog o a w K Q := by
  obtain ⟨i0, hi, hz0, hz1, hz2⟩ := info_parts valInfo
  exact wp_append_src w s x 24 ho base 28 i0 _ 7 112 Tryz.underlying24 hi hz0 hz1 hz2 rfl (by decide) v n xs hs hown A m c B news hx hl hrow h1 (by unfold maxLen; omega) (by omega) hbase h

theorem appV {ops : Array Oper} {rest : List Oper} {o : Oper} {a : Act} {Q : Exit → Act → World → Prop} (w : World) (hgd : o.guard = none) (s x : Operand)
    (ho : o.op = .call { callee := .builtin .append, args := #[s, x], argTypes := #[24, 24] })
    (base : Nat) (v : Value) (n : Nat) (xs : List Value) (hs : a.eval s = v) (hown : w.ownsRow base 28 7 v n xs)
    (A : Option Addr) (m c B : Nat) (news : List Value) (hx : a.eval x = .slice A m c) (hl : news.length = m * 7) (hrow : RowOf w B A news) (h1 : ∀ u ∈ news, u.oneCell' = true)
    (hb : n + m ≤ 4194304) (hbase : base ≤ w.heap.size)
    (h : ∀ v' w', w'.ownsRow base 28 7 v' (n + m) (xs ++ news) → w.grownBy w' v.ownBlock → ((v' = .slice none 0 0 ↔ v = .slice none 0 0 ∧ m = 0) ∧ (v'.ownBlock = v.ownBlock ∨ v'.ownBlock = some w.heap.size)) → wpList Tryz.prog ops Q rest (a.put o.dst v') w') : wpList Tryz.prog ops Q (o :: rest) a w :=
  wpList_plain hgd fun _ hK => wpV w s x ho base v n xs hs hown A m c B news hx hl hrow h1 hb hbase fun v' w' h2 h3 h4 => hK _ _ (h v' w' h2 h3 h4)

theorem stepV {ops : Array Oper} {o : Oper} {a : Act} {K : Act → World → Prop} {Q : Exit → Act → World → Prop} {E : Prop} (w : World) (hgd : o.guard = none) (s x : Operand)
    (ho : o.op = .call { callee := .builtin .append, args := #[s, x], argTypes := #[24, 24] })
    (base : Nat) (v : Value) (n : Nat) (xs : List Value) (hs : a.eval s = v) (hown : w.ownsRow base 28 7 v n xs)
    (A : Option Addr) (m c B : Nat) (news : List Value) (hx : a.eval x = .slice A m c) (hl : news.length = m * 7) (hrow : RowOf w B A news) (h1 : ∀ u ∈ news, u.oneCell' = true)
    (hb : n + m ≤ 4194304) (hbase : base ≤ w.heap.size)
    (h : ∀ v' w', w'.ownsRow base 28 7 v' (n + m) (xs ++ news) → w.grownBy w' v.ownBlock → ((v' = .slice none 0 0 ↔ v = .slice none 0 0 ∧ m = 0) ∧ (v'.ownBlock = v.ownBlock ∨ v'.ownBlock = some w.heap.size)) → K (a.put o.dst v') w') :
    if Region.wanted o (yielded ops a.tmps) = true then Oper.wp Tryz.prog o a w K Q else E := by
  have hw : Region.wanted o (yielded ops a.tmps) = true := by simp [Region.wanted, hgd]
  rw [if_pos hw]
  exact wpV w s x ho base v n xs hs hown A m c B news hx hl hrow h1 hb hbase h

/-- A slice's data as a row of cells. -/
theorem Rd.cells {w : World} {B k : Nat} {xs : List Dt} {A : Option Addr} {n c : Nat} (h : Rd w B (.lst xs) [.slice A n c]) (hw : ∀ x ∈ xs, x.width = k) : ∃ cells, RowOf w B A cells ∧ RdL w B xs cells ∧ cells.length = xs.length * k ∧ n = xs.length := by
  simp only [Rd] at h
  obtain ⟨A', c', cells, he, _, _, h1, h2⟩ := h
  injection he with he _
  injection he with e1 e2 e3
  subst e1
  exact ⟨cells, h1, h2, by rw [h2.len, widths_all _ hw], e2⟩
/-- The last of some data. -/
theorem RdL.last {w : World} {B k : Nat} {us : List Dt} {x : Dt} {cells : List Value} (h : RdL w B (us ++ [x]) cells) (hw : ∀ y ∈ us, y.width = k) :
    RdL w B us (cells.take (us.length * k)) ∧ ∃ cs, Rd w B x cs ∧ ∀ j, cells[us.length * k + j]? = cs[j]? := by
  obtain ⟨c1, c2, rfl, h1, h2⟩ := (RdL.append _ _ _).1 h
  simp only [RdL] at h2
  obtain ⟨c3, c4, rfl, h3, rfl⟩ := h2
  have hl := h1.len
  rw [widths_all _ hw] at hl
  refine ⟨by rw [← hl, List.take_left]; exact h1, c3, h3, fun j => ?_⟩
  rw [← hl, List.getElem?_append_right (by omega), Nat.add_sub_cancel_left, List.append_nil]
theorem RdL.app {w : World} {B : Nat} {us vs : List Dt} {c1 c2 : List Value} (h1 : RdL w B us c1) (h2 : RdL w B vs c2) : RdL w B (us ++ vs) (c1 ++ c2) := (RdL.append _ _ _).2 ⟨c1, c2, rfl, h1, h2⟩
/-- A box is written anew. -/
theorem box_store {w : World} {base b s : Nat} {e : TypeId} {old : List Value} (h : w.ownsRow base e s (.slice (some ⟨b, 0, none⟩) 1 1) 1 old) (us : List Value) (hu : us.length = s) :
    (w.setCells b 0 us).ownsRow base e s (.slice (some ⟨b, 0, none⟩) 1 1) 1 us ∧ w.grownBy (w.setCells b 0 us) (some b) := by
  have h1 := own_setCells us 0 w _ h
  have hl := h.1
  have h2 := setsAt_mid us old [] [] (by omega)
  simp at h2
  rw [h2] at h1
  exact h1
/-- Where a slice lies behind an append. -/
theorem own_form_at {w : World} {base n m : Nat} {e : TypeId} {s H g q k : Nat} {v : Value} {cells : List Value} (h : w.ownsRow base e s v n cells) (hn : (v = .slice none 0 0 ↔ Value.slice (some ⟨g, 0, none⟩) k q = .slice none 0 0 ∧ m = 0) ∧ (v.ownBlock = (Value.slice (some ⟨g, 0, none⟩) k q).ownBlock ∨ v.ownBlock = some H)) :
    ∃ g' q', v = .slice (some ⟨g', 0, none⟩) n q' ∧ (g' = g ∨ g' = H) ∧ base ≤ g' ∧ g' < w.heap.size := by
  rcases h.2 with ⟨e, _⟩ | ⟨g', cap, cur, rfl, _⟩
  · have := (hn.1.1 e).1
    cases this
  · refine ⟨g', cap, rfl, ?_, h.lt g' rfl⟩
    rcases hn.2 with e | e
    · injection e with e
      exact .inl e
    · injection e with e
      exact .inr e
end Go.Proofs.YtabcmnlmmpbmnaaGreatDoor

/-
  What a call holds while it builds: things of its own, and that all else stays.
-/

namespace Go.Proofs.YtabcmnlmmpbmnaaGreatDoor
open Go.RowKit
set_option linter.unusedVariables false

def MSt (w : World) (L : List Asn) (wx : World) : Prop := Objs w.heap.size wx L ∧ Below w.heap.size w wx
section
variable {w wx wy : World} {L L' M : List Asn}
theorem MSt.start (w : World) : MSt w [] w := ⟨Objs.nil _ _, Below.refl _ _⟩
theorem MSt.bel (h : MSt w L wx) : Below w.heap.size w wx := h.2
theorem MSt.size (h : MSt w L wx) : w.heap.size ≤ wx.heap.size := h.2.size
theorem MSt.objs (h : MSt w L wx) : Objs w.heap.size wx L := h.1
theorem MSt.alter (h : MSt w L wx) (hp : Objs w.heap.size wx L → Objs w.heap.size wx L') : MSt w L' wx := ⟨hp h.1, h.2⟩
theorem MSt.later (h : MSt w L wx) (hb : Below wx.heap.size wx wy) : MSt w L wy := ⟨h.1.below hb, h.2.trans (hb.mono h.2.size)⟩
theorem MSt.add {a : Asn} (h : MSt w L wx) (hb : Below wx.heap.size wx wy) (ha : a.At wx.heap.size wy) : MSt w (a :: L) wy := ⟨h.1.add hb h.2.size ha, h.2.trans (hb.mono h.2.size)⟩
/-- What a call within the call has built is added. -/
theorem MSt.trans (h : MSt w L wx) (h2 : MSt wx M wy) : MSt w (M ++ L) wy := by
  have h1 := h.later h2.2
  refine ⟨⟨fun a ha => ?_, List.pairwise_append.2 ⟨h2.1.2, h1.1.2, fun a ha b hb k hk hk' => ?_⟩⟩, h1.2⟩
  · rcases List.mem_append.1 ha with ha | ha
    · have := h2.1.1 a ha
      exact ⟨this.1, this.2.1, fun b hb => ⟨Nat.le_trans h.size (this.2.2 b hb).1, (this.2.2 b hb).2⟩⟩
    · exact h1.1.1 a ha
  · have e1 := ((h2.1.1 a ha).2.2 k hk).1
    have e2 := ((h.1.1 b hb).2.2 k hk').2
    omega
theorem MSt.perm (h : MSt w L wx) (hp : L.Perm L') : MSt w L' wx := h.alter fun o => o.perm hp
theorem MSt.nth {a : Asn} {L1 L2 : List Asn} (h : MSt w (L1 ++ a :: L2) wx) : MSt w (a :: (L1 ++ L2)) wx := h.perm List.perm_middle
theorem MSt.swap {a b : Asn} (h : MSt w (a :: b :: L) wx) : MSt w (b :: a :: L) wx := h.alter Objs.swap
theorem MSt.drop {a : Asn} (h : MSt w (a :: L) wx) : MSt w L wx := h.alter Objs.tail
theorem MSt.app {e : TypeId} {k n n' base : Nat} {v v' : Value} {xs xs' : List Value} (h : MSt w (rowA e k v n xs :: L) wx) (hg : wx.grownBy wy v.ownBlock) (ho : wy.ownsRow base e k v' n' xs')
    (hb : v'.ownBlock = v.ownBlock ∨ v'.ownBlock = some wx.heap.size) : MSt w (rowA e k v' n' xs' :: L) wy :=
  ⟨h.1.app hg ho hb h.2.size, Below.grown h.2 hg h.2.size fun k hk => (h.1.rowAt.lt k hk).1⟩
theorem MSt.row {e : TypeId} {k n : Nat} {v : Value} {xs : List Value} (h : MSt w (rowA e k v n xs :: L) wx) : wx.ownsRow w.heap.size e k v n xs := Objs.rowAt h.1
theorem MSt.box {e : TypeId} {k g : Nat} {xs : List Value} (h : MSt w (boxA e k g xs :: L) wx) : wx.ownsRow w.heap.size e k (.slice (some ⟨g, 0, none⟩) 1 1) 1 xs := h.1.rowAt
theorem MSt.set1 {e : TypeId} {k b : Nat} {xs : List Value} (h : MSt w (boxA e k b xs :: L) wx) (p : Nat) (u : Value) : MSt w (boxA e k b (xs.set p u) :: L) (wx.setCell ⟨b, p, none⟩ u) :=
  ⟨h.1.boxSet1 p u h.2.size, h.2.setCell (h.box.lt b rfl).1 _⟩
theorem MSt.alloc (h : MSt w L wx) (o : Obj) : MSt w L (wx.alloc o) := h.later ((Below.refl _ _).alloc (Nat.le_refl _) _)
theorem MSt.drew (h : MSt w L wx) : MSt w L wx.drew := h.later (Below.refl _ _).drew
theorem MSt.drewN (h : MSt w L wx) (n : Nat) : MSt w L (wx.drewN n) := h.later (below_drewN (Below.refl _ _) n)
theorem MSt.new (h : MSt w L wx) (e : TypeId) (k : Nat) (cs : Array Value) (hk : cs.size = k) : MSt w (boxA e k wx.heap.size cs.toList :: L) (wx.alloc (.cells cs e)) :=
  ⟨h.1.new h.2.size e k cs hk, h.2.alloc h.2.size _⟩
theorem MSt.lit (h : MSt w L wx) (e : TypeId) (k : Nat) : MSt w (rowA e k (.slice (some ⟨wx.heap.size, 0, none⟩) 0 0) 0 [] :: L) (wx.alloc (.cells #[] e)) :=
  ⟨h.1.lit h.2.size e k rfl, h.2.alloc h.2.size _⟩
theorem MSt.nilRow (h : MSt w L wx) (e : TypeId) (k : Nat) : MSt w (rowA e k (.slice none 0 0) 0 [] :: owLA [] [] [] :: L) wx := h.alter fun o => o.nilRow e k
theorem MSt.nilRow0 (h : MSt w L wx) (e : TypeId) (k : Nat) : MSt w (rowA e k (.slice none 0 0) 0 [] :: L) wx := h.alter fun o => (o.nilRow e k).swap.tail
theorem MSt.push {r : Asn} {d : Dt} {xs : List Dt} {c cs : List Value} {f fp : List Nat} (h : MSt w (r :: owA d c f :: owLA xs cs fp :: L) wx) : MSt w (r :: owLA (xs ++ [d]) (cs ++ c) (fp ++ f) :: L) wx :=
  h.alter fun hM => (Objs.push (Objs.perm hM ((List.reverse_perm [owLA xs cs fp, owA d c f, r]).append_right L))).swap
theorem MSt.close {e : TypeId} {k n : Nat} {v : Value} {xs : List Dt} {cells : List Value} {fp : List Nat} (h : MSt w (rowA e k v n cells :: owLA xs cells fp :: L) wx) (hn : n = xs.length) : MSt w (owA (.lst xs) [v] (v.ownBlock.toList ++ fp) :: L) wx :=
  h.alter fun hM => Objs.close hM hn
theorem MSt.close0 {e : TypeId} {k n : Nat} {v : Value} {xs : List Dt} {cells : List Value} (h : MSt w (rowA e k v n cells :: L) wx) (ho : ∀ w', OwL w' xs cells []) (hn : n = xs.length) : MSt w (owA (.lst xs) [v] v.ownBlock.toList :: L) wx :=
  h.alter fun hM => hM.close0 ho hn
end

/-! ### values put together -/
theorem owA_weak {w : World} {B : Nat} {L : List Asn} {d d' : Dt} {c c' : List Value} {f : List Nat} (h : Objs B w (owA d c f :: L)) (hh : ∀ w', Ow w' d c f → Ow w' d' c' f) : Objs B w (owA d' c' f :: L) :=
  h.weak (fun h => ⟨hh _ h.1, h.2⟩) (owA_loc _ _ _) (fun _ h => h)
/-- A value of flat parts. -/
def flatV (k n s : Int) (t : ByteArray) : List Value := [.int .i64 k, .int .i64 n, .int .i64 s, .string t, .slice none 0 0, .slice none 0 0, .slice none 0 0]
theorem ow_flat (w : World) (k n s : Int) (t : ByteArray) : Ow w (.agg [.int k, .int n, .int s, .str t, .lst [], .lst [], .lst []]) (flatV k n s t) [] := by
  simp only [Ow, OwL]
  have hn := Ow.nilLst w
  simp only [Ow] at hn
  exact ⟨[_], _, [], [], rfl, rfl, ⟨rfl, rfl⟩, [_], _, [], [], rfl, rfl, ⟨rfl, rfl⟩, [_], _, [], [], rfl, rfl, ⟨rfl, rfl⟩, [_], _, [], [], rfl, rfl, ⟨rfl, rfl⟩, [_], _, [], [], rfl, rfl, hn, [_], _, [], [], rfl, rfl, hn, [_], _, [], [], rfl, rfl, hn, rfl, rfl⟩
theorem ow_lst {w : World} {l : List Dt} {v : Value} {f : List Nat} (h : Ow w (.lst l) [v] f) : Ow w (.agg [.int 3, .int 0, .int 0, .str ⟨#[]⟩, .lst l, .lst [], .lst []]) [.int .i64 3, .int .i64 0, .int .i64 0, .string ⟨#[]⟩, v, .slice none 0 0, .slice none 0 0] f := by
  have hn := Ow.nilLst w
  simp only [Ow] at h hn
  simp only [Ow, OwL]
  exact ⟨[_], _, [], f, rfl, rfl, ⟨rfl, rfl⟩, [_], _, [], f, rfl, rfl, ⟨rfl, rfl⟩, [_], _, [], f, rfl, rfl, ⟨rfl, rfl⟩, [_], _, [], f, rfl, rfl, ⟨rfl, rfl⟩, [v], _, f, [], rfl, by simp, h, [_], _, [], [], rfl, rfl, hn, [_], _, [], [], rfl, rfl, hn, rfl, rfl⟩
theorem flat_one (k n s : Int) (t : ByteArray) : ∀ u ∈ flatV k n s t, u.oneCell' = true := by
  intro u hu
  simp only [flatV, List.mem_cons, List.not_mem_nil, or_false] at hu
  rcases hu with rfl | rfl | rfl | rfl | rfl | rfl | rfl <;> rfl
/-- The cells of numbers as values. -/
def numV (ns : List Int) : List Value := ns.flatMap fun n => flatV 1 n 0 ⟨#[]⟩
theorem numV_next (ns : List Int) (i : Nat) (h : i < ns.length) : numV (ns.take i) ++ flatV 1 ns[i] 0 ⟨#[]⟩ = numV (ns.take (i + 1)) := by
  unfold numV
  rw [List.take_succ_eq_append_getElem h, List.flatMap_append]
  simp
theorem ow_numV (w : World) : ∀ ns : List Int, OwL w (ns.map fun n => .agg [.int 1, .int n, .int 0, .str ⟨#[]⟩, .lst [], .lst [], .lst []]) (numV ns) []
  | [] => by simp [OwL, numV]
  | n :: ns => by
    simp only [List.map_cons, OwL]
    exact ⟨flatV 1 n 0 ⟨#[]⟩, numV ns, [], [], by simp [numV], rfl, ow_flat w 1 n 0 ⟨#[]⟩, ow_numV w ns⟩
end Go.Proofs.YtabcmnlmmpbmnaaGreatDoor

/-
  The constructors of values that have no slices, and what the laws ask of such values. (Written by gencons.py.)
-/

namespace Go.Proofs.YtabcmnlmmpbmnaaGreatDoor
open Go.RowKit
set_option linter.unusedVariables false

theorem Rd.nil (w : World) (B : Nat) : Rd w B (.lst []) [.slice none 0 0] := by
  simp only [Rd]
  exact ⟨none, 0, [], rfl, Nat.le_refl _, by unfold maxLen; omega, fun k v h => by simp at h, by simp [RdL]⟩
theorem Rd.flat (w : World) (B : Nat) (k n s : Int) (t : ByteArray) : Rd w B (.agg [.int k, .int n, .int s, .str t, .lst [], .lst [], .lst []]) [.int .i64 k, .int .i64 n, .int .i64 s, .string t, .slice none 0 0, .slice none 0 0, .slice none 0 0] := by
  have h := Rd.nil w B
  exact ⟨[.int .i64 k], _, rfl, rfl, [.int .i64 n], _, rfl, rfl, [.int .i64 s], _, rfl, rfl, [.string t], _, rfl, rfl, [.slice none 0 0], _, rfl, h, [.slice none 0 0], _, rfl, h, [.slice none 0 0], [], rfl, h, rfl⟩
set_option maxHeartbeats 400000 in
set_option maxRecDepth 100000 in
theorem specNumberValue_any (n : Int) (w : World) : Calls Tryz.prog 96 #[.int .i64 n] w fun e w' => e = .returned (.agg #[.int .i64 1, .int .i64 n, .int .i64 0, .string ⟨#[]⟩, .slice none 0 0, .slice none 0 0, .slice none 0 0]) ∧ Below w.heap.size w w' := by
  go_enter Tryz.func96, Tryz.ntmps96
  go_wp2_with fail
  refine bodyPost_ret (v := .agg #[.int .i64 1, .int .i64 n, .int .i64 0, .string ⟨#[]⟩, .slice none 0 0, .slice none 0 0, .slice none 0 0]) (by simp [results, Tryz.results96, go_sem]) rfl ⟨rfl, ?_⟩
  repeat' (first | refine Below.setCell ?_ (by first | (simp; done) | (simp; omega) | omega) _ | refine Below.alloc ?_ (by first | (simp; done) | (simp; omega) | omega) _ | exact Below.refl _ _)
set_option maxHeartbeats 400000 in
set_option maxRecDepth 100000 in
theorem implNumberValue_value (n : Int) (w : World) : Calls Tryz.prog 124 #[.agg #[.int .i64 n]] w fun e w' => e = .returned (.agg #[.int .i64 1, .int .i64 n, .int .i64 0, .string ⟨#[]⟩, .slice none 0 0, .slice none 0 0, .slice none 0 0]) ∧ Below w.heap.size w w' := by
  go_enter Tryz.func124, Tryz.ntmps124
  go_wp2_with fail
  refine bodyPost_ret (v := .agg #[.int .i64 1, .int .i64 n, .int .i64 0, .string ⟨#[]⟩, .slice none 0 0, .slice none 0 0, .slice none 0 0]) (by simp [results, Tryz.results124, go_sem]) rfl ⟨rfl, ?_⟩
  repeat' (first | refine Below.setCell ?_ (by first | (simp; done) | (simp; omega) | omega) _ | refine Below.alloc ?_ (by first | (simp; done) | (simp; omega) | omega) _ | exact Below.refl _ _)
set_option maxHeartbeats 400000 in
set_option maxRecDepth 100000 in
theorem implNumberValue_any (n : Int) (w : World) : Calls Tryz.prog 67 #[.int .i64 n] w fun e w' => e = .returned (.agg #[.int .i64 1, .int .i64 n, .int .i64 0, .string ⟨#[]⟩, .slice none 0 0, .slice none 0 0, .slice none 0 0]) ∧ Below w.heap.size w w' := by
  go_enter Tryz.func67, Tryz.ntmps67
  go_wp2_with fail
  refine (implNumberValue_value n _).mono ?_
  rintro e w1 ⟨rfl, hb⟩
  have HB : Hid (Below w.heap.size w w1) := by
    refine Lib.hid (Below.trans ?_ (hb.mono ?_))
    · repeat' (first | refine Below.setCell ?_ (by first | (simp; done) | (simp; omega) | omega) _ | refine Below.alloc ?_ (by first | (simp; done) | (simp; omega) | omega) _ | exact Below.refl _ _)
    · simp
  obtain ⟨hc, hf⟩ := bcell hb
  have hz : w.heap.size < w1.heap.size := by have := hb.size; simp at this; omega
  clear hb
  go_wp2_with fail
  refine bodyPost_ret (v := .agg #[.int .i64 1, .int .i64 n, .int .i64 0, .string ⟨#[]⟩, .slice none 0 0, .slice none 0 0, .slice none 0 0]) (by simp [results, Tryz.results67, go_sem, *]) rfl ⟨rfl, ?_⟩
  repeat' (first | refine Below.setCell ?_ (by first | (simp; done) | (simp; omega) | omega) _ | refine Below.alloc ?_ (by first | (simp; done) | (simp; omega) | omega) _ | exact HB.out)
set_option maxHeartbeats 400000 in
set_option maxRecDepth 100000 in
theorem specTextValue_any (s : ByteArray) (w : World) : Calls Tryz.prog 89 #[.string s] w fun e w' => e = .returned (.agg #[.int .i64 2, .int .i64 0, .int .i64 0, .string s, .slice none 0 0, .slice none 0 0, .slice none 0 0]) ∧ Below w.heap.size w w' := by
  go_enter Tryz.func89, Tryz.ntmps89
  go_wp2_with fail
  refine bodyPost_ret (v := .agg #[.int .i64 2, .int .i64 0, .int .i64 0, .string s, .slice none 0 0, .slice none 0 0, .slice none 0 0]) (by simp [results, Tryz.results89, go_sem]) rfl ⟨rfl, ?_⟩
  repeat' (first | refine Below.setCell ?_ (by first | (simp; done) | (simp; omega) | omega) _ | refine Below.alloc ?_ (by first | (simp; done) | (simp; omega) | omega) _ | exact Below.refl _ _)
set_option maxHeartbeats 400000 in
set_option maxRecDepth 100000 in
theorem implTextValue_value (s : ByteArray) (w : World) : Calls Tryz.prog 122 #[.agg #[.string s]] w fun e w' => e = .returned (.agg #[.int .i64 2, .int .i64 0, .int .i64 0, .string s, .slice none 0 0, .slice none 0 0, .slice none 0 0]) ∧ Below w.heap.size w w' := by
  go_enter Tryz.func122, Tryz.ntmps122
  go_wp2_with fail
  refine bodyPost_ret (v := .agg #[.int .i64 2, .int .i64 0, .int .i64 0, .string s, .slice none 0 0, .slice none 0 0, .slice none 0 0]) (by simp [results, Tryz.results122, go_sem]) rfl ⟨rfl, ?_⟩
  repeat' (first | refine Below.setCell ?_ (by first | (simp; done) | (simp; omega) | omega) _ | refine Below.alloc ?_ (by first | (simp; done) | (simp; omega) | omega) _ | exact Below.refl _ _)
set_option maxHeartbeats 400000 in
set_option maxRecDepth 100000 in
theorem implTextValue_any (s : ByteArray) (w : World) : Calls Tryz.prog 65 #[.string s] w fun e w' => e = .returned (.agg #[.int .i64 2, .int .i64 0, .int .i64 0, .string s, .slice none 0 0, .slice none 0 0, .slice none 0 0]) ∧ Below w.heap.size w w' := by
  go_enter Tryz.func65, Tryz.ntmps65
  go_wp2_with fail
  refine (implTextValue_value s _).mono ?_
  rintro e w1 ⟨rfl, hb⟩
  have HB : Hid (Below w.heap.size w w1) := by
    refine Lib.hid (Below.trans ?_ (hb.mono ?_))
    · repeat' (first | refine Below.setCell ?_ (by first | (simp; done) | (simp; omega) | omega) _ | refine Below.alloc ?_ (by first | (simp; done) | (simp; omega) | omega) _ | exact Below.refl _ _)
    · simp
  obtain ⟨hc, hf⟩ := bcell hb
  have hz : w.heap.size < w1.heap.size := by have := hb.size; simp at this; omega
  clear hb
  go_wp2_with fail
  refine bodyPost_ret (v := .agg #[.int .i64 2, .int .i64 0, .int .i64 0, .string s, .slice none 0 0, .slice none 0 0, .slice none 0 0]) (by simp [results, Tryz.results65, go_sem, *]) rfl ⟨rfl, ?_⟩
  repeat' (first | refine Below.setCell ?_ (by first | (simp; done) | (simp; omega) | omega) _ | refine Below.alloc ?_ (by first | (simp; done) | (simp; omega) | omega) _ | exact HB.out)
set_option maxHeartbeats 400000 in
set_option maxRecDepth 100000 in
theorem specStreamValue_any (n m : Int) (w : World) : Calls Tryz.prog 107 #[.int .i64 n, .int .i64 m] w fun e w' => e = .returned (.agg #[.int .i64 4, .int .i64 n, .int .i64 m, .string ⟨#[]⟩, .slice none 0 0, .slice none 0 0, .slice none 0 0]) ∧ Below w.heap.size w w' := by
  go_enter Tryz.func107, Tryz.ntmps107
  go_wp2_with fail
  refine bodyPost_ret (v := .agg #[.int .i64 4, .int .i64 n, .int .i64 m, .string ⟨#[]⟩, .slice none 0 0, .slice none 0 0, .slice none 0 0]) (by simp [results, Tryz.results107, go_sem]) rfl ⟨rfl, ?_⟩
  repeat' (first | refine Below.setCell ?_ (by first | (simp; done) | (simp; omega) | omega) _ | refine Below.alloc ?_ (by first | (simp; done) | (simp; omega) | omega) _ | exact Below.refl _ _)
set_option maxHeartbeats 400000 in
set_option maxRecDepth 100000 in
theorem implStreamValue_value (n m : Int) (w : World) : Calls Tryz.prog 154 #[.agg #[.int .i64 n, .int .i64 m]] w fun e w' => e = .returned (.agg #[.int .i64 4, .int .i64 n, .int .i64 m, .string ⟨#[]⟩, .slice none 0 0, .slice none 0 0, .slice none 0 0]) ∧ Below w.heap.size w w' := by
  go_enter Tryz.func154, Tryz.ntmps154
  go_wp2_with fail
  refine bodyPost_ret (v := .agg #[.int .i64 4, .int .i64 n, .int .i64 m, .string ⟨#[]⟩, .slice none 0 0, .slice none 0 0, .slice none 0 0]) (by simp [results, Tryz.results154, go_sem]) rfl ⟨rfl, ?_⟩
  repeat' (first | refine Below.setCell ?_ (by first | (simp; done) | (simp; omega) | omega) _ | refine Below.alloc ?_ (by first | (simp; done) | (simp; omega) | omega) _ | exact Below.refl _ _)
set_option maxHeartbeats 400000 in
set_option maxRecDepth 100000 in
theorem implStreamValue_any (n m : Int) (w : World) : Calls Tryz.prog 116 #[.int .i64 n, .int .i64 m] w fun e w' => e = .returned (.agg #[.int .i64 4, .int .i64 n, .int .i64 m, .string ⟨#[]⟩, .slice none 0 0, .slice none 0 0, .slice none 0 0]) ∧ Below w.heap.size w w' := by
  go_enter Tryz.func116, Tryz.ntmps116
  go_wp2_with fail
  refine (implStreamValue_value n m _).mono ?_
  rintro e w1 ⟨rfl, hb⟩
  have HB : Hid (Below w.heap.size w w1) := by
    refine Lib.hid (Below.trans ?_ (hb.mono ?_))
    · repeat' (first | refine Below.setCell ?_ (by first | (simp; done) | (simp; omega) | omega) _ | refine Below.alloc ?_ (by first | (simp; done) | (simp; omega) | omega) _ | exact Below.refl _ _)
    · simp
  obtain ⟨hc, hf⟩ := bcell hb
  have hz : w.heap.size < w1.heap.size := by have := hb.size; simp at this; omega
  clear hb
  go_wp2_with fail
  refine bodyPost_ret (v := .agg #[.int .i64 4, .int .i64 n, .int .i64 m, .string ⟨#[]⟩, .slice none 0 0, .slice none 0 0, .slice none 0 0]) (by simp [results, Tryz.results116, go_sem, *]) rfl ⟨rfl, ?_⟩
  repeat' (first | refine Below.setCell ?_ (by first | (simp; done) | (simp; omega) | omega) _ | refine Below.alloc ?_ (by first | (simp; done) | (simp; omega) | omega) _ | exact HB.out)
set_option maxHeartbeats 400000 in
set_option maxRecDepth 100000 in
theorem specErrorValue_any (n : Int) (w : World) : Calls Tryz.prog 93 #[.int .i64 n] w fun e w' => e = .returned (.agg #[.int .i64 6, .int .i64 n, .int .i64 0, .string ⟨#[]⟩, .slice none 0 0, .slice none 0 0, .slice none 0 0]) ∧ Below w.heap.size w w' := by
  go_enter Tryz.func93, Tryz.ntmps93
  go_wp2_with fail
  refine bodyPost_ret (v := .agg #[.int .i64 6, .int .i64 n, .int .i64 0, .string ⟨#[]⟩, .slice none 0 0, .slice none 0 0, .slice none 0 0]) (by simp [results, Tryz.results93, go_sem]) rfl ⟨rfl, ?_⟩
  repeat' (first | refine Below.setCell ?_ (by first | (simp; done) | (simp; omega) | omega) _ | refine Below.alloc ?_ (by first | (simp; done) | (simp; omega) | omega) _ | exact Below.refl _ _)
set_option maxHeartbeats 400000 in
set_option maxRecDepth 100000 in
theorem implErrorValue_value (n : Int) (w : World) : Calls Tryz.prog 120 #[.agg #[.int .i64 n]] w fun e w' => e = .returned (.agg #[.int .i64 6, .int .i64 n, .int .i64 0, .string ⟨#[]⟩, .slice none 0 0, .slice none 0 0, .slice none 0 0]) ∧ Below w.heap.size w w' := by
  go_enter Tryz.func120, Tryz.ntmps120
  go_wp2_with fail
  refine bodyPost_ret (v := .agg #[.int .i64 6, .int .i64 n, .int .i64 0, .string ⟨#[]⟩, .slice none 0 0, .slice none 0 0, .slice none 0 0]) (by simp [results, Tryz.results120, go_sem]) rfl ⟨rfl, ?_⟩
  repeat' (first | refine Below.setCell ?_ (by first | (simp; done) | (simp; omega) | omega) _ | refine Below.alloc ?_ (by first | (simp; done) | (simp; omega) | omega) _ | exact Below.refl _ _)
set_option maxHeartbeats 400000 in
set_option maxRecDepth 100000 in
theorem implErrorValue_any (n : Int) (w : World) : Calls Tryz.prog 62 #[.int .i64 n] w fun e w' => e = .returned (.agg #[.int .i64 6, .int .i64 n, .int .i64 0, .string ⟨#[]⟩, .slice none 0 0, .slice none 0 0, .slice none 0 0]) ∧ Below w.heap.size w w' := by
  go_enter Tryz.func62, Tryz.ntmps62
  go_wp2_with fail
  refine (implErrorValue_value n _).mono ?_
  rintro e w1 ⟨rfl, hb⟩
  have HB : Hid (Below w.heap.size w w1) := by
    refine Lib.hid (Below.trans ?_ (hb.mono ?_))
    · repeat' (first | refine Below.setCell ?_ (by first | (simp; done) | (simp; omega) | omega) _ | refine Below.alloc ?_ (by first | (simp; done) | (simp; omega) | omega) _ | exact Below.refl _ _)
    · simp
  obtain ⟨hc, hf⟩ := bcell hb
  have hz : w.heap.size < w1.heap.size := by have := hb.size; simp at this; omega
  clear hb
  go_wp2_with fail
  refine bodyPost_ret (v := .agg #[.int .i64 6, .int .i64 n, .int .i64 0, .string ⟨#[]⟩, .slice none 0 0, .slice none 0 0, .slice none 0 0]) (by simp [results, Tryz.results62, go_sem, *]) rfl ⟨rfl, ?_⟩
  repeat' (first | refine Below.setCell ?_ (by first | (simp; done) | (simp; omega) | omega) _ | refine Below.alloc ?_ (by first | (simp; done) | (simp; omega) | omega) _ | exact HB.out)
end Go.Proofs.YtabcmnlmmpbmnaaGreatDoor

/-
  What a call holds while it builds: more steps.
-/

namespace Go.Proofs.YtabcmnlmmpbmnaaGreatDoor
open Go.RowKit
set_option linter.unusedVariables false

section
variable {w wx wy : World} {L M : List Asn}
theorem MSt.set7 {e : TypeId} {k b : Nat} {xs : List Value} (h : MSt w (boxA e k b xs :: L) wx) (us : List Value) (hu : us.length = k) : MSt w (boxA e k b us :: L) (wx.setCells b 0 us) := by
  refine ⟨h.objs.boxAll us hu h.size, ?_⟩
  have hb := (h.box.lt b rfl).1
  have hg := (own_setCells us 0 wx xs h.box).2
  exact h.bel.grown hg h.size fun k hk => by injection hk with hk; subst hk; exact hb
theorem MSt.pre (h : MSt w (M ++ L) wx) : MSt w M wx :=
  ⟨⟨fun x hx => h.1.1 x (List.mem_append.2 (.inl hx)), (List.pairwise_append.1 h.1.2).1⟩, h.2⟩
theorem MSt.first {a : Asn} (h : MSt w (a :: L) wx) : MSt w [a] wx := MSt.pre (M := [a]) h
theorem MSt.flat {d : Dt} {cs : List Value} (h : MSt w L wx) (ho : ∀ w', Ow w' d cs []) : MSt w (owA d cs [] :: L) wx :=
  h.alter fun o => o.cons ⟨⟨ho wx, by simp⟩, owA_loc _ _ _, fun b hb => by cases hb⟩ fun x hx k hk => by cases hk
theorem MSt.bare {a : Asn} (h : MSt w L wx) (hh : a.holds wx) (hl : a.Loc) (hf : ∀ b, ¬ a.foot b) : MSt w (a :: L) wx :=
  h.alter fun o => o.cons ⟨hh, hl, fun b hb => absurd hb (hf b)⟩ fun x hx k hk => absurd hk (hf k)
theorem MSt.noLst (h : MSt w L wx) : MSt w (owA (.lst []) [.slice none 0 0] [] :: L) wx := h.flat fun w' => Ow.nilLst w'
theorem MSt.noTrees (h : MSt w L wx) : MSt w (owLA [] [] [] :: L) wx :=
  h.bare ⟨by simp [OwL], by simp⟩ (owLA_loc _ _ _) (fun b hb => by cases hb)
/-- A draw behind a new cursor. -/
theorem MSt.drawn {wz : World} {B blk : Nat} (h : MSt w L wx) (hb : Below wx.heap.size wx wy) (hblk : wx.heap.size ≤ blk) (hD : DrSt wy B blk M wz) : MSt w (M ++ L) wz := by
  have hbel : Below wx.heap.size wx wz := below_of_cur hb hblk hD.grown
  refine h.trans ⟨⟨fun a ha => ?_, hD.objs.2⟩, hbel⟩
  have := hD.objs.1 a ha
  exact ⟨this.1, this.2.1, fun b hb' => ⟨Nat.le_trans hb.size (this.2.2 b hb').1, (this.2.2 b hb').2⟩⟩
/-- A value's lists put together. -/
theorem MSt.value (k n s : Int) (t : ByteArray) {l c r : List Dt} {v4 v5 v6 : Value} {f4 f5 f6 : List Nat} (h : MSt w (owA (.lst l) [v4] f4 :: owA (.lst c) [v5] f5 :: owA (.lst r) [v6] f6 :: L) wx) :
    MSt w (owA (.agg [.int k, .int n, .int s, .str t, .lst l, .lst c, .lst r]) [.int .i64 k, .int .i64 n, .int .i64 s, .string t, v4, v5, v6] (f4 ++ (f5 ++ f6)) :: L) wx :=
  h.alter fun o => owVal_join k n s t o
theorem MSt.list {v : Value} {l : List Dt} {f : List Nat} (h : MSt w (owA (.lst l) [v] f :: L) wx) : MSt w (owA (.agg [.int 3, .int 0, .int 0, .str ⟨#[]⟩, .lst l, .lst [], .lst []]) [.int .i64 3, .int .i64 0, .int .i64 0, .string ⟨#[]⟩, v, .slice none 0 0, .slice none 0 0] f :: L) wx :=
  h.alter fun o => owA_weak o fun w' h => ow_lst h
end
/-- Memory of the call's own read: nothing below it is touched. -/
theorem MSt.read {w wx : World} {L : List Asn} {d : Dt} {cs : List Value} {fp : List Nat} (h : MSt w (owA d cs fp :: L) wx) : Rd wx wx.heap.size d cs := h.objs.out.1.read
end Go.Proofs.YtabcmnlmmpbmnaaGreatDoor
