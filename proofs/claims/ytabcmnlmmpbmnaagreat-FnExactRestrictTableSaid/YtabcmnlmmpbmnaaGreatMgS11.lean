/-
  Texts that the proof rests on, put together: Stk2, MSt, MapA, MSt2, Put7, Same1.
-/
import Derived.Test.YtabcmnlmmpbmnaaGreatMgS10
import Derived.Test.YtabcmnlmmpbmnaaGreatMgS6
import Derived.Test.YtabcmnlmmpbmnaaGreatMgS5
import Derived.Test.YtabcmnlmmpbmnaaGreatMgS2
import Derived.Test.YtabcmnlmmpbmnaaGreatMgS7
import Derived.Test.YtabcmnlmmpbmnaaGreatMgS9
/-
  'append' onto owned slices of numbers, origins, rows and texts, from slices nil or not. (Written by gencopy.py.)
-/

namespace Go.Proofs.YtabcmnlmmpbmnaaGreat
open Go.RowKit
set_option linter.unusedVariables false

theorem wpI {o : Oper} {a : Act} {K : Act → World → Prop} {Q : Exit → Act → World → Prop} (w : World) (s x : Operand)
    (ho : o.op = .call { callee := .builtin .append, args := #[s, x], argTypes := #[97, 97] })
    (base : Nat) (v : Value) (n : Nat) (xs : List Value) (hs : a.eval s = v) (hown : w.ownsRow base 3 1 v n xs)
    (A : Option Addr) (m c B : Nat) (news : List Value) (hx : a.eval x = .slice A m c) (hl : news.length = m * 1) (hrow : RowOf w B A news) (h1 : ∀ u ∈ news, u.oneCell' = true)
    (hb : n + m ≤ 4194304) (hbase : base ≤ w.heap.size)
    (h : ∀ v' w', w'.ownsRow base 3 1 v' (n + m) (xs ++ news) → w.grownBy w' v.ownBlock → ((v' = .slice none 0 0 ↔ v = .slice none 0 0 ∧ m = 0) ∧ (v'.ownBlock = v.ownBlock ∨ v'.ownBlock = some w.heap.size)) → K (a.put o.dst v') w') : Oper.wp Tryz.prog o a w K Q := by
  obtain ⟨i0, hi, hz0, hz1, hz2⟩ := info_parts intInfoT
  exact wp_append_src w s x 97 ho base 3 i0 _ 1 8 Tryz.underlying97 hi hz0 hz1 hz2 rfl (by decide) v n xs hs hown A m c B news hx hl hrow h1 (by unfold maxLen; omega) (by omega) hbase h
theorem appI {ops : Array Oper} {rest : List Oper} {o : Oper} {a : Act} {Q : Exit → Act → World → Prop} (w : World) (hgd : o.guard = none) (s x : Operand)
    (ho : o.op = .call { callee := .builtin .append, args := #[s, x], argTypes := #[97, 97] })
    (base : Nat) (v : Value) (n : Nat) (xs : List Value) (hs : a.eval s = v) (hown : w.ownsRow base 3 1 v n xs)
    (A : Option Addr) (m c B : Nat) (news : List Value) (hx : a.eval x = .slice A m c) (hl : news.length = m * 1) (hrow : RowOf w B A news) (h1 : ∀ u ∈ news, u.oneCell' = true)
    (hb : n + m ≤ 4194304) (hbase : base ≤ w.heap.size)
    (h : ∀ v' w', w'.ownsRow base 3 1 v' (n + m) (xs ++ news) → w.grownBy w' v.ownBlock → ((v' = .slice none 0 0 ↔ v = .slice none 0 0 ∧ m = 0) ∧ (v'.ownBlock = v.ownBlock ∨ v'.ownBlock = some w.heap.size)) → wpList Tryz.prog ops Q rest (a.put o.dst v') w') : wpList Tryz.prog ops Q (o :: rest) a w :=
  wpList_plain hgd fun _ hK => wpI w s x ho base v n xs hs hown A m c B news hx hl hrow h1 hb hbase fun v' w' h2 h3 h4 => hK _ _ (h v' w' h2 h3 h4)
theorem stepI {ops : Array Oper} {o : Oper} {a : Act} {K : Act → World → Prop} {Q : Exit → Act → World → Prop} {E : Prop} (w : World) (hgd : o.guard = none) (s x : Operand)
    (ho : o.op = .call { callee := .builtin .append, args := #[s, x], argTypes := #[97, 97] })
    (base : Nat) (v : Value) (n : Nat) (xs : List Value) (hs : a.eval s = v) (hown : w.ownsRow base 3 1 v n xs)
    (A : Option Addr) (m c B : Nat) (news : List Value) (hx : a.eval x = .slice A m c) (hl : news.length = m * 1) (hrow : RowOf w B A news) (h1 : ∀ u ∈ news, u.oneCell' = true)
    (hb : n + m ≤ 4194304) (hbase : base ≤ w.heap.size)
    (h : ∀ v' w', w'.ownsRow base 3 1 v' (n + m) (xs ++ news) → w.grownBy w' v.ownBlock → ((v' = .slice none 0 0 ↔ v = .slice none 0 0 ∧ m = 0) ∧ (v'.ownBlock = v.ownBlock ∨ v'.ownBlock = some w.heap.size)) → K (a.put o.dst v') w') : if Region.wanted o (yielded ops a.tmps) = true then Oper.wp Tryz.prog o a w K Q else E := by
  have hw : Region.wanted o (yielded ops a.tmps) = true := by simp [Region.wanted, hgd]
  rw [if_pos hw]
  exact wpI w s x ho base v n xs hs hown A m c B news hx hl hrow h1 hb hbase h

theorem wpO {o : Oper} {a : Act} {K : Act → World → Prop} {Q : Exit → Act → World → Prop} (w : World) (s x : Operand)
    (ho : o.op = .call { callee := .builtin .append, args := #[s, x], argTypes := #[54, 54] })
    (base : Nat) (v : Value) (n : Nat) (xs : List Value) (hs : a.eval s = v) (hown : w.ownsRow base 96 2 v n xs)
    (A : Option Addr) (m c B : Nat) (news : List Value) (hx : a.eval x = .slice A m c) (hl : news.length = m * 2) (hrow : RowOf w B A news) (h1 : ∀ u ∈ news, u.oneCell' = true)
    (hb : n + m ≤ 4194304) (hbase : base ≤ w.heap.size)
    (h : ∀ v' w', w'.ownsRow base 96 2 v' (n + m) (xs ++ news) → w.grownBy w' v.ownBlock → ((v' = .slice none 0 0 ↔ v = .slice none 0 0 ∧ m = 0) ∧ (v'.ownBlock = v.ownBlock ∨ v'.ownBlock = some w.heap.size)) → K (a.put o.dst v') w') : Oper.wp Tryz.prog o a w K Q := by
  obtain ⟨i0, hi, hz0, hz1, hz2⟩ := info_parts OriginInfo
  exact wp_append_src w s x 54 ho base 96 i0 _ 2 16 Tryz.underlying54 hi hz0 hz1 hz2 rfl (by decide) v n xs hs hown A m c B news hx hl hrow h1 (by unfold maxLen; omega) (by omega) hbase h
theorem appO {ops : Array Oper} {rest : List Oper} {o : Oper} {a : Act} {Q : Exit → Act → World → Prop} (w : World) (hgd : o.guard = none) (s x : Operand)
    (ho : o.op = .call { callee := .builtin .append, args := #[s, x], argTypes := #[54, 54] })
    (base : Nat) (v : Value) (n : Nat) (xs : List Value) (hs : a.eval s = v) (hown : w.ownsRow base 96 2 v n xs)
    (A : Option Addr) (m c B : Nat) (news : List Value) (hx : a.eval x = .slice A m c) (hl : news.length = m * 2) (hrow : RowOf w B A news) (h1 : ∀ u ∈ news, u.oneCell' = true)
    (hb : n + m ≤ 4194304) (hbase : base ≤ w.heap.size)
    (h : ∀ v' w', w'.ownsRow base 96 2 v' (n + m) (xs ++ news) → w.grownBy w' v.ownBlock → ((v' = .slice none 0 0 ↔ v = .slice none 0 0 ∧ m = 0) ∧ (v'.ownBlock = v.ownBlock ∨ v'.ownBlock = some w.heap.size)) → wpList Tryz.prog ops Q rest (a.put o.dst v') w') : wpList Tryz.prog ops Q (o :: rest) a w :=
  wpList_plain hgd fun _ hK => wpO w s x ho base v n xs hs hown A m c B news hx hl hrow h1 hb hbase fun v' w' h2 h3 h4 => hK _ _ (h v' w' h2 h3 h4)
theorem stepO {ops : Array Oper} {o : Oper} {a : Act} {K : Act → World → Prop} {Q : Exit → Act → World → Prop} {E : Prop} (w : World) (hgd : o.guard = none) (s x : Operand)
    (ho : o.op = .call { callee := .builtin .append, args := #[s, x], argTypes := #[54, 54] })
    (base : Nat) (v : Value) (n : Nat) (xs : List Value) (hs : a.eval s = v) (hown : w.ownsRow base 96 2 v n xs)
    (A : Option Addr) (m c B : Nat) (news : List Value) (hx : a.eval x = .slice A m c) (hl : news.length = m * 2) (hrow : RowOf w B A news) (h1 : ∀ u ∈ news, u.oneCell' = true)
    (hb : n + m ≤ 4194304) (hbase : base ≤ w.heap.size)
    (h : ∀ v' w', w'.ownsRow base 96 2 v' (n + m) (xs ++ news) → w.grownBy w' v.ownBlock → ((v' = .slice none 0 0 ↔ v = .slice none 0 0 ∧ m = 0) ∧ (v'.ownBlock = v.ownBlock ∨ v'.ownBlock = some w.heap.size)) → K (a.put o.dst v') w') : if Region.wanted o (yielded ops a.tmps) = true then Oper.wp Tryz.prog o a w K Q else E := by
  have hw : Region.wanted o (yielded ops a.tmps) = true := by simp [Region.wanted, hgd]
  rw [if_pos hw]
  exact wpO w s x ho base v n xs hs hown A m c B news hx hl hrow h1 hb hbase h

theorem wpR {o : Oper} {a : Act} {K : Act → World → Prop} {Q : Exit → Act → World → Prop} (w : World) (s x : Operand)
    (ho : o.op = .call { callee := .builtin .append, args := #[s, x], argTypes := #[26, 26] })
    (base : Nat) (v : Value) (n : Nat) (xs : List Value) (hs : a.eval s = v) (hown : w.ownsRow base 99 2 v n xs)
    (A : Option Addr) (m c B : Nat) (news : List Value) (hx : a.eval x = .slice A m c) (hl : news.length = m * 2) (hrow : RowOf w B A news) (h1 : ∀ u ∈ news, u.oneCell' = true)
    (hb : n + m ≤ 4194304) (hbase : base ≤ w.heap.size)
    (h : ∀ v' w', w'.ownsRow base 99 2 v' (n + m) (xs ++ news) → w.grownBy w' v.ownBlock → ((v' = .slice none 0 0 ↔ v = .slice none 0 0 ∧ m = 0) ∧ (v'.ownBlock = v.ownBlock ∨ v'.ownBlock = some w.heap.size)) → K (a.put o.dst v') w') : Oper.wp Tryz.prog o a w K Q := by
  obtain ⟨i0, hi, hz0, hz1, hz2⟩ := info_parts RowInfo
  exact wp_append_src w s x 26 ho base 99 i0 _ 2 48 Tryz.underlying26 hi hz0 hz1 hz2 rfl (by decide) v n xs hs hown A m c B news hx hl hrow h1 (by unfold maxLen; omega) (by omega) hbase h
theorem appR {ops : Array Oper} {rest : List Oper} {o : Oper} {a : Act} {Q : Exit → Act → World → Prop} (w : World) (hgd : o.guard = none) (s x : Operand)
    (ho : o.op = .call { callee := .builtin .append, args := #[s, x], argTypes := #[26, 26] })
    (base : Nat) (v : Value) (n : Nat) (xs : List Value) (hs : a.eval s = v) (hown : w.ownsRow base 99 2 v n xs)
    (A : Option Addr) (m c B : Nat) (news : List Value) (hx : a.eval x = .slice A m c) (hl : news.length = m * 2) (hrow : RowOf w B A news) (h1 : ∀ u ∈ news, u.oneCell' = true)
    (hb : n + m ≤ 4194304) (hbase : base ≤ w.heap.size)
    (h : ∀ v' w', w'.ownsRow base 99 2 v' (n + m) (xs ++ news) → w.grownBy w' v.ownBlock → ((v' = .slice none 0 0 ↔ v = .slice none 0 0 ∧ m = 0) ∧ (v'.ownBlock = v.ownBlock ∨ v'.ownBlock = some w.heap.size)) → wpList Tryz.prog ops Q rest (a.put o.dst v') w') : wpList Tryz.prog ops Q (o :: rest) a w :=
  wpList_plain hgd fun _ hK => wpR w s x ho base v n xs hs hown A m c B news hx hl hrow h1 hb hbase fun v' w' h2 h3 h4 => hK _ _ (h v' w' h2 h3 h4)
theorem stepR {ops : Array Oper} {o : Oper} {a : Act} {K : Act → World → Prop} {Q : Exit → Act → World → Prop} {E : Prop} (w : World) (hgd : o.guard = none) (s x : Operand)
    (ho : o.op = .call { callee := .builtin .append, args := #[s, x], argTypes := #[26, 26] })
    (base : Nat) (v : Value) (n : Nat) (xs : List Value) (hs : a.eval s = v) (hown : w.ownsRow base 99 2 v n xs)
    (A : Option Addr) (m c B : Nat) (news : List Value) (hx : a.eval x = .slice A m c) (hl : news.length = m * 2) (hrow : RowOf w B A news) (h1 : ∀ u ∈ news, u.oneCell' = true)
    (hb : n + m ≤ 4194304) (hbase : base ≤ w.heap.size)
    (h : ∀ v' w', w'.ownsRow base 99 2 v' (n + m) (xs ++ news) → w.grownBy w' v.ownBlock → ((v' = .slice none 0 0 ↔ v = .slice none 0 0 ∧ m = 0) ∧ (v'.ownBlock = v.ownBlock ∨ v'.ownBlock = some w.heap.size)) → K (a.put o.dst v') w') : if Region.wanted o (yielded ops a.tmps) = true then Oper.wp Tryz.prog o a w K Q else E := by
  have hw : Region.wanted o (yielded ops a.tmps) = true := by simp [Region.wanted, hgd]
  rw [if_pos hw]
  exact wpR w s x ho base v n xs hs hown A m c B news hx hl hrow h1 hb hbase h

theorem wpT {o : Oper} {a : Act} {K : Act → World → Prop} {Q : Exit → Act → World → Prop} (w : World) (s x : Operand)
    (ho : o.op = .call { callee := .builtin .append, args := #[s, x], argTypes := #[25, 25] })
    (base : Nat) (v : Value) (n : Nat) (xs : List Value) (hs : a.eval s = v) (hown : w.ownsRow base 9 1 v n xs)
    (A : Option Addr) (m c B : Nat) (news : List Value) (hx : a.eval x = .slice A m c) (hl : news.length = m * 1) (hrow : RowOf w B A news) (h1 : ∀ u ∈ news, u.oneCell' = true)
    (hb : n + m ≤ 4194304) (hbase : base ≤ w.heap.size)
    (h : ∀ v' w', w'.ownsRow base 9 1 v' (n + m) (xs ++ news) → w.grownBy w' v.ownBlock → ((v' = .slice none 0 0 ↔ v = .slice none 0 0 ∧ m = 0) ∧ (v'.ownBlock = v.ownBlock ∨ v'.ownBlock = some w.heap.size)) → K (a.put o.dst v') w') : Oper.wp Tryz.prog o a w K Q := by
  obtain ⟨i0, hi, hz0, hz1, hz2⟩ := info_parts stringInfoT
  exact wp_append_src w s x 25 ho base 9 i0 _ 1 16 Tryz.underlying25 hi hz0 hz1 hz2 rfl (by decide) v n xs hs hown A m c B news hx hl hrow h1 (by unfold maxLen; omega) (by omega) hbase h
theorem appT {ops : Array Oper} {rest : List Oper} {o : Oper} {a : Act} {Q : Exit → Act → World → Prop} (w : World) (hgd : o.guard = none) (s x : Operand)
    (ho : o.op = .call { callee := .builtin .append, args := #[s, x], argTypes := #[25, 25] })
    (base : Nat) (v : Value) (n : Nat) (xs : List Value) (hs : a.eval s = v) (hown : w.ownsRow base 9 1 v n xs)
    (A : Option Addr) (m c B : Nat) (news : List Value) (hx : a.eval x = .slice A m c) (hl : news.length = m * 1) (hrow : RowOf w B A news) (h1 : ∀ u ∈ news, u.oneCell' = true)
    (hb : n + m ≤ 4194304) (hbase : base ≤ w.heap.size)
    (h : ∀ v' w', w'.ownsRow base 9 1 v' (n + m) (xs ++ news) → w.grownBy w' v.ownBlock → ((v' = .slice none 0 0 ↔ v = .slice none 0 0 ∧ m = 0) ∧ (v'.ownBlock = v.ownBlock ∨ v'.ownBlock = some w.heap.size)) → wpList Tryz.prog ops Q rest (a.put o.dst v') w') : wpList Tryz.prog ops Q (o :: rest) a w :=
  wpList_plain hgd fun _ hK => wpT w s x ho base v n xs hs hown A m c B news hx hl hrow h1 hb hbase fun v' w' h2 h3 h4 => hK _ _ (h v' w' h2 h3 h4)
theorem stepT {ops : Array Oper} {o : Oper} {a : Act} {K : Act → World → Prop} {Q : Exit → Act → World → Prop} {E : Prop} (w : World) (hgd : o.guard = none) (s x : Operand)
    (ho : o.op = .call { callee := .builtin .append, args := #[s, x], argTypes := #[25, 25] })
    (base : Nat) (v : Value) (n : Nat) (xs : List Value) (hs : a.eval s = v) (hown : w.ownsRow base 9 1 v n xs)
    (A : Option Addr) (m c B : Nat) (news : List Value) (hx : a.eval x = .slice A m c) (hl : news.length = m * 1) (hrow : RowOf w B A news) (h1 : ∀ u ∈ news, u.oneCell' = true)
    (hb : n + m ≤ 4194304) (hbase : base ≤ w.heap.size)
    (h : ∀ v' w', w'.ownsRow base 9 1 v' (n + m) (xs ++ news) → w.grownBy w' v.ownBlock → ((v' = .slice none 0 0 ↔ v = .slice none 0 0 ∧ m = 0) ∧ (v'.ownBlock = v.ownBlock ∨ v'.ownBlock = some w.heap.size)) → K (a.put o.dst v') w') : if Region.wanted o (yielded ops a.tmps) = true then Oper.wp Tryz.prog o a w K Q else E := by
  have hw : Region.wanted o (yielded ops a.tmps) = true := by simp [Region.wanted, hgd]
  rw [if_pos hw]
  exact wpT w s x ho base v n xs hs hown A m c B news hx hl hrow h1 hb hbase h

end Go.Proofs.YtabcmnlmmpbmnaaGreat

/-
  What a call holds while it builds: things of its own, and that all else stays.
-/

namespace Go.Proofs.YtabcmnlmmpbmnaaGreat
open Go.RowKit
set_option linter.unusedVariables false

def MSt (w : World) (L : List Asn) (wx : World) : Prop := Objs w.heap.size wx L ∧ Below w.heap.size w wx
section
variable {w wx wy : World} {L L' M : List Asn}
theorem MSt.start (w : World) : MSt w [] w := ⟨Objs.nil _ _, Below.refl _ _⟩
theorem MSt.bel (h : MSt w L wx) : Below w.heap.size w wx := h.2
theorem MSt.size (h : MSt w L wx) : w.heap.size ≤ wx.heap.size := h.2.size
theorem MSt.objs (h : MSt w L wx) : Objs w.heap.size wx L := h.1
theorem MSt.alter (h : MSt w L wx) (hp : Objs w.heap.size wx L → Objs w.heap.size wx L') : MSt w L' wx := ⟨hp h.1, h.2⟩
theorem MSt.later (h : MSt w L wx) (hb : Below wx.heap.size wx wy) : MSt w L wy := ⟨h.1.below hb, h.2.trans (hb.mono h.2.size)⟩
theorem MSt.add {a : Asn} (h : MSt w L wx) (hb : Below wx.heap.size wx wy) (ha : a.At wx.heap.size wy) : MSt w (a :: L) wy := ⟨h.1.add hb h.2.size ha, h.2.trans (hb.mono h.2.size)⟩
/-- What a call within the call has built is added. -/
theorem MSt.trans (h : MSt w L wx) (h2 : MSt wx M wy) : MSt w (M ++ L) wy := by
  have h1 := h.later h2.2
  refine ⟨⟨fun a ha => ?_, List.pairwise_append.2 ⟨h2.1.2, h1.1.2, fun a ha b hb k hk hk' => ?_⟩⟩, h1.2⟩
  · rcases List.mem_append.1 ha with ha | ha
    · have := h2.1.1 a ha
      exact ⟨this.1, this.2.1, fun b hb => ⟨Nat.le_trans h.size (this.2.2 b hb).1, (this.2.2 b hb).2⟩⟩
    · exact h1.1.1 a ha
  · have e1 := ((h2.1.1 a ha).2.2 k hk).1
    have e2 := ((h.1.1 b hb).2.2 k hk').2
    omega
theorem MSt.perm (h : MSt w L wx) (hp : L.Perm L') : MSt w L' wx := h.alter fun o => o.perm hp
theorem MSt.nth {a : Asn} {L1 L2 : List Asn} (h : MSt w (L1 ++ a :: L2) wx) : MSt w (a :: (L1 ++ L2)) wx := h.perm List.perm_middle
theorem MSt.swap {a b : Asn} (h : MSt w (a :: b :: L) wx) : MSt w (b :: a :: L) wx := h.alter Objs.swap
theorem MSt.drop {a : Asn} (h : MSt w (a :: L) wx) : MSt w L wx := h.alter Objs.tail
theorem MSt.app {e : TypeId} {k n n' base : Nat} {v v' : Value} {xs xs' : List Value} (h : MSt w (rowA e k v n xs :: L) wx) (hg : wx.grownBy wy v.ownBlock) (ho : wy.ownsRow base e k v' n' xs')
    (hb : v'.ownBlock = v.ownBlock ∨ v'.ownBlock = some wx.heap.size) : MSt w (rowA e k v' n' xs' :: L) wy :=
  ⟨h.1.app hg ho hb h.2.size, Below.grown h.2 hg h.2.size fun k hk => (h.1.rowAt.lt k hk).1⟩
theorem MSt.row {e : TypeId} {k n : Nat} {v : Value} {xs : List Value} (h : MSt w (rowA e k v n xs :: L) wx) : wx.ownsRow w.heap.size e k v n xs := Objs.rowAt h.1
theorem MSt.box {e : TypeId} {k g : Nat} {xs : List Value} (h : MSt w (boxA e k g xs :: L) wx) : wx.ownsRow w.heap.size e k (.slice (some ⟨g, 0, none⟩) 1 1) 1 xs := h.1.rowAt
theorem MSt.set1 {e : TypeId} {k b : Nat} {xs : List Value} (h : MSt w (boxA e k b xs :: L) wx) (p : Nat) (u : Value) : MSt w (boxA e k b (xs.set p u) :: L) (wx.setCell ⟨b, p, none⟩ u) :=
  ⟨h.1.boxSet1 p u h.2.size, h.2.setCell (h.box.lt b rfl).1 _⟩
theorem MSt.alloc (h : MSt w L wx) (o : Obj) : MSt w L (wx.alloc o) := h.later ((Below.refl _ _).alloc (Nat.le_refl _) _)
theorem MSt.drew (h : MSt w L wx) : MSt w L wx.drew := h.later (Below.refl _ _).drew
theorem MSt.drewN (h : MSt w L wx) (n : Nat) : MSt w L (wx.drewN n) := h.later (below_drewN (Below.refl _ _) n)
theorem MSt.new (h : MSt w L wx) (e : TypeId) (k : Nat) (cs : Array Value) (hk : cs.size = k) : MSt w (boxA e k wx.heap.size cs.toList :: L) (wx.alloc (.cells cs e)) :=
  ⟨h.1.new h.2.size e k cs hk, h.2.alloc h.2.size _⟩
theorem MSt.lit (h : MSt w L wx) (e : TypeId) (k : Nat) : MSt w (rowA e k (.slice (some ⟨wx.heap.size, 0, none⟩) 0 0) 0 [] :: L) (wx.alloc (.cells #[] e)) :=
  ⟨h.1.lit h.2.size e k rfl, h.2.alloc h.2.size _⟩
theorem MSt.nilRow (h : MSt w L wx) (e : TypeId) (k : Nat) : MSt w (rowA e k (.slice none 0 0) 0 [] :: owLA [] [] [] :: L) wx := h.alter fun o => o.nilRow e k
theorem MSt.nilRow0 (h : MSt w L wx) (e : TypeId) (k : Nat) : MSt w (rowA e k (.slice none 0 0) 0 [] :: L) wx := h.alter fun o => (o.nilRow e k).swap.tail
theorem MSt.push {r : Asn} {d : Dt} {xs : List Dt} {c cs : List Value} {f fp : List Nat} (h : MSt w (r :: owA d c f :: owLA xs cs fp :: L) wx) : MSt w (r :: owLA (xs ++ [d]) (cs ++ c) (fp ++ f) :: L) wx :=
  h.alter fun hM => (Objs.push (Objs.perm hM ((List.reverse_perm [owLA xs cs fp, owA d c f, r]).append_right L))).swap
theorem MSt.close {e : TypeId} {k n : Nat} {v : Value} {xs : List Dt} {cells : List Value} {fp : List Nat} (h : MSt w (rowA e k v n cells :: owLA xs cells fp :: L) wx) (hn : n = xs.length) : MSt w (owA (.lst xs) [v] (v.ownBlock.toList ++ fp) :: L) wx :=
  h.alter fun hM => Objs.close hM hn
theorem MSt.close0 {e : TypeId} {k n : Nat} {v : Value} {xs : List Dt} {cells : List Value} (h : MSt w (rowA e k v n cells :: L) wx) (ho : ∀ w', OwL w' xs cells []) (hn : n = xs.length) : MSt w (owA (.lst xs) [v] v.ownBlock.toList :: L) wx :=
  h.alter fun hM => hM.close0 ho hn
end

/-! ### values put together -/
theorem owA_weak {w : World} {B : Nat} {L : List Asn} {d d' : Dt} {c c' : List Value} {f : List Nat} (h : Objs B w (owA d c f :: L)) (hh : ∀ w', Ow w' d c f → Ow w' d' c' f) : Objs B w (owA d' c' f :: L) :=
  h.weak (fun h => ⟨hh _ h.1, h.2⟩) (owA_loc _ _ _) (fun _ h => h)
/-- A value of flat parts. -/
def flatV (k n s : Int) (t : ByteArray) : List Value := [.int .i64 k, .int .i64 n, .int .i64 s, .string t, .slice none 0 0, .slice none 0 0, .slice none 0 0]
theorem ow_flat (w : World) (k n s : Int) (t : ByteArray) : Ow w (.agg [.int k, .int n, .int s, .str t, .lst [], .lst [], .lst []]) (flatV k n s t) [] := by
  simp only [Ow, OwL]
  have hn := Ow.nilLst w
  simp only [Ow] at hn
  exact ⟨[_], _, [], [], rfl, rfl, ⟨rfl, rfl⟩, [_], _, [], [], rfl, rfl, ⟨rfl, rfl⟩, [_], _, [], [], rfl, rfl, ⟨rfl, rfl⟩, [_], _, [], [], rfl, rfl, ⟨rfl, rfl⟩, [_], _, [], [], rfl, rfl, hn, [_], _, [], [], rfl, rfl, hn, [_], _, [], [], rfl, rfl, hn, rfl, rfl⟩
theorem ow_lst {w : World} {l : List Dt} {v : Value} {f : List Nat} (h : Ow w (.lst l) [v] f) : Ow w (.agg [.int 3, .int 0, .int 0, .str ⟨#[]⟩, .lst l, .lst [], .lst []]) [.int .i64 3, .int .i64 0, .int .i64 0, .string ⟨#[]⟩, v, .slice none 0 0, .slice none 0 0] f := by
  have hn := Ow.nilLst w
  simp only [Ow] at h hn
  simp only [Ow, OwL]
  exact ⟨[_], _, [], f, rfl, rfl, ⟨rfl, rfl⟩, [_], _, [], f, rfl, rfl, ⟨rfl, rfl⟩, [_], _, [], f, rfl, rfl, ⟨rfl, rfl⟩, [_], _, [], f, rfl, rfl, ⟨rfl, rfl⟩, [v], _, f, [], rfl, by simp, h, [_], _, [], [], rfl, rfl, hn, [_], _, [], [], rfl, rfl, hn, rfl, rfl⟩
end Go.Proofs.YtabcmnlmmpbmnaaGreat

/-
  A map that the call made, its elements any values whatever, as a thing of the call's own.
-/

namespace Go.Proofs.YtabcmnlmmpbmnaaGreat
open Go.RowKit Go.Maps
set_option linter.unusedVariables false

def hR (v : Value) : Option (DataW Value × List MemPlace) := some (.held v, [])
/-- Block b is a map that reads as D. -/
def mapA (k : TypeId) (b n : Nat) (D : DataW Value) : Asn := ⟨fun w => w.ownsMap Tryz.prog k hR b n D, fun x => x = b⟩
theorem mapA_loc (k : TypeId) (b n : Nat) (D : DataW Value) : (mapA k b n D).Loc := fun w w' h hk => by
  obtain ⟨es, clock, hb, r⟩ := h
  exact ⟨es, clock, (hk b rfl).trans hb, r⟩
theorem MSt.made {w wx : World} {L : List Asn} (h : MSt w L wx) (k : TypeId) : MSt w (mapA k wx.heap.size 0 (.map []) :: L) (wx.alloc (.map #[] 0)) :=
  h.add ((Below.refl _ _).alloc (Nat.le_refl _) _) ⟨World.ownsMap_made wx _ _ _, mapA_loc _ _ _ _, fun b hb => by
    have hb : b = wx.heap.size := hb
    subst hb
    exact ⟨Nat.le_refl _, by simp⟩⟩
theorem MSt.map {w wx : World} {L : List Asn} {k : TypeId} {b n : Nat} {D : DataW Value} (h : MSt w (mapA k b n D :: L) wx) : wx.ownsMap Tryz.prog k hR b n D := h.1.head
variable {ops : Array Oper} {rest : List Oper} {o : Oper} {a : Act} {Q : Exit → Act → World → Prop}

end Go.Proofs.YtabcmnlmmpbmnaaGreat

/-
  What a call holds while it builds: more steps.
-/

namespace Go.Proofs.YtabcmnlmmpbmnaaGreat
open Go.RowKit
set_option linter.unusedVariables false

section
variable {w wx wy : World} {L M : List Asn}
theorem MSt.set7 {e : TypeId} {k b : Nat} {xs : List Value} (h : MSt w (boxA e k b xs :: L) wx) (us : List Value) (hu : us.length = k) : MSt w (boxA e k b us :: L) (wx.setCells b 0 us) := by
  refine ⟨h.objs.boxAll us hu h.size, ?_⟩
  have hb := (h.box.lt b rfl).1
  have hg := (own_setCells us 0 wx xs h.box).2
  exact h.bel.grown hg h.size fun k hk => by injection hk with hk; subst hk; exact hb
theorem MSt.pre (h : MSt w (M ++ L) wx) : MSt w M wx :=
  ⟨⟨fun x hx => h.1.1 x (List.mem_append.2 (.inl hx)), (List.pairwise_append.1 h.1.2).1⟩, h.2⟩
theorem MSt.first {a : Asn} (h : MSt w (a :: L) wx) : MSt w [a] wx := MSt.pre (M := [a]) h
theorem MSt.flat {d : Dt} {cs : List Value} (h : MSt w L wx) (ho : ∀ w', Ow w' d cs []) : MSt w (owA d cs [] :: L) wx :=
  h.alter fun o => o.cons ⟨⟨ho wx, by simp⟩, owA_loc _ _ _, fun b hb => by cases hb⟩ fun x hx k hk => by cases hk
theorem MSt.bare {a : Asn} (h : MSt w L wx) (hh : a.holds wx) (hl : a.Loc) (hf : ∀ b, ¬ a.foot b) : MSt w (a :: L) wx :=
  h.alter fun o => o.cons ⟨hh, hl, fun b hb => absurd hb (hf b)⟩ fun x hx k hk => absurd hk (hf k)
theorem MSt.noLst (h : MSt w L wx) : MSt w (owA (.lst []) [.slice none 0 0] [] :: L) wx := h.flat fun w' => Ow.nilLst w'
/-- A draw behind a new cursor. -/
theorem MSt.drawn {wz : World} {B blk : Nat} (h : MSt w L wx) (hb : Below wx.heap.size wx wy) (hblk : wx.heap.size ≤ blk) (hD : DrSt wy B blk M wz) : MSt w (M ++ L) wz := by
  have hbel : Below wx.heap.size wx wz := below_of_cur hb hblk hD.grown
  refine h.trans ⟨⟨fun a ha => ?_, hD.objs.2⟩, hbel⟩
  have := hD.objs.1 a ha
  exact ⟨this.1, this.2.1, fun b hb' => ⟨Nat.le_trans hb.size (this.2.2 b hb').1, (this.2.2 b hb').2⟩⟩
/-- A value's lists put together. -/
theorem MSt.value (k n s : Int) (t : ByteArray) {l c r : List Dt} {v4 v5 v6 : Value} {f4 f5 f6 : List Nat} (h : MSt w (owA (.lst l) [v4] f4 :: owA (.lst c) [v5] f5 :: owA (.lst r) [v6] f6 :: L) wx) :
    MSt w (owA (.agg [.int k, .int n, .int s, .str t, .lst l, .lst c, .lst r]) [.int .i64 k, .int .i64 n, .int .i64 s, .string t, v4, v5, v6] (f4 ++ (f5 ++ f6)) :: L) wx :=
  h.alter fun o => owVal_join k n s t o
theorem MSt.list {v : Value} {l : List Dt} {f : List Nat} (h : MSt w (owA (.lst l) [v] f :: L) wx) : MSt w (owA (.agg [.int 3, .int 0, .int 0, .str ⟨#[]⟩, .lst l, .lst [], .lst []]) [.int .i64 3, .int .i64 0, .int .i64 0, .string ⟨#[]⟩, v, .slice none 0 0, .slice none 0 0] f :: L) wx :=
  h.alter fun o => owA_weak o fun w' h => ow_lst h
end
/-- Memory of the call's own read: nothing below it is touched. -/
theorem MSt.read {w wx : World} {L : List Asn} {d : Dt} {cs : List Value} {fp : List Nat} (h : MSt w (owA d cs fp :: L) wx) : Rd wx wx.heap.size d cs := h.objs.out.1.read
end Go.Proofs.YtabcmnlmmpbmnaaGreat

/-
  A value stored into a box, cell by cell, and what lies there then.
-/

namespace Go.Proofs.YtabcmnlmmpbmnaaGreat
open Go.RowKit
set_option linter.unusedVariables false

theorem MSt.put {w wx : World} {L : List Asn} {e : TypeId} {b : Nat} {xs : List Value} (h : MSt w (boxA e 7 b xs :: L) wx) (u0 u1 u2 u3 u4 u5 u6 : Value) :
    ∃ W7, W7 = ((((((wx.setCell ⟨b, 0, none⟩ u0).setCell ⟨b, 1, none⟩ u1).setCell ⟨b, 2, none⟩ u2).setCell ⟨b, 3, none⟩ u3).setCell ⟨b, 4, none⟩ u4).setCell ⟨b, 5, none⟩ u5).setCell ⟨b, 6, none⟩ u6 ∧
      MSt w (boxA e 7 b [u0, u1, u2, u3, u4, u5, u6] :: L) W7 ∧ W7.cell? ⟨b, 0, none⟩ = some u0 ∧ W7.cell? ⟨b, 1, none⟩ = some u1 ∧ W7.cell? ⟨b, 2, none⟩ = some u2 ∧ W7.cell? ⟨b, 3, none⟩ = some u3 ∧ W7.cell? ⟨b, 4, none⟩ = some u4 ∧ W7.cell? ⟨b, 5, none⟩ = some u5 ∧ W7.cell? ⟨b, 6, none⟩ = some u6 := by
  have hg := h.set7 [u0, u1, u2, u3, u4, u5, u6] rfl
  simp only [World.setCells, Nat.zero_add, Nat.reduceAdd] at hg
  obtain ⟨z0, z1, z2, z3, z4, z5, z6, _⟩ := box7 hg.box
  exact ⟨_, rfl, hg, z0, z1, z2, z3, z4, z5, z6⟩
theorem toA_flat0 {w w' : World} {e : Ending} {k n : Int} {t : ByteArray} (he : e = .returned (.agg #[.int .i64 k, .int .i64 n, .int .i64 0, .string t, .slice none 0 0, .slice none 0 0, .slice none 0 0])) (hb : Below w.heap.size w w') : ToA w (.agg [.int k, .int n, .int 0, .str t, .lst [], .lst [], .lst []]) e w' :=
  ⟨[.int .i64 k, .int .i64 n, .int .i64 0, .string t, .slice none 0 0, .slice none 0 0, .slice none 0 0], [], he, ow_flat w' k n 0 t, New.nil _, hb⟩
/-- An owned tree that the call gives away. -/
theorem MSt.give {w wx : World} {L : List Asn} {d : Dt} {cs : List Value} {fp : List Nat} (h : MSt w (owA d cs fp :: L) wx) : ToA w d (.returned (.agg cs.toArray)) wx :=
  ⟨cs, fp, rfl, h.objs.out.1, h.objs.out.2, h.bel⟩
/-- Fewer things, in their order. -/
theorem MSt.subB {w wx : World} {L M : List Asn} (h : MSt w L wx) (hs : M.Sublist L) : MSt w M wx :=
  ⟨⟨fun x hx => h.1.1 x (hs.subset hx), h.1.2.sublist hs⟩, h.2⟩
end Go.Proofs.YtabcmnlmmpbmnaaGreat

/-
  Comparisons of slices of numbers, texts and origins: slices.Equal of each, and the model's. (Written by gensame.py.)
-/

namespace Go.Proofs.YtabcmnlmmpbmnaaGreat
open Go.RowKit
set_option linter.unusedVariables false

/-- A comparison's answer, where nothing is changed. -/
def EqQ (P : Prop) (w : World) (e : Ending) (w' : World) : Prop := ∃ b : Bool, e = .returned (.bool b) ∧ (b = true ↔ P) ∧ ∃ n, w' = w.drewN n
theorem EqQ.p {P : Prop} {w : World} (e : Ending) (w' : World) (h : EqQ P w e w') : EqP P w e w' := by
  obtain ⟨b, h1, h2, n, rfl⟩ := h
  exact ⟨b, h1, h2, below_drewN (Below.refl _ _) n⟩
theorem EqQ.no {P : Prop} {w : World} (hP : ¬ P) (e : Ending) (w' : World) (h : EqQ P w e w') : e = .returned (.bool false) ∧ ∃ n, w' = w.drewN n := by
  obtain ⟨b, rfl, h2, n, rfl⟩ := h
  cases b with
  | false => exact ⟨rfl, n, rfl⟩
  | true => exact absurd (h2.1 rfl) hP
set_option maxHeartbeats 800000 in
set_option maxRecDepth 100000 in
theorem slEqInt_q (A A' : Option Addr) (c c' : Nat) (ss ts : List Int) (B : Nat) (w : World) (h : RowOf w B A (intV ss)) (h' : RowOf w B A' (intV ts)) (hn : ss.length ≤ 9223372036854775807) (hn' : ts.length ≤ 9223372036854775807) :
    Calls Tryz.prog 213 #[.slice A ss.length c, .slice A' ts.length c'] w (EqQ (ss = ts) w) := by
  by_cases hl : ss.length = ts.length
  · have hb : ((ss.length : Int) != ts.length) = false := by simp [hl]
    have HL := Lib.hid hl
    clear hl
    go_enter Tryz.func213, Tryz.ntmps213
    go_wp2_with fail
    go_loopw [13] (fun i wr => ∃ (k n : Nat), k ≤ ss.length ∧ i = .int .i64 k ∧ wr = w.drewN n ∧ ss.take k = ts.take k) (fun i _ => ss.length - (intOf i).toNat)
    case atStart => exact ⟨0, 0, Nat.zero_le _, rfl, rfl, by simp⟩
    case round =>
      obtain ⟨k, n, hk, rfl, rfl, he⟩ := hrel
      have HE := Lib.hid he
      clear he
      by_cases hlt : k < ss.length
      · have hlt' : k < ts.length := by rw [← HL.out]; exact hlt
        obtain ⟨b, o, rfl, _, hc⟩ := h k _ (intV_get ss k hlt)
        obtain ⟨b', o', rfl, _, hc'⟩ := h' k _ (intV_get ts k hlt')
        obtain ⟨x, hx⟩ : ∃ x, x = ss[k] := ⟨_, rfl⟩
        obtain ⟨y, hy⟩ : ∃ y, y = ts[k] := ⟨_, rfl⟩
        rw [← hx] at hc
        rw [← hy] at hc'
        have HX := Lib.hid (And.intro hx hy)
        clear hx hy
        go_wp2_with fail
        go_quiet (fail)
        go_wp2_with fail
        · rename_i hne
          obtain ⟨rfl, rfl⟩ := HX.out
          go_ret
          have hne' : ¬ ss = ts := by
            intro e
            subst e
            simp at hne
          exact ⟨false, rfl, by simp [hne'], n + nq, by simp⟩
        · rename_i heq
          refine ⟨⟨k + 1, _, by omega, by simp, rfl, ?_⟩, by simp [intOf]; omega⟩
          obtain ⟨hx, hy⟩ := HX.out
          refine take_eq HE.out hlt hlt' ?_
          rw [← hx, ← hy]
          exact by simpa using heq
      · go_wp2_with fail
        go_ret
        obtain rfl : k = ss.length := by omega
        have he := HE.out
        rw [List.take_length, HL.out, List.take_length] at he
        exact ⟨true, rfl, by simp [he], n, rfl⟩
  · have hb : ((ss.length : Int) != ts.length) = true := by simp; omega
    go_enter Tryz.func213, Tryz.ntmps213
    go_wp2_with fail
    go_ret
    have hne : ¬ ss = ts := fun e => hl (by rw [e])
    exact ⟨false, rfl, by simp [hne], 0, rfl⟩

set_option maxHeartbeats 800000 in
set_option maxRecDepth 100000 in
theorem slEqStr_q (A A' : Option Addr) (c c' : Nat) (ss ts : List ByteArray) (B : Nat) (w : World) (h : RowOf w B A (strV ss)) (h' : RowOf w B A' (strV ts)) (hn : ss.length ≤ 9223372036854775807) (hn' : ts.length ≤ 9223372036854775807) :
    Calls Tryz.prog 224 #[.slice A ss.length c, .slice A' ts.length c'] w (EqQ (ss = ts) w) := by
  by_cases hl : ss.length = ts.length
  · have hb : ((ss.length : Int) != ts.length) = false := by simp [hl]
    have HL := Lib.hid hl
    clear hl
    go_enter Tryz.func224, Tryz.ntmps224
    go_wp2_with fail
    go_loopw [13] (fun i wr => ∃ (k n : Nat), k ≤ ss.length ∧ i = .int .i64 k ∧ wr = w.drewN n ∧ ss.take k = ts.take k) (fun i _ => ss.length - (intOf i).toNat)
    case atStart => exact ⟨0, 0, Nat.zero_le _, rfl, rfl, by simp⟩
    case round =>
      obtain ⟨k, n, hk, rfl, rfl, he⟩ := hrel
      have HE := Lib.hid he
      clear he
      by_cases hlt : k < ss.length
      · have hlt' : k < ts.length := by rw [← HL.out]; exact hlt
        obtain ⟨b, o, rfl, _, hc⟩ := h k _ (strV_get ss k hlt)
        obtain ⟨b', o', rfl, _, hc'⟩ := h' k _ (strV_get ts k hlt')
        obtain ⟨x, hx⟩ : ∃ x, x = ss[k] := ⟨_, rfl⟩
        obtain ⟨y, hy⟩ : ∃ y, y = ts[k] := ⟨_, rfl⟩
        rw [← hx] at hc
        rw [← hy] at hc'
        have HX := Lib.hid (And.intro hx hy)
        clear hx hy
        go_wp2_with fail
        go_quiet (fail)
        go_wp2_with fail
        · rename_i hne
          obtain ⟨rfl, rfl⟩ := HX.out
          go_ret
          have hne' : ¬ ss = ts := by
            intro e
            subst e
            simp at hne
          exact ⟨false, rfl, by simp [hne'], n + nq, by simp⟩
        · rename_i heq
          refine ⟨⟨k + 1, _, by omega, by simp, rfl, ?_⟩, by simp [intOf]; omega⟩
          obtain ⟨hx, hy⟩ := HX.out
          refine take_eq HE.out hlt hlt' ?_
          rw [← hx, ← hy]
          exact bytes_inj (show x.toList = y.toList by simpa using heq)
      · go_wp2_with fail
        go_ret
        obtain rfl : k = ss.length := by omega
        have he := HE.out
        rw [List.take_length, HL.out, List.take_length] at he
        exact ⟨true, rfl, by simp [he], n, rfl⟩
  · have hb : ((ss.length : Int) != ts.length) = true := by simp; omega
    go_enter Tryz.func224, Tryz.ntmps224
    go_wp2_with fail
    go_ret
    have hne : ¬ ss = ts := fun e => hl (by rw [e])
    exact ⟨false, rfl, by simp [hne], 0, rfl⟩

set_option maxHeartbeats 1600000 in
set_option maxRecDepth 100000 in
theorem slEqOrg_q (A A' : Option Addr) (c c' : Nat) (xs ys : List Dt) (w : World) (h : Rd w w.heap.size (.lst xs) [.slice A xs.length c]) (h' : Rd w w.heap.size (.lst ys) [.slice A' ys.length c'])
    (hx : ∀ x ∈ xs, IsOrg x) (hy : ∀ x ∈ ys, IsOrg x) (hn : xs.length ≤ 9223372036854775807) (hn' : ys.length ≤ 9223372036854775807) :
    Calls Tryz.prog 223 #[.slice A xs.length c, .slice A' ys.length c'] w (EqQ (xs = ys) w) := by
  have H := Lib.hid (And.intro h (And.intro h' (And.intro hx hy)))
  clear h h' hx hy
  by_cases hl : xs.length = ys.length
  · have hb : ((xs.length : Int) != ys.length) = false := by simp [hl]
    have HL := Lib.hid hl
    clear hl
    go_enter Tryz.func223, Tryz.ntmps223
    go_wp2_with fail
    go_loopw [13] (fun i wr => ∃ (k n : Nat), k ≤ xs.length ∧ i = .int .i64 k ∧ wr = w.drewN n ∧ xs.take k = ys.take k) (fun i _ => xs.length - (intOf i).toNat)
    case atStart => exact ⟨0, 0, Nat.zero_le _, rfl, rfl, by simp⟩
    case round =>
      obtain ⟨k, n, hk, rfl, rfl, he⟩ := hrel
      have HE := Lib.hid he
      clear he
      by_cases hlt : k < xs.length
      · have hlt' : k < ys.length := by rw [← HL.out]; exact hlt
        obtain ⟨b, o, cs, rfl, hbB, hrd, hlen, hcell⟩ := H.out.1.at (k := 2) (fun x hx' => (H.out.2.2.1 x hx').width) (by omega) k hlt
        obtain ⟨p0, p1, hp⟩ := H.out.2.2.1 _ (List.getElem_mem hlt)
        rw [hp] at hrd
        obtain rfl := Rd.ofOrigin hrd
        obtain ⟨b', o', cs', rfl, hbB', hrd', hlen', hcell'⟩ := H.out.2.1.at (k := 2) (fun x hx' => (H.out.2.2.2 x hx').width) (by omega) k hlt'
        obtain ⟨q0, q1, hq⟩ := H.out.2.2.2 _ (List.getElem_mem hlt')
        rw [hq] at hrd'
        obtain rfl := Rd.ofOrigin hrd'
        have h00 := hcell 0 (by omega)
        have h01 := hcell 1 (by omega)
        have g00 := hcell' 0 (by omega)
        have g01 := hcell' 1 (by omega)
        simp at h00 h01 g00 g01
        have HX := Lib.hid (And.intro hp hq)
        clear hrd hrd' hcell hcell' hlen hlen' hp hq
        by_cases hpq : p0 = q0 ∧ p1 = q1
        · obtain ⟨rfl, rfl⟩ := hpq
          go_wp2_with fail
          go_quiet (fail)
          go_wp2_with fail
          refine ⟨⟨k + 1, _, by omega, by simp, rfl, ?_⟩, by simp [intOf]; omega⟩
          refine take_eq HE.out hlt hlt' ?_
          rw [HX.out.1, HX.out.2]
        · have hne' : ¬ xs = ys := by
            intro e
            subst e
            have := HX.out.1.symm.trans HX.out.2
            simp at this
            exact hpq this
          have HN := Lib.hid hne'
          clear hne'
          have h2 : (p0 == q0 && p1 == q1) = false := by
            rw [Bool.and_eq_false_iff]
            by_cases e : p0 = q0
            · right; simp; exact fun e' => hpq ⟨e, e'⟩
            · left; simp [e]
          by_cases e0 : p0 = q0
          · subst e0
            have e1 : (p1 == q1) = false := by simp; exact fun e' => hpq ⟨rfl, e'⟩
            clear h2
            go_wp2_with fail
            go_quiet (fail)
            go_wp2_with fail
            go_ret
            exact ⟨false, rfl, by simp [HN.out], n + nq, by simp⟩
          · have e1 : (p0 == q0) = false := by simp [e0]
            go_wp2_with fail
            go_quiet (fail)
            go_wp2_with fail
            go_ret
            exact ⟨false, rfl, by simp [HN.out], n + nq, by simp⟩
      · go_wp2_with fail
        go_ret
        obtain rfl : k = xs.length := by omega
        have he := HE.out
        rw [List.take_length, HL.out, List.take_length] at he
        exact ⟨true, rfl, by simp [he], n, rfl⟩
  · have hb : ((xs.length : Int) != ys.length) = true := by simp; omega
    go_enter Tryz.func223, Tryz.ntmps223
    go_wp2_with fail
    go_ret
    have hne : ¬ xs = ys := fun e => hl (by rw [e])
    exact ⟨false, rfl, by simp [hne], 0, rfl⟩

theorem slEqInt_any (A A' : Option Addr) (c c' : Nat) (ss ts : List Int) (B : Nat) (w : World) (h : RowOf w B A (intV ss)) (h' : RowOf w B A' (intV ts)) (hn : ss.length ≤ 9223372036854775807) (hn' : ts.length ≤ 9223372036854775807) :
    Calls Tryz.prog 213 #[.slice A ss.length c, .slice A' ts.length c'] w (EqP (ss = ts) w) := (slEqInt_q A A' c c' ss ts B w h h' hn hn').mono EqQ.p
theorem slEqStr_any (A A' : Option Addr) (c c' : Nat) (ss ts : List ByteArray) (B : Nat) (w : World) (h : RowOf w B A (strV ss)) (h' : RowOf w B A' (strV ts)) (hn : ss.length ≤ 9223372036854775807) (hn' : ts.length ≤ 9223372036854775807) :
    Calls Tryz.prog 224 #[.slice A ss.length c, .slice A' ts.length c'] w (EqP (ss = ts) w) := (slEqStr_q A A' c c' ss ts B w h h' hn hn').mono EqQ.p
theorem slEqOrg_any (A A' : Option Addr) (c c' : Nat) (xs ys : List Dt) (w : World) (h : Rd w w.heap.size (.lst xs) [.slice A xs.length c]) (h' : Rd w w.heap.size (.lst ys) [.slice A' ys.length c'])
    (hx : ∀ x ∈ xs, IsOrg x) (hy : ∀ x ∈ ys, IsOrg x) (hn : xs.length ≤ 9223372036854775807) (hn' : ys.length ≤ 9223372036854775807) :
    Calls Tryz.prog 223 #[.slice A xs.length c, .slice A' ys.length c'] w (EqP (xs = ys) w) := (slEqOrg_q A A' c c' xs ys w h h' hx hy hn hn').mono EqQ.p
end Go.Proofs.YtabcmnlmmpbmnaaGreat
