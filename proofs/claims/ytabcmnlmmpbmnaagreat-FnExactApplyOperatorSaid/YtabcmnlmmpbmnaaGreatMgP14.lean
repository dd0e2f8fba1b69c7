/-
  Texts that the proof rests on, put together: MSt, MSt2, Stk2, Clone, DrawV1.
-/
import Derived.Test.YtabcmnlmmpbmnaaGreatMgP7
import Derived.Test.YtabcmnlmmpbmnaaGreatMgP13
import Derived.Test.YtabcmnlmmpbmnaaGreatMgP6
import Derived.Test.YtabcmnlmmpbmnaaGreatMgP3
/-
  What a call holds while it builds: things of its own, and that all else stays.
-/

namespace Go.Proofs.YtabcmnlmmpbmnaaGreat
open Go.RowKit
set_option linter.unusedVariables false

def MSt (w : World) (L : List Asn) (wx : World) : Prop := Objs w.heap.size wx L ∧ Below w.heap.size w wx
section
variable {w wx wy : World} {L L' M : List Asn}
theorem MSt.start (w : World) : MSt w [] w := ⟨Objs.nil _ _, Below.refl _ _⟩
theorem MSt.bel (h : MSt w L wx) : Below w.heap.size w wx := h.2
theorem MSt.size (h : MSt w L wx) : w.heap.size ≤ wx.heap.size := h.2.size
theorem MSt.objs (h : MSt w L wx) : Objs w.heap.size wx L := h.1
theorem MSt.alter (h : MSt w L wx) (hp : Objs w.heap.size wx L → Objs w.heap.size wx L') : MSt w L' wx := ⟨hp h.1, h.2⟩
theorem MSt.later (h : MSt w L wx) (hb : Below wx.heap.size wx wy) : MSt w L wy := ⟨h.1.below hb, h.2.trans (hb.mono h.2.size)⟩
theorem MSt.add {a : Asn} (h : MSt w L wx) (hb : Below wx.heap.size wx wy) (ha : a.At wx.heap.size wy) : MSt w (a :: L) wy := ⟨h.1.add hb h.2.size ha, h.2.trans (hb.mono h.2.size)⟩
/-- What a call within the call has built is added. -/
theorem MSt.trans (h : MSt w L wx) (h2 : MSt wx M wy) : MSt w (M ++ L) wy := by
  have h1 := h.later h2.2
  refine ⟨⟨fun a ha => ?_, List.pairwise_append.2 ⟨h2.1.2, h1.1.2, fun a ha b hb k hk hk' => ?_⟩⟩, h1.2⟩
  · rcases List.mem_append.1 ha with ha | ha
    · have := h2.1.1 a ha
      exact ⟨this.1, this.2.1, fun b hb => ⟨Nat.le_trans h.size (this.2.2 b hb).1, (this.2.2 b hb).2⟩⟩
    · exact h1.1.1 a ha
  · have e1 := ((h2.1.1 a ha).2.2 k hk).1
    have e2 := ((h.1.1 b hb).2.2 k hk').2
    omega
theorem MSt.perm (h : MSt w L wx) (hp : L.Perm L') : MSt w L' wx := h.alter fun o => o.perm hp
theorem MSt.nth {a : Asn} {L1 L2 : List Asn} (h : MSt w (L1 ++ a :: L2) wx) : MSt w (a :: (L1 ++ L2)) wx := h.perm List.perm_middle
theorem MSt.swap {a b : Asn} (h : MSt w (a :: b :: L) wx) : MSt w (b :: a :: L) wx := h.alter Objs.swap
theorem MSt.drop {a : Asn} (h : MSt w (a :: L) wx) : MSt w L wx := h.alter Objs.tail
theorem MSt.app {e : TypeId} {k n n' base : Nat} {v v' : Value} {xs xs' : List Value} (h : MSt w (rowA e k v n xs :: L) wx) (hg : wx.grownBy wy v.ownBlock) (ho : wy.ownsRow base e k v' n' xs')
    (hb : v'.ownBlock = v.ownBlock ∨ v'.ownBlock = some wx.heap.size) : MSt w (rowA e k v' n' xs' :: L) wy :=
  ⟨h.1.app hg ho hb h.2.size, Below.grown h.2 hg h.2.size fun k hk => (h.1.rowAt.lt k hk).1⟩
theorem MSt.row {e : TypeId} {k n : Nat} {v : Value} {xs : List Value} (h : MSt w (rowA e k v n xs :: L) wx) : wx.ownsRow w.heap.size e k v n xs := Objs.rowAt h.1
theorem MSt.box {e : TypeId} {k g : Nat} {xs : List Value} (h : MSt w (boxA e k g xs :: L) wx) : wx.ownsRow w.heap.size e k (.slice (some ⟨g, 0, none⟩) 1 1) 1 xs := h.1.rowAt
theorem MSt.set1 {e : TypeId} {k b : Nat} {xs : List Value} (h : MSt w (boxA e k b xs :: L) wx) (p : Nat) (u : Value) : MSt w (boxA e k b (xs.set p u) :: L) (wx.setCell ⟨b, p, none⟩ u) :=
  ⟨h.1.boxSet1 p u h.2.size, h.2.setCell (h.box.lt b rfl).1 _⟩
theorem MSt.alloc (h : MSt w L wx) (o : Obj) : MSt w L (wx.alloc o) := h.later ((Below.refl _ _).alloc (Nat.le_refl _) _)
theorem MSt.drew (h : MSt w L wx) : MSt w L wx.drew := h.later (Below.refl _ _).drew
theorem MSt.drewN (h : MSt w L wx) (n : Nat) : MSt w L (wx.drewN n) := h.later (below_drewN (Below.refl _ _) n)
theorem MSt.new (h : MSt w L wx) (e : TypeId) (k : Nat) (cs : Array Value) (hk : cs.size = k) : MSt w (boxA e k wx.heap.size cs.toList :: L) (wx.alloc (.cells cs e)) :=
  ⟨h.1.new h.2.size e k cs hk, h.2.alloc h.2.size _⟩
theorem MSt.lit (h : MSt w L wx) (e : TypeId) (k : Nat) : MSt w (rowA e k (.slice (some ⟨wx.heap.size, 0, none⟩) 0 0) 0 [] :: L) (wx.alloc (.cells #[] e)) :=
  ⟨h.1.lit h.2.size e k rfl, h.2.alloc h.2.size _⟩
theorem MSt.nilRow (h : MSt w L wx) (e : TypeId) (k : Nat) : MSt w (rowA e k (.slice none 0 0) 0 [] :: owLA [] [] [] :: L) wx := h.alter fun o => o.nilRow e k
theorem MSt.nilRow0 (h : MSt w L wx) (e : TypeId) (k : Nat) : MSt w (rowA e k (.slice none 0 0) 0 [] :: L) wx := h.alter fun o => (o.nilRow e k).swap.tail
theorem MSt.push {r : Asn} {d : Dt} {xs : List Dt} {c cs : List Value} {f fp : List Nat} (h : MSt w (r :: owA d c f :: owLA xs cs fp :: L) wx) : MSt w (r :: owLA (xs ++ [d]) (cs ++ c) (fp ++ f) :: L) wx :=
  h.alter fun hM => (Objs.push (Objs.perm hM ((List.reverse_perm [owLA xs cs fp, owA d c f, r]).append_right L))).swap
theorem MSt.close {e : TypeId} {k n : Nat} {v : Value} {xs : List Dt} {cells : List Value} {fp : List Nat} (h : MSt w (rowA e k v n cells :: owLA xs cells fp :: L) wx) (hn : n = xs.length) : MSt w (owA (.lst xs) [v] (v.ownBlock.toList ++ fp) :: L) wx :=
  h.alter fun hM => Objs.close hM hn
theorem MSt.close0 {e : TypeId} {k n : Nat} {v : Value} {xs : List Dt} {cells : List Value} (h : MSt w (rowA e k v n cells :: L) wx) (ho : ∀ w', OwL w' xs cells []) (hn : n = xs.length) : MSt w (owA (.lst xs) [v] v.ownBlock.toList :: L) wx :=
  h.alter fun hM => hM.close0 ho hn
end

/-! ### values put together -/
theorem owA_weak {w : World} {B : Nat} {L : List Asn} {d d' : Dt} {c c' : List Value} {f : List Nat} (h : Objs B w (owA d c f :: L)) (hh : ∀ w', Ow w' d c f → Ow w' d' c' f) : Objs B w (owA d' c' f :: L) :=
  h.weak (fun h => ⟨hh _ h.1, h.2⟩) (owA_loc _ _ _) (fun _ h => h)
/-- A value of flat parts. -/
def flatV (k n s : Int) (t : ByteArray) : List Value := [.int .i64 k, .int .i64 n, .int .i64 s, .string t, .slice none 0 0, .slice none 0 0, .slice none 0 0]
theorem ow_flat (w : World) (k n s : Int) (t : ByteArray) : Ow w (.agg [.int k, .int n, .int s, .str t, .lst [], .lst [], .lst []]) (flatV k n s t) [] := by
  simp only [Ow, OwL]
  have hn := Ow.nilLst w
  simp only [Ow] at hn
  exact ⟨[_], _, [], [], rfl, rfl, ⟨rfl, rfl⟩, [_], _, [], [], rfl, rfl, ⟨rfl, rfl⟩, [_], _, [], [], rfl, rfl, ⟨rfl, rfl⟩, [_], _, [], [], rfl, rfl, ⟨rfl, rfl⟩, [_], _, [], [], rfl, rfl, hn, [_], _, [], [], rfl, rfl, hn, [_], _, [], [], rfl, rfl, hn, rfl, rfl⟩
theorem ow_lst {w : World} {l : List Dt} {v : Value} {f : List Nat} (h : Ow w (.lst l) [v] f) : Ow w (.agg [.int 3, .int 0, .int 0, .str ⟨#[]⟩, .lst l, .lst [], .lst []]) [.int .i64 3, .int .i64 0, .int .i64 0, .string ⟨#[]⟩, v, .slice none 0 0, .slice none 0 0] f := by
  have hn := Ow.nilLst w
  simp only [Ow] at h hn
  simp only [Ow, OwL]
  exact ⟨[_], _, [], f, rfl, rfl, ⟨rfl, rfl⟩, [_], _, [], f, rfl, rfl, ⟨rfl, rfl⟩, [_], _, [], f, rfl, rfl, ⟨rfl, rfl⟩, [_], _, [], f, rfl, rfl, ⟨rfl, rfl⟩, [v], _, f, [], rfl, by simp, h, [_], _, [], [], rfl, rfl, hn, [_], _, [], [], rfl, rfl, hn, rfl, rfl⟩
theorem flat_one (k n s : Int) (t : ByteArray) : ∀ u ∈ flatV k n s t, u.oneCell' = true := by
  intro u hu
  simp only [flatV, List.mem_cons, List.not_mem_nil, or_false] at hu
  rcases hu with rfl | rfl | rfl | rfl | rfl | rfl | rfl <;> rfl
end Go.Proofs.YtabcmnlmmpbmnaaGreat

/-
  What a call holds while it builds: more steps.
-/

namespace Go.Proofs.YtabcmnlmmpbmnaaGreat
open Go.RowKit
set_option linter.unusedVariables false

section
variable {w wx wy : World} {L M : List Asn}
theorem MSt.set7 {e : TypeId} {k b : Nat} {xs : List Value} (h : MSt w (boxA e k b xs :: L) wx) (us : List Value) (hu : us.length = k) : MSt w (boxA e k b us :: L) (wx.setCells b 0 us) := by
  refine ⟨h.objs.boxAll us hu h.size, ?_⟩
  have hb := (h.box.lt b rfl).1
  have hg := (own_setCells us 0 wx xs h.box).2
  exact h.bel.grown hg h.size fun k hk => by injection hk with hk; subst hk; exact hb
theorem MSt.pre (h : MSt w (M ++ L) wx) : MSt w M wx :=
  ⟨⟨fun x hx => h.1.1 x (List.mem_append.2 (.inl hx)), (List.pairwise_append.1 h.1.2).1⟩, h.2⟩
theorem MSt.first {a : Asn} (h : MSt w (a :: L) wx) : MSt w [a] wx := MSt.pre (M := [a]) h
theorem MSt.flat {d : Dt} {cs : List Value} (h : MSt w L wx) (ho : ∀ w', Ow w' d cs []) : MSt w (owA d cs [] :: L) wx :=
  h.alter fun o => o.cons ⟨⟨ho wx, by simp⟩, owA_loc _ _ _, fun b hb => by cases hb⟩ fun x hx k hk => by cases hk
theorem MSt.bare {a : Asn} (h : MSt w L wx) (hh : a.holds wx) (hl : a.Loc) (hf : ∀ b, ¬ a.foot b) : MSt w (a :: L) wx :=
  h.alter fun o => o.cons ⟨hh, hl, fun b hb => absurd hb (hf b)⟩ fun x hx k hk => absurd hk (hf k)
theorem MSt.noTrees (h : MSt w L wx) : MSt w (owLA [] [] [] :: L) wx :=
  h.bare ⟨by simp [OwL], by simp⟩ (owLA_loc _ _ _) (fun b hb => by cases hb)
/-- A draw behind a new cursor. -/
theorem MSt.drawn {wz : World} {B blk : Nat} (h : MSt w L wx) (hb : Below wx.heap.size wx wy) (hblk : wx.heap.size ≤ blk) (hD : DrSt wy B blk M wz) : MSt w (M ++ L) wz := by
  have hbel : Below wx.heap.size wx wz := below_of_cur hb hblk hD.grown
  refine h.trans ⟨⟨fun a ha => ?_, hD.objs.2⟩, hbel⟩
  have := hD.objs.1 a ha
  exact ⟨this.1, this.2.1, fun b hb' => ⟨Nat.le_trans hb.size (this.2.2 b hb').1, (this.2.2 b hb').2⟩⟩
/-- A value's lists put together. -/
theorem MSt.value (k n s : Int) (t : ByteArray) {l c r : List Dt} {v4 v5 v6 : Value} {f4 f5 f6 : List Nat} (h : MSt w (owA (.lst l) [v4] f4 :: owA (.lst c) [v5] f5 :: owA (.lst r) [v6] f6 :: L) wx) :
    MSt w (owA (.agg [.int k, .int n, .int s, .str t, .lst l, .lst c, .lst r]) [.int .i64 k, .int .i64 n, .int .i64 s, .string t, v4, v5, v6] (f4 ++ (f5 ++ f6)) :: L) wx :=
  h.alter fun o => owVal_join k n s t o
theorem MSt.list {v : Value} {l : List Dt} {f : List Nat} (h : MSt w (owA (.lst l) [v] f :: L) wx) : MSt w (owA (.agg [.int 3, .int 0, .int 0, .str ⟨#[]⟩, .lst l, .lst [], .lst []]) [.int .i64 3, .int .i64 0, .int .i64 0, .string ⟨#[]⟩, v, .slice none 0 0, .slice none 0 0] f :: L) wx :=
  h.alter fun o => owA_weak o fun w' h => ow_lst h
end
/-- Memory of the call's own read: nothing below it is touched. -/
theorem MSt.read {w wx : World} {L : List Asn} {d : Dt} {cs : List Value} {fp : List Nat} (h : MSt w (owA d cs fp :: L) wx) : Rd wx wx.heap.size d cs := h.objs.out.1.read
end Go.Proofs.YtabcmnlmmpbmnaaGreat

/-
  'append' onto owned slices of numbers, origins, rows and texts, from slices nil or not. (Written by gencopy.py.)
-/

namespace Go.Proofs.YtabcmnlmmpbmnaaGreat
open Go.RowKit
set_option linter.unusedVariables false

theorem wpI {o : Oper} {a : Act} {K : Act → World → Prop} {Q : Exit → Act → World → Prop} (w : World) (s x : Operand)
    (ho : o.op = .call { callee := .builtin .append, args := #[s, x], argTypes := #[97, 97] })
    (base : Nat) (v : Value) (n : Nat) (xs : List Value) (hs : a.eval s = v) (hown : w.ownsRow base 3 1 v n xs)
    (A : Option Addr) (m c B : Nat) (news : List Value) (hx : a.eval x = .slice A m c) (hl : news.length = m * 1) (hrow : RowOf w B A news) (h1 : ∀ u ∈ news, u.oneCell' = true)
    (hb : n + m ≤ 4194304) (hbase : base ≤ w.heap.size)
    (h : ∀ v' w', w'.ownsRow base 3 1 v' (n + m) (xs ++ news) → w.grownBy w' v.ownBlock → ((v' = .slice none 0 0 ↔ v = .slice none 0 0 ∧ m = 0) ∧ (v'.ownBlock = v.ownBlock ∨ v'.ownBlock = some w.heap.size)) → K (a.put o.dst v') w') : Oper.wp Tryz.prog o a w K Q := by
  obtain ⟨i0, hi, hz0, hz1, hz2⟩ := info_parts intInfoT
  exact wp_append_src w s x 97 ho base 3 i0 _ 1 8 Tryz.underlying97 hi hz0 hz1 hz2 rfl (by decide) v n xs hs hown A m c B news hx hl hrow h1 (by unfold maxLen; omega) (by omega) hbase h
theorem appI {ops : Array Oper} {rest : List Oper} {o : Oper} {a : Act} {Q : Exit → Act → World → Prop} (w : World) (hgd : o.guard = none) (s x : Operand)
    (ho : o.op = .call { callee := .builtin .append, args := #[s, x], argTypes := #[97, 97] })
    (base : Nat) (v : Value) (n : Nat) (xs : List Value) (hs : a.eval s = v) (hown : w.ownsRow base 3 1 v n xs)
    (A : Option Addr) (m c B : Nat) (news : List Value) (hx : a.eval x = .slice A m c) (hl : news.length = m * 1) (hrow : RowOf w B A news) (h1 : ∀ u ∈ news, u.oneCell' = true)
    (hb : n + m ≤ 4194304) (hbase : base ≤ w.heap.size)
    (h : ∀ v' w', w'.ownsRow base 3 1 v' (n + m) (xs ++ news) → w.grownBy w' v.ownBlock → ((v' = .slice none 0 0 ↔ v = .slice none 0 0 ∧ m = 0) ∧ (v'.ownBlock = v.ownBlock ∨ v'.ownBlock = some w.heap.size)) → wpList Tryz.prog ops Q rest (a.put o.dst v') w') : wpList Tryz.prog ops Q (o :: rest) a w :=
  wpList_plain hgd fun _ hK => wpI w s x ho base v n xs hs hown A m c B news hx hl hrow h1 hb hbase fun v' w' h2 h3 h4 => hK _ _ (h v' w' h2 h3 h4)
theorem stepI {ops : Array Oper} {o : Oper} {a : Act} {K : Act → World → Prop} {Q : Exit → Act → World → Prop} {E : Prop} (w : World) (hgd : o.guard = none) (s x : Operand)
    (ho : o.op = .call { callee := .builtin .append, args := #[s, x], argTypes := #[97, 97] })
    (base : Nat) (v : Value) (n : Nat) (xs : List Value) (hs : a.eval s = v) (hown : w.ownsRow base 3 1 v n xs)
    (A : Option Addr) (m c B : Nat) (news : List Value) (hx : a.eval x = .slice A m c) (hl : news.length = m * 1) (hrow : RowOf w B A news) (h1 : ∀ u ∈ news, u.oneCell' = true)
    (hb : n + m ≤ 4194304) (hbase : base ≤ w.heap.size)
    (h : ∀ v' w', w'.ownsRow base 3 1 v' (n + m) (xs ++ news) → w.grownBy w' v.ownBlock → ((v' = .slice none 0 0 ↔ v = .slice none 0 0 ∧ m = 0) ∧ (v'.ownBlock = v.ownBlock ∨ v'.ownBlock = some w.heap.size)) → K (a.put o.dst v') w') : if Region.wanted o (yielded ops a.tmps) = true then Oper.wp Tryz.prog o a w K Q else E := by
  have hw : Region.wanted o (yielded ops a.tmps) = true := by simp [Region.wanted, hgd]
  rw [if_pos hw]
  exact wpI w s x ho base v n xs hs hown A m c B news hx hl hrow h1 hb hbase h

theorem wpO {o : Oper} {a : Act} {K : Act → World → Prop} {Q : Exit → Act → World → Prop} (w : World) (s x : Operand)
    (ho : o.op = .call { callee := .builtin .append, args := #[s, x], argTypes := #[54, 54] })
    (base : Nat) (v : Value) (n : Nat) (xs : List Value) (hs : a.eval s = v) (hown : w.ownsRow base 96 2 v n xs)
    (A : Option Addr) (m c B : Nat) (news : List Value) (hx : a.eval x = .slice A m c) (hl : news.length = m * 2) (hrow : RowOf w B A news) (h1 : ∀ u ∈ news, u.oneCell' = true)
    (hb : n + m ≤ 4194304) (hbase : base ≤ w.heap.size)
    (h : ∀ v' w', w'.ownsRow base 96 2 v' (n + m) (xs ++ news) → w.grownBy w' v.ownBlock → ((v' = .slice none 0 0 ↔ v = .slice none 0 0 ∧ m = 0) ∧ (v'.ownBlock = v.ownBlock ∨ v'.ownBlock = some w.heap.size)) → K (a.put o.dst v') w') : Oper.wp Tryz.prog o a w K Q := by
  obtain ⟨i0, hi, hz0, hz1, hz2⟩ := info_parts OriginInfo
  exact wp_append_src w s x 54 ho base 96 i0 _ 2 16 Tryz.underlying54 hi hz0 hz1 hz2 rfl (by decide) v n xs hs hown A m c B news hx hl hrow h1 (by unfold maxLen; omega) (by omega) hbase h
theorem appO {ops : Array Oper} {rest : List Oper} {o : Oper} {a : Act} {Q : Exit → Act → World → Prop} (w : World) (hgd : o.guard = none) (s x : Operand)
    (ho : o.op = .call { callee := .builtin .append, args := #[s, x], argTypes := #[54, 54] })
    (base : Nat) (v : Value) (n : Nat) (xs : List Value) (hs : a.eval s = v) (hown : w.ownsRow base 96 2 v n xs)
    (A : Option Addr) (m c B : Nat) (news : List Value) (hx : a.eval x = .slice A m c) (hl : news.length = m * 2) (hrow : RowOf w B A news) (h1 : ∀ u ∈ news, u.oneCell' = true)
    (hb : n + m ≤ 4194304) (hbase : base ≤ w.heap.size)
    (h : ∀ v' w', w'.ownsRow base 96 2 v' (n + m) (xs ++ news) → w.grownBy w' v.ownBlock → ((v' = .slice none 0 0 ↔ v = .slice none 0 0 ∧ m = 0) ∧ (v'.ownBlock = v.ownBlock ∨ v'.ownBlock = some w.heap.size)) → wpList Tryz.prog ops Q rest (a.put o.dst v') w') : wpList Tryz.prog ops Q (o :: rest) a w :=
  wpList_plain hgd fun _ hK => wpO w s x ho base v n xs hs hown A m c B news hx hl hrow h1 hb hbase fun v' w' h2 h3 h4 => hK _ _ (h v' w' h2 h3 h4)
theorem stepO {ops : Array Oper} {o : Oper} {a : Act} {K : Act → World → Prop} {Q : Exit → Act → World → Prop} {E : Prop} (w : World) (hgd : o.guard = none) (s x : Operand)
    (ho : o.op = .call { callee := .builtin .append, args := #[s, x], argTypes := #[54, 54] })
    (base : Nat) (v : Value) (n : Nat) (xs : List Value) (hs : a.eval s = v) (hown : w.ownsRow base 96 2 v n xs)
    (A : Option Addr) (m c B : Nat) (news : List Value) (hx : a.eval x = .slice A m c) (hl : news.length = m * 2) (hrow : RowOf w B A news) (h1 : ∀ u ∈ news, u.oneCell' = true)
    (hb : n + m ≤ 4194304) (hbase : base ≤ w.heap.size)
    (h : ∀ v' w', w'.ownsRow base 96 2 v' (n + m) (xs ++ news) → w.grownBy w' v.ownBlock → ((v' = .slice none 0 0 ↔ v = .slice none 0 0 ∧ m = 0) ∧ (v'.ownBlock = v.ownBlock ∨ v'.ownBlock = some w.heap.size)) → K (a.put o.dst v') w') : if Region.wanted o (yielded ops a.tmps) = true then Oper.wp Tryz.prog o a w K Q else E := by
  have hw : Region.wanted o (yielded ops a.tmps) = true := by simp [Region.wanted, hgd]
  rw [if_pos hw]
  exact wpO w s x ho base v n xs hs hown A m c B news hx hl hrow h1 hb hbase h

theorem wpR {o : Oper} {a : Act} {K : Act → World → Prop} {Q : Exit → Act → World → Prop} (w : World) (s x : Operand)
    (ho : o.op = .call { callee := .builtin .append, args := #[s, x], argTypes := #[26, 26] })
    (base : Nat) (v : Value) (n : Nat) (xs : List Value) (hs : a.eval s = v) (hown : w.ownsRow base 99 2 v n xs)
    (A : Option Addr) (m c B : Nat) (news : List Value) (hx : a.eval x = .slice A m c) (hl : news.length = m * 2) (hrow : RowOf w B A news) (h1 : ∀ u ∈ news, u.oneCell' = true)
    (hb : n + m ≤ 4194304) (hbase : base ≤ w.heap.size)
    (h : ∀ v' w', w'.ownsRow base 99 2 v' (n + m) (xs ++ news) → w.grownBy w' v.ownBlock → ((v' = .slice none 0 0 ↔ v = .slice none 0 0 ∧ m = 0) ∧ (v'.ownBlock = v.ownBlock ∨ v'.ownBlock = some w.heap.size)) → K (a.put o.dst v') w') : Oper.wp Tryz.prog o a w K Q := by
  obtain ⟨i0, hi, hz0, hz1, hz2⟩ := info_parts RowInfo
  exact wp_append_src w s x 26 ho base 99 i0 _ 2 48 Tryz.underlying26 hi hz0 hz1 hz2 rfl (by decide) v n xs hs hown A m c B news hx hl hrow h1 (by unfold maxLen; omega) (by omega) hbase h
theorem appR {ops : Array Oper} {rest : List Oper} {o : Oper} {a : Act} {Q : Exit → Act → World → Prop} (w : World) (hgd : o.guard = none) (s x : Operand)
    (ho : o.op = .call { callee := .builtin .append, args := #[s, x], argTypes := #[26, 26] })
    (base : Nat) (v : Value) (n : Nat) (xs : List Value) (hs : a.eval s = v) (hown : w.ownsRow base 99 2 v n xs)
    (A : Option Addr) (m c B : Nat) (news : List Value) (hx : a.eval x = .slice A m c) (hl : news.length = m * 2) (hrow : RowOf w B A news) (h1 : ∀ u ∈ news, u.oneCell' = true)
    (hb : n + m ≤ 4194304) (hbase : base ≤ w.heap.size)
    (h : ∀ v' w', w'.ownsRow base 99 2 v' (n + m) (xs ++ news) → w.grownBy w' v.ownBlock → ((v' = .slice none 0 0 ↔ v = .slice none 0 0 ∧ m = 0) ∧ (v'.ownBlock = v.ownBlock ∨ v'.ownBlock = some w.heap.size)) → wpList Tryz.prog ops Q rest (a.put o.dst v') w') : wpList Tryz.prog ops Q (o :: rest) a w :=
  wpList_plain hgd fun _ hK => wpR w s x ho base v n xs hs hown A m c B news hx hl hrow h1 hb hbase fun v' w' h2 h3 h4 => hK _ _ (h v' w' h2 h3 h4)
theorem stepR {ops : Array Oper} {o : Oper} {a : Act} {K : Act → World → Prop} {Q : Exit → Act → World → Prop} {E : Prop} (w : World) (hgd : o.guard = none) (s x : Operand)
    (ho : o.op = .call { callee := .builtin .append, args := #[s, x], argTypes := #[26, 26] })
    (base : Nat) (v : Value) (n : Nat) (xs : List Value) (hs : a.eval s = v) (hown : w.ownsRow base 99 2 v n xs)
    (A : Option Addr) (m c B : Nat) (news : List Value) (hx : a.eval x = .slice A m c) (hl : news.length = m * 2) (hrow : RowOf w B A news) (h1 : ∀ u ∈ news, u.oneCell' = true)
    (hb : n + m ≤ 4194304) (hbase : base ≤ w.heap.size)
    (h : ∀ v' w', w'.ownsRow base 99 2 v' (n + m) (xs ++ news) → w.grownBy w' v.ownBlock → ((v' = .slice none 0 0 ↔ v = .slice none 0 0 ∧ m = 0) ∧ (v'.ownBlock = v.ownBlock ∨ v'.ownBlock = some w.heap.size)) → K (a.put o.dst v') w') : if Region.wanted o (yielded ops a.tmps) = true then Oper.wp Tryz.prog o a w K Q else E := by
  have hw : Region.wanted o (yielded ops a.tmps) = true := by simp [Region.wanted, hgd]
  rw [if_pos hw]
  exact wpR w s x ho base v n xs hs hown A m c B news hx hl hrow h1 hb hbase h

theorem wpT {o : Oper} {a : Act} {K : Act → World → Prop} {Q : Exit → Act → World → Prop} (w : World) (s x : Operand)
    (ho : o.op = .call { callee := .builtin .append, args := #[s, x], argTypes := #[25, 25] })
    (base : Nat) (v : Value) (n : Nat) (xs : List Value) (hs : a.eval s = v) (hown : w.ownsRow base 9 1 v n xs)
    (A : Option Addr) (m c B : Nat) (news : List Value) (hx : a.eval x = .slice A m c) (hl : news.length = m * 1) (hrow : RowOf w B A news) (h1 : ∀ u ∈ news, u.oneCell' = true)
    (hb : n + m ≤ 4194304) (hbase : base ≤ w.heap.size)
    (h : ∀ v' w', w'.ownsRow base 9 1 v' (n + m) (xs ++ news) → w.grownBy w' v.ownBlock → ((v' = .slice none 0 0 ↔ v = .slice none 0 0 ∧ m = 0) ∧ (v'.ownBlock = v.ownBlock ∨ v'.ownBlock = some w.heap.size)) → K (a.put o.dst v') w') : Oper.wp Tryz.prog o a w K Q := by
  obtain ⟨i0, hi, hz0, hz1, hz2⟩ := info_parts stringInfoT
  exact wp_append_src w s x 25 ho base 9 i0 _ 1 16 Tryz.underlying25 hi hz0 hz1 hz2 rfl (by decide) v n xs hs hown A m c B news hx hl hrow h1 (by unfold maxLen; omega) (by omega) hbase h
theorem appT {ops : Array Oper} {rest : List Oper} {o : Oper} {a : Act} {Q : Exit → Act → World → Prop} (w : World) (hgd : o.guard = none) (s x : Operand)
    (ho : o.op = .call { callee := .builtin .append, args := #[s, x], argTypes := #[25, 25] })
    (base : Nat) (v : Value) (n : Nat) (xs : List Value) (hs : a.eval s = v) (hown : w.ownsRow base 9 1 v n xs)
    (A : Option Addr) (m c B : Nat) (news : List Value) (hx : a.eval x = .slice A m c) (hl : news.length = m * 1) (hrow : RowOf w B A news) (h1 : ∀ u ∈ news, u.oneCell' = true)
    (hb : n + m ≤ 4194304) (hbase : base ≤ w.heap.size)
    (h : ∀ v' w', w'.ownsRow base 9 1 v' (n + m) (xs ++ news) → w.grownBy w' v.ownBlock → ((v' = .slice none 0 0 ↔ v = .slice none 0 0 ∧ m = 0) ∧ (v'.ownBlock = v.ownBlock ∨ v'.ownBlock = some w.heap.size)) → wpList Tryz.prog ops Q rest (a.put o.dst v') w') : wpList Tryz.prog ops Q (o :: rest) a w :=
  wpList_plain hgd fun _ hK => wpT w s x ho base v n xs hs hown A m c B news hx hl hrow h1 hb hbase fun v' w' h2 h3 h4 => hK _ _ (h v' w' h2 h3 h4)
theorem stepT {ops : Array Oper} {o : Oper} {a : Act} {K : Act → World → Prop} {Q : Exit → Act → World → Prop} {E : Prop} (w : World) (hgd : o.guard = none) (s x : Operand)
    (ho : o.op = .call { callee := .builtin .append, args := #[s, x], argTypes := #[25, 25] })
    (base : Nat) (v : Value) (n : Nat) (xs : List Value) (hs : a.eval s = v) (hown : w.ownsRow base 9 1 v n xs)
    (A : Option Addr) (m c B : Nat) (news : List Value) (hx : a.eval x = .slice A m c) (hl : news.length = m * 1) (hrow : RowOf w B A news) (h1 : ∀ u ∈ news, u.oneCell' = true)
    (hb : n + m ≤ 4194304) (hbase : base ≤ w.heap.size)
    (h : ∀ v' w', w'.ownsRow base 9 1 v' (n + m) (xs ++ news) → w.grownBy w' v.ownBlock → ((v' = .slice none 0 0 ↔ v = .slice none 0 0 ∧ m = 0) ∧ (v'.ownBlock = v.ownBlock ∨ v'.ownBlock = some w.heap.size)) → K (a.put o.dst v') w') : if Region.wanted o (yielded ops a.tmps) = true then Oper.wp Tryz.prog o a w K Q else E := by
  have hw : Region.wanted o (yielded ops a.tmps) = true := by simp [Region.wanted, hgd]
  rw [if_pos hw]
  exact wpT w s x ho base v n xs hs hown A m c B news hx hl hrow h1 hb hbase h

end Go.Proofs.YtabcmnlmmpbmnaaGreat

/-
  slices.Clone of numbers, origins, rows, texts and values. (Written by genclone.py.)
-/

namespace Go.Proofs.YtabcmnlmmpbmnaaGreat
open Go.RowKit
set_option linter.unusedVariables false

set_option maxHeartbeats 400000 in
set_option maxRecDepth 100000 in
theorem cloneI (A : Option Addr) (n c B : Nat) (cells : List Value) (w : World) (hrow : RowOf w B A cells) (hl : cells.length = n * 1) (h1 : ∀ u ∈ cells, u.oneCell' = true) (hn : n ≤ 1048576) (hB : B ≤ w.heap.size) :
    Calls Tryz.prog 95 #[.slice A n c] w fun e w' => ∃ v, e = .returned v ∧ w'.ownsRow w.heap.size 3 1 v n cells ∧ Below w.heap.size w w' := by
  have q : ∀ (w : World) (a : Option Addr) (n c n' c' : Nat), (binOp .eql 97 (.slice a n c) (.slice none n' c')).run Tryz.prog w = .ok (.bool a.isNone) w := fun w a n c n' c' => Lib.run_eql_slice_nil w _ _ a n c n' c' Tryz.underlying97
  rcases A with _ | ⟨b, of, fr⟩
  · obtain rfl : cells = [] := by
      rcases cells with _ | ⟨u, us⟩
      · rfl
      · obtain ⟨_, _, h, _⟩ := hrow 0 u rfl
        cases h
    obtain rfl : n = 0 := by simp at hl; omega
    go_enter Tryz.func95, Tryz.ntmps95
    go_wp2_with fail
    go_ret
    exact ⟨_, rfl, ⟨rfl, .inl ⟨rfl, rfl⟩⟩, Below.refl _ _⟩
  · have H := Lib.hid (And.intro hrow (And.intro hl h1))
    clear hrow hl h1
    go_enter Tryz.func95, Tryz.ntmps95
    go_wp2_with (at_builtin; refine appI _ rfl (.tmp 5) (.tmp 6) rfl w.heap.size _ 0 [] rfl (World.ownsRow_lit w #[] 0 (Nat.le_refl _) (by decide) rfl) (some ⟨b, of, fr⟩) n c B cells rfl H.out.2.1 (H.out.1.keep (fun j hj => heap_alloc_old w _ (by omega))) H.out.2.2 (by omega) (by simp) ?_; intro v2 w2 hown2 hgr2 hnil2)
    go_ret
    have hs2 := hgr2.size
    simp at hs2
    exact ⟨v2, rfl, by simpa using hown2, ⟨hgr2.os, hgr2.tape, hgr2.output, by omega, fun j hj => (hgr2.block j (by simp; omega) (fun he => by injection (show some j = some w.heap.size from he) with h; omega)).trans (heap_alloc_old w _ hj)⟩⟩

set_option maxHeartbeats 400000 in
set_option maxRecDepth 100000 in
theorem cloneO (A : Option Addr) (n c B : Nat) (cells : List Value) (w : World) (hrow : RowOf w B A cells) (hl : cells.length = n * 2) (h1 : ∀ u ∈ cells, u.oneCell' = true) (hn : n ≤ 1048576) (hB : B ≤ w.heap.size) :
    Calls Tryz.prog 178 #[.slice A n c] w fun e w' => ∃ v, e = .returned v ∧ w'.ownsRow w.heap.size 96 2 v n cells ∧ Below w.heap.size w w' := by
  have q : ∀ (w : World) (a : Option Addr) (n c n' c' : Nat), (binOp .eql 54 (.slice a n c) (.slice none n' c')).run Tryz.prog w = .ok (.bool a.isNone) w := fun w a n c n' c' => Lib.run_eql_slice_nil w _ _ a n c n' c' Tryz.underlying54
  rcases A with _ | ⟨b, of, fr⟩
  · obtain rfl : cells = [] := by
      rcases cells with _ | ⟨u, us⟩
      · rfl
      · obtain ⟨_, _, h, _⟩ := hrow 0 u rfl
        cases h
    obtain rfl : n = 0 := by simp at hl; omega
    go_enter Tryz.func178, Tryz.ntmps178
    go_wp2_with fail
    go_ret
    exact ⟨_, rfl, ⟨rfl, .inl ⟨rfl, rfl⟩⟩, Below.refl _ _⟩
  · have H := Lib.hid (And.intro hrow (And.intro hl h1))
    clear hrow hl h1
    go_enter Tryz.func178, Tryz.ntmps178
    go_wp2_with (at_builtin; refine appO _ rfl (.tmp 5) (.tmp 6) rfl w.heap.size _ 0 [] rfl (World.ownsRow_lit w #[] 0 (Nat.le_refl _) (by decide) rfl) (some ⟨b, of, fr⟩) n c B cells rfl H.out.2.1 (H.out.1.keep (fun j hj => heap_alloc_old w _ (by omega))) H.out.2.2 (by omega) (by simp) ?_; intro v2 w2 hown2 hgr2 hnil2)
    go_ret
    have hs2 := hgr2.size
    simp at hs2
    exact ⟨v2, rfl, by simpa using hown2, ⟨hgr2.os, hgr2.tape, hgr2.output, by omega, fun j hj => (hgr2.block j (by simp; omega) (fun he => by injection (show some j = some w.heap.size from he) with h; omega)).trans (heap_alloc_old w _ hj)⟩⟩

set_option maxHeartbeats 400000 in
set_option maxRecDepth 100000 in
theorem cloneR (A : Option Addr) (n c B : Nat) (cells : List Value) (w : World) (hrow : RowOf w B A cells) (hl : cells.length = n * 2) (h1 : ∀ u ∈ cells, u.oneCell' = true) (hn : n ≤ 1048576) (hB : B ≤ w.heap.size) :
    Calls Tryz.prog 177 #[.slice A n c] w fun e w' => ∃ v, e = .returned v ∧ w'.ownsRow w.heap.size 99 2 v n cells ∧ Below w.heap.size w w' := by
  have q : ∀ (w : World) (a : Option Addr) (n c n' c' : Nat), (binOp .eql 26 (.slice a n c) (.slice none n' c')).run Tryz.prog w = .ok (.bool a.isNone) w := fun w a n c n' c' => Lib.run_eql_slice_nil w _ _ a n c n' c' Tryz.underlying26
  rcases A with _ | ⟨b, of, fr⟩
  · obtain rfl : cells = [] := by
      rcases cells with _ | ⟨u, us⟩
      · rfl
      · obtain ⟨_, _, h, _⟩ := hrow 0 u rfl
        cases h
    obtain rfl : n = 0 := by simp at hl; omega
    go_enter Tryz.func177, Tryz.ntmps177
    go_wp2_with fail
    go_ret
    exact ⟨_, rfl, ⟨rfl, .inl ⟨rfl, rfl⟩⟩, Below.refl _ _⟩
  · have H := Lib.hid (And.intro hrow (And.intro hl h1))
    clear hrow hl h1
    go_enter Tryz.func177, Tryz.ntmps177
    go_wp2_with (at_builtin; refine appR _ rfl (.tmp 5) (.tmp 6) rfl w.heap.size _ 0 [] rfl (World.ownsRow_lit w #[] 0 (Nat.le_refl _) (by decide) rfl) (some ⟨b, of, fr⟩) n c B cells rfl H.out.2.1 (H.out.1.keep (fun j hj => heap_alloc_old w _ (by omega))) H.out.2.2 (by omega) (by simp) ?_; intro v2 w2 hown2 hgr2 hnil2)
    go_ret
    have hs2 := hgr2.size
    simp at hs2
    exact ⟨v2, rfl, by simpa using hown2, ⟨hgr2.os, hgr2.tape, hgr2.output, by omega, fun j hj => (hgr2.block j (by simp; omega) (fun he => by injection (show some j = some w.heap.size from he) with h; omega)).trans (heap_alloc_old w _ hj)⟩⟩

set_option maxHeartbeats 400000 in
set_option maxRecDepth 100000 in
theorem cloneT (A : Option Addr) (n c B : Nat) (cells : List Value) (w : World) (hrow : RowOf w B A cells) (hl : cells.length = n * 1) (h1 : ∀ u ∈ cells, u.oneCell' = true) (hn : n ≤ 1048576) (hB : B ≤ w.heap.size) :
    Calls Tryz.prog 96 #[.slice A n c] w fun e w' => ∃ v, e = .returned v ∧ w'.ownsRow w.heap.size 9 1 v n cells ∧ Below w.heap.size w w' := by
  have q : ∀ (w : World) (a : Option Addr) (n c n' c' : Nat), (binOp .eql 25 (.slice a n c) (.slice none n' c')).run Tryz.prog w = .ok (.bool a.isNone) w := fun w a n c n' c' => Lib.run_eql_slice_nil w _ _ a n c n' c' Tryz.underlying25
  rcases A with _ | ⟨b, of, fr⟩
  · obtain rfl : cells = [] := by
      rcases cells with _ | ⟨u, us⟩
      · rfl
      · obtain ⟨_, _, h, _⟩ := hrow 0 u rfl
        cases h
    obtain rfl : n = 0 := by simp at hl; omega
    go_enter Tryz.func96, Tryz.ntmps96
    go_wp2_with fail
    go_ret
    exact ⟨_, rfl, ⟨rfl, .inl ⟨rfl, rfl⟩⟩, Below.refl _ _⟩
  · have H := Lib.hid (And.intro hrow (And.intro hl h1))
    clear hrow hl h1
    go_enter Tryz.func96, Tryz.ntmps96
    go_wp2_with (at_builtin; refine appT _ rfl (.tmp 5) (.tmp 6) rfl w.heap.size _ 0 [] rfl (World.ownsRow_lit w #[] 0 (Nat.le_refl _) (by decide) rfl) (some ⟨b, of, fr⟩) n c B cells rfl H.out.2.1 (H.out.1.keep (fun j hj => heap_alloc_old w _ (by omega))) H.out.2.2 (by omega) (by simp) ?_; intro v2 w2 hown2 hgr2 hnil2)
    go_ret
    have hs2 := hgr2.size
    simp at hs2
    exact ⟨v2, rfl, by simpa using hown2, ⟨hgr2.os, hgr2.tape, hgr2.output, by omega, fun j hj => (hgr2.block j (by simp; omega) (fun he => by injection (show some j = some w.heap.size from he) with h; omega)).trans (heap_alloc_old w _ hj)⟩⟩

set_option maxHeartbeats 400000 in
set_option maxRecDepth 100000 in
theorem cloneV (A : Option Addr) (n c B : Nat) (cells : List Value) (w : World) (hrow : RowOf w B A cells) (hl : cells.length = n * 7) (h1 : ∀ u ∈ cells, u.oneCell' = true) (hn : n ≤ 1048577) (hB : B ≤ w.heap.size) :
    Calls Tryz.prog 169 #[.slice A n c] w fun e w' => ∃ v, e = .returned v ∧ w'.ownsRow w.heap.size 28 7 v n cells ∧ Below w.heap.size w w' := by
  have q : ∀ (w : World) (a : Option Addr) (n c n' c' : Nat), (binOp .eql 24 (.slice a n c) (.slice none n' c')).run Tryz.prog w = .ok (.bool a.isNone) w := fun w a n c n' c' => Lib.run_eql_slice_nil w _ _ a n c n' c' Tryz.underlying24
  rcases A with _ | ⟨b, of, fr⟩
  · obtain rfl : cells = [] := by
      rcases cells with _ | ⟨u, us⟩
      · rfl
      · obtain ⟨_, _, h, _⟩ := hrow 0 u rfl
        cases h
    obtain rfl : n = 0 := by simp at hl; omega
    go_enter Tryz.func169, Tryz.ntmps169
    go_wp2_with fail
    go_ret
    exact ⟨_, rfl, ⟨rfl, .inl ⟨rfl, rfl⟩⟩, Below.refl _ _⟩
  · have H := Lib.hid (And.intro hrow (And.intro hl h1))
    clear hrow hl h1
    go_enter Tryz.func169, Tryz.ntmps169
    go_wp2_with (at_builtin; refine appV _ rfl (.tmp 5) (.tmp 6) rfl w.heap.size _ 0 [] rfl (World.ownsRow_lit w #[] 0 (Nat.le_refl _) (by decide) rfl) (some ⟨b, of, fr⟩) n c B cells rfl H.out.2.1 (H.out.1.keep (fun j hj => heap_alloc_old w _ (by omega))) H.out.2.2 (by omega) (by simp) ?_; intro v2 w2 hown2 hgr2 hnil2)
    go_ret
    have hs2 := hgr2.size
    simp at hs2
    exact ⟨v2, rfl, by simpa using hown2, ⟨hgr2.os, hgr2.tape, hgr2.output, by omega, fun j hj => (hgr2.block j (by simp; omega) (fun he => by injection (show some j = some w.heap.size from he) with h; omega)).trans (heap_alloc_old w _ hj)⟩⟩
end Go.Proofs.YtabcmnlmmpbmnaaGreat

/-
  Draws of numbers, texts and origins.
-/

namespace Go.Proofs.YtabcmnlmmpbmnaaGreat
open Go.RowKit
set_option linter.unusedVariables false

set_option maxHeartbeats 400000 in
set_option maxRecDepth 100000 in
theorem drawNum_any (w : World) (B blk : Nat) (h : Cur w B blk) :
    Calls Tryz.prog 108 #[.pointer (some ⟨blk, 0, none⟩)] w (Drawn (-1000000000) 1000000000 B blk w) := by
  have H := Lib.hid h
  clear h
  go_enter Tryz.func108, Tryz.ntmps108
  go_wp2_with fail
  refine (once_any _ B blk 12 H.out (by omega) (by omega)).mono ?_
  rintro e w1 ⟨b, rfl, hg1, hc1⟩
  have H1 := Lib.hid (And.intro hg1 hc1)
  clear hg1 hc1
  cases b with
  | true =>
    go_wp2_with fail
    refine (pickInt_lit _ B blk 5 5 _ _ H1.out.2 rfl (by omega) (by omega)).mono ?_
    rintro e w2 ⟨k, v, hv, rfl, hg2, hc2⟩
    obtain ⟨x, h1, h2, rfl⟩ := ints_mem [1000000000, -1000000000, 999999999, 500000000, 40000] (-1000000000) 1000000000 (by decide) hv
    have H2 := Lib.hid (And.intro (grown_trans H1.out.1 hg2) hc2)
    clear hg2 hc2 hv
    go_wp2_with fail
    go_ret
    exact ⟨x, h1, h2, rfl, H2.out.1, H2.out.2⟩
  | false =>
    go_wp2_with fail
    refine (below_pos _ B blk 12 H1.out.2 (by omega) (by omega)).mono ?_
    rintro e w2 ⟨x, h1, h2, rfl, hg2, hc2⟩
    have H2 := Lib.hid (And.intro (grown_trans H1.out.1 hg2) hc2)
    clear hg2 hc2
    go_wp2_with fail
    go_ret
    exact ⟨x - 3, by omega, by omega, rfl, H2.out.1, H2.out.2⟩

def txtWords : List (List UInt8) := [[], [97], [98], [97, 98], [104, 101, 108, 108, 111], [116, 119, 101, 110, 116, 121, 32, 99, 104, 97, 114, 97, 99, 116, 101, 114, 115, 32, 111, 107], [110, 105, 110, 101, 116, 101, 101, 110, 32, 99, 104, 97, 114, 97, 99, 116, 101, 114, 46]]
set_option maxHeartbeats 400000 in
set_option maxRecDepth 100000 in
theorem drawText_any (w : World) (B blk : Nat) (h : Cur w B blk) :
    Calls Tryz.prog 110 #[.pointer (some ⟨blk, 0, none⟩)] w fun e w' => ∃ s : ByteArray, s.size ≤ 20 ∧ e = .returned (.string s) ∧ w.grownBy w' (some blk) ∧ Cur w' B blk := by
  have H := Lib.hid h
  clear h
  go_enter Tryz.func110, Tryz.ntmps110
  go_wp2_with fail
  refine (pick_lit _ B blk 7 7 _ _ H.out rfl (by omega) (by omega)).mono ?_
  rintro e w2 ⟨k, v, hv, rfl, hg2, hc2⟩
  obtain ⟨l, _, hl, rfl⟩ := strs_mem txtWords 20 (by decide) hv
  have H2 := Lib.hid (And.intro hg2 hc2)
  clear hg2 hc2 hv
  go_wp2_with fail
  go_ret
  exact ⟨⟨l.toArray⟩, hl, rfl, H2.out.1, H2.out.2⟩

/-- Origins as cells. -/
def orgV (ps : List (Int × Int)) : List Value := ps.flatMap fun p => [.int .i64 p.1, .int .i64 p.2]
def orgD (ps : List (Int × Int)) : List Dt := ps.map fun p => .agg [.int p.1, .int p.2]
theorem orgV_app (ps : List (Int × Int)) (a b : Int) : orgV ps ++ [.int .i64 a, .int .i64 b] = orgV (ps ++ [(a, b)]) := by simp [orgV]
theorem ow_org (w : World) : ∀ ps : List (Int × Int), OwL w (orgD ps) (orgV ps) []
  | [] => by simp [OwL, orgV, orgD]
  | p :: ps => by
    have h1 := ow_org w ps
    simp only [orgD, List.map_cons, OwL] at h1 ⊢
    exact ⟨[.int .i64 p.1, .int .i64 p.2], orgV ps, [], [], by simp [orgV], rfl, by simp only [Ow, OwL]; exact ⟨[_], _, [], [], rfl, rfl, ⟨rfl, rfl⟩, [_], _, [], [], rfl, rfl, ⟨rfl, rfl⟩, rfl, rfl⟩, h1⟩
theorem orgD_org (ps : List (Int × Int)) : ∀ x ∈ orgD ps, IsOrg x := by
  intro x hx
  obtain ⟨p, _, rfl⟩ := List.mem_map.1 hx
  exact ⟨p.1, p.2, rfl⟩

/-- Origins are drawn, in memory of their own. -/
def DrawnF (B blk : Nat) (w : World) (e : Ending) (w' : World) : Prop := ∃ (ps : List (Int × Int)) (v : Value) (fp : List Nat), ps.length ≤ 2 ∧ e = .returned v ∧ DrSt w B blk [owA (.lst (orgD ps)) [v] fp] w'
set_option maxHeartbeats 1600000 in
set_option maxRecDepth 100000 in
theorem drawFrom_any (w : World) (B blk : Nat) (h : Cur w B blk) :
    Calls Tryz.prog 201 #[.pointer (some ⟨blk, 0, none⟩)] w (DrawnF B blk w) := by
  have H := Lib.hid ((DrSt.start h).lit 96 2)
  clear h
  go_enter Tryz.func201, Tryz.ntmps201
  go_wp2_with fail
  refine (below_pos _ B blk 3 H.out.cur (by omega) (by omega)).mono ?_
  rintro e w1 ⟨n, hn0, hn1, rfl, hg1, hc1⟩
  have H1 := Lib.hid (H.out.draw hg1 hc1)
  clear hg1 hc1 H
  go_wp2_with fail
  go_loopw [3, 4, 6] (fun v cl i wr => ∃ (k : Nat) (ps : List (Int × Int)) (cell : Int), (k : Int) ≤ n ∧ i = .int .i64 k ∧ cl = .int .i64 cell ∧ ps.length = k ∧ 0 ≤ cell ∧ cell ≤ 1 + 2 * (k : Int) ∧ DrSt w B blk [rowA 96 2 v k (orgV ps)] wr) (fun _ _ i _ => n.toNat - (intOf i).toNat)
  case atStart => exact ⟨0, [], 1, by omega, rfl, rfl, rfl, by omega, by omega, H1.out⟩
  case round =>
    obtain ⟨k, ps, cell, hk, rfl, rfl, hps, hc0, hc1, hS⟩ := hrel
    by_cases hlt : (k : Int) < n
    · have HS := Lib.hid hS
      clear hS
      go_wp2_with fail
      refine (below_pos _ B blk 2 HS.out.cur (by omega) (by omega)).mono ?_
      rintro e w2 ⟨a, ha0, ha1, rfl, hg2, hc2⟩
      have HS2 := Lib.hid (HS.out.draw hg2 hc2)
      have hs2 := HS2.out.size
      clear hg2 hc2 HS
      go_wp2_with (at_builtin; refine appO _ rfl (.tmp 15) (.tmp 23) rfl w.heap.size _ k (orgV ps) rfl (HS2.out.row.alloc _) (some ⟨w2.heap.size, 0, none⟩) 1 1 (w2.heap.size + 1) [.int .i64 cell, .int .i64 (k + a * 2)] rfl rfl (row_new w2 #[.int .i64 cell, .int .i64 (k + a * 2)] 96) (fun u hu => by simp at hu; rcases hu with rfl | rfl <;> rfl) (by omega) (by simp; omega) ?_; intro v3 w3 hown3 hgr3 hn3)
      have h3 := (HS2.out.alloc (.cells #[.int .i64 cell, .int .i64 (k + a * 2)] 96)).app hgr3 hown3 hn3.2
      rw [orgV_app] at h3
      have HS3 := Lib.hid h3
      clear h3 hown3 hgr3 hn3 HS2
      refine (below_pos _ B blk 2 HS3.out.cur (by omega) (by omega)).mono ?_
      rintro e w4 ⟨b, hb0, hb1, rfl, hg4, hc4⟩
      have HS4 := Lib.hid (HS3.out.draw hg4 hc4)
      clear hg4 hc4 HS3
      go_wp2_with fail
      exact ⟨⟨k + 1, ps ++ [(cell, k + a * 2)], cell + 1 + b, by omega, by simp, rfl, by simp; omega, by omega, by omega, HS4.out⟩, by simp [intOf]; omega⟩
    · obtain ⟨A, c, rfl⟩ := own_slice hS.row
      have h1 := hS.alter fun o => o.close0 (xs := orgD ps) (fun w' => ow_org w' ps) (by simp [orgD, hps])
      have HF := Lib.hid h1
      clear hS h1
      go_wp2_with fail
      go_ret
      exact ⟨ps, .slice A k c, _, (by omega), rfl, HF.out⟩
end Go.Proofs.YtabcmnlmmpbmnaaGreat
