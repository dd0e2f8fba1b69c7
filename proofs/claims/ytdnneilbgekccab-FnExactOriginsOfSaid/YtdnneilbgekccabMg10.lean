/-
  Texts that the proof rests on, put together: MSt2, Put7, Clone, Held7.
-/
import Derived.Test.YtdnneilbgekccabMg9
import Derived.Test.YtdnneilbgekccabMg6
/-
  What a call holds while it builds: more steps.
-/

namespace Go.Proofs.Ytdnneilbgekccab
open Go.RowKit
set_option linter.unusedVariables false

section
variable {w wx wy : World} {L M : List Asn}
theorem MSt.set7 {e : TypeId} {k b : Nat} {xs : List Value} (h : MSt w (boxA e k b xs :: L) wx) (us : List Value) (hu : us.length = k) : MSt w (boxA e k b us :: L) (wx.setCells b 0 us) := by
  refine ⟨h.objs.boxAll us hu h.size, ?_⟩
  have hb := (h.box.lt b rfl).1
  have hg := (own_setCells us 0 wx xs h.box).2
  exact h.bel.grown hg h.size fun k hk => by injection hk with hk; subst hk; exact hb
theorem MSt.pre (h : MSt w (M ++ L) wx) : MSt w M wx :=
  ⟨⟨fun x hx => h.1.1 x (List.mem_append.2 (.inl hx)), (List.pairwise_append.1 h.1.2).1⟩, h.2⟩
theorem MSt.first {a : Asn} (h : MSt w (a :: L) wx) : MSt w [a] wx := MSt.pre (M := [a]) h
theorem MSt.bare {a : Asn} (h : MSt w L wx) (hh : a.holds wx) (hl : a.Loc) (hf : ∀ b, ¬ a.foot b) : MSt w (a :: L) wx :=
  h.alter fun o => o.cons ⟨hh, hl, fun b hb => absurd hb (hf b)⟩ fun x hx k hk => absurd hk (hf k)
/-- A value's lists put together. -/
theorem MSt.value (k n s : Int) (t : ByteArray) {l c r : List Dt} {v4 v5 v6 : Value} {f4 f5 f6 : List Nat} (h : MSt w (owA (.lst l) [v4] f4 :: owA (.lst c) [v5] f5 :: owA (.lst r) [v6] f6 :: L) wx) :
    MSt w (owA (.agg [.int k, .int n, .int s, .str t, .lst l, .lst c, .lst r]) [.int .i64 k, .int .i64 n, .int .i64 s, .string t, v4, v5, v6] (f4 ++ (f5 ++ f6)) :: L) wx :=
  h.alter fun o => owVal_join k n s t o
theorem MSt.list {v : Value} {l : List Dt} {f : List Nat} (h : MSt w (owA (.lst l) [v] f :: L) wx) : MSt w (owA (.agg [.int 3, .int 0, .int 0, .str ⟨#[]⟩, .lst l, .lst [], .lst []]) [.int .i64 3, .int .i64 0, .int .i64 0, .string ⟨#[]⟩, v, .slice none 0 0, .slice none 0 0] f :: L) wx :=
  h.alter fun o => owA_weak o fun w' h => ow_lst h
end
/-- Memory of the call's own read: nothing below it is touched. -/
theorem MSt.read {w wx : World} {L : List Asn} {d : Dt} {cs : List Value} {fp : List Nat} (h : MSt w (owA d cs fp :: L) wx) : Rd wx wx.heap.size d cs := h.objs.out.1.read
end Go.Proofs.Ytdnneilbgekccab

/-
  A value stored into a box, cell by cell, and what lies there then.
-/

namespace Go.Proofs.Ytdnneilbgekccab
open Go.RowKit
set_option linter.unusedVariables false

theorem MSt.put {w wx : World} {L : List Asn} {e : TypeId} {b : Nat} {xs : List Value} (h : MSt w (boxA e 7 b xs :: L) wx) (u0 u1 u2 u3 u4 u5 u6 : Value) :
    ∃ W7, W7 = ((((((wx.setCell ⟨b, 0, none⟩ u0).setCell ⟨b, 1, none⟩ u1).setCell ⟨b, 2, none⟩ u2).setCell ⟨b, 3, none⟩ u3).setCell ⟨b, 4, none⟩ u4).setCell ⟨b, 5, none⟩ u5).setCell ⟨b, 6, none⟩ u6 ∧
      MSt w (boxA e 7 b [u0, u1, u2, u3, u4, u5, u6] :: L) W7 ∧ W7.cell? ⟨b, 0, none⟩ = some u0 ∧ W7.cell? ⟨b, 1, none⟩ = some u1 ∧ W7.cell? ⟨b, 2, none⟩ = some u2 ∧ W7.cell? ⟨b, 3, none⟩ = some u3 ∧ W7.cell? ⟨b, 4, none⟩ = some u4 ∧ W7.cell? ⟨b, 5, none⟩ = some u5 ∧ W7.cell? ⟨b, 6, none⟩ = some u6 := by
  have hg := h.set7 [u0, u1, u2, u3, u4, u5, u6] rfl
  simp only [World.setCells, Nat.zero_add, Nat.reduceAdd] at hg
  obtain ⟨z0, z1, z2, z3, z4, z5, z6, _⟩ := box7 hg.box
  exact ⟨_, rfl, hg, z0, z1, z2, z3, z4, z5, z6⟩
/-- Fewer things, in their order. -/
theorem MSt.subB {w wx : World} {L M : List Asn} (h : MSt w L wx) (hs : M.Sublist L) : MSt w M wx :=
  ⟨⟨fun x hx => h.1.1 x (hs.subset hx), h.1.2.sublist hs⟩, h.2⟩
end Go.Proofs.Ytdnneilbgekccab

/-
  Cells of old blocks behind a new block, or behind a value stored into another block.
-/

namespace Go.Proofs.Ytdnneilbgekccab
open Go.RowKit
set_option linter.unusedVariables false

theorem st2 {w : World} {g b i : Nat} {u v c : Value} (hne : b ≠ g) (h : w.cell? ⟨b, i, none⟩ = some c) : ((w.setCell ⟨g, 0, none⟩ u).setCell ⟨g, 1, none⟩ v).cell? ⟨b, i, none⟩ = some c := by
  rw [← h]
  unfold World.cell?
  rw [Below.heap_setCell _ ⟨g, 1, none⟩ v b hne, Below.heap_setCell w ⟨g, 0, none⟩ u b hne]
end Go.Proofs.Ytdnneilbgekccab
