/-
  Texts that the proof rests on, put together: Stk2, Clone, DrawV1.
-/
import Derived.Test.YtkjbhdfjdkhebaaGreatMgP13
import Derived.Test.YtkjbhdfjdkhebaaGreatMgP6
import Derived.Test.YtkjbhdfjdkhebaaGreatMgP7
import Derived.Test.YtkjbhdfjdkhebaaGreatMgP3
import Derived.Test.YtkjbhdfjdkhebaaGreatMgP14
/-
  'append' onto owned slices of numbers, origins, rows and texts, from slices nil or not. (Written by gencopy.py.)
-/

namespace Go.Proofs.YtkjbhdfjdkhebaaGreat
open Go.RowKit
set_option linter.unusedVariables false

theorem wpI {o : Oper} {a : Act} {K : Act → World → Prop} {Q : Exit → Act → World → Prop} (w : World) (s x : Operand)
    (ho : o.op = .call { callee := .builtin .append, args := #[s, x], argTypes := #[92, 92] })
    (base : Nat) (v : Value) (n : Nat) (xs : List Value) (hs : a.eval s = v) (hown : w.ownsRow base 3 1 v n xs)
    (A : Option Addr) (m c B : Nat) (news : List Value) (hx : a.eval x = .slice A m c) (hl : news.length = m * 1) (hrow : RowOf w B A news) (h1 : ∀ u ∈ news, u.oneCell' = true)
    (hb : n + m ≤ 4194304) (hbase : base ≤ w.heap.size)
    (h : ∀ v' w', w'.ownsRow base 3 1 v' (n + m) (xs ++ news) → w.grownBy w' v.ownBlock → ((v' = .slice none 0 0 ↔ v = .slice none 0 0 ∧ m = 0) ∧ (v'.ownBlock = v.ownBlock ∨ v'.ownBlock = some w.heap.size)) → K (a.put o.dst v') w') : Oper.wp Tryz.prog o a w K Q := by
  obtain ⟨i0, hi, hz0, hz1, hz2⟩ := info_parts intInfoT
  exact wp_append_src w s x 92 ho base 3 i0 _ 1 8 Tryz.underlying92 hi hz0 hz1 hz2 rfl (by decide) v n xs hs hown A m c B news hx hl hrow h1 (by unfold maxLen; omega) (by omega) hbase h
theorem appI {ops : Array Oper} {rest : List Oper} {o : Oper} {a : Act} {Q : Exit → Act → World → Prop} (w : World) (hgd : o.guard = none) (s x : Operand)
    (ho : o.op = .call { callee := .builtin .append, args := #[s, x], argTypes := #[92, 92] })
    (base : Nat) (v : Value) (n : Nat) (xs : List Value) (hs : a.eval s = v) (hown : w.ownsRow base 3 1 v n xs)
    (A : Option Addr) (m c B : Nat) (news : List Value) (hx : a.eval x = .slice A m c) (hl : news.length = m * 1) (hrow : RowOf w B A news) (h1 : ∀ u ∈ news, u.oneCell' = true)
    (hb : n + m ≤ 4194304) (hbase : base ≤ w.heap.size)
    (h : ∀ v' w', w'.ownsRow base 3 1 v' (n + m) (xs ++ news) → w.grownBy w' v.ownBlock → ((v' = .slice none 0 0 ↔ v = .slice none 0 0 ∧ m = 0) ∧ (v'.ownBlock = v.ownBlock ∨ v'.ownBlock = some w.heap.size)) → wpList Tryz.prog ops Q rest (a.put o.dst v') w') : wpList Tryz.prog ops Q (o :: rest) a w :=
  wpList_plain hgd fun _ hK => wpI w s x ho base v n xs hs hown A m c B news hx hl hrow h1 hb hbase fun v' w' h2 h3 h4 => hK _ _ (h v' w' h2 h3 h4)
theorem stepI {ops : Array Oper} {o : Oper} {a : Act} {K : Act → World → Prop} {Q : Exit → Act → World → Prop} {E : Prop} (w : World) (hgd : o.guard = none) (s x : Operand)
    (ho : o.op = .call { callee := .builtin .append, args := #[s, x], argTypes := #[92, 92] })
    (base : Nat) (v : Value) (n : Nat) (xs : List Value) (hs : a.eval s = v) (hown : w.ownsRow base 3 1 v n xs)
    (A : Option Addr) (m c B : Nat) (news : List Value) (hx : a.eval x = .slice A m c) (hl : news.length = m * 1) (hrow : RowOf w B A news) (h1 : ∀ u ∈ news, u.oneCell' = true)
    (hb : n + m ≤ 4194304) (hbase : base ≤ w.heap.size)
    (h : ∀ v' w', w'.ownsRow base 3 1 v' (n + m) (xs ++ news) → w.grownBy w' v.ownBlock → ((v' = .slice none 0 0 ↔ v = .slice none 0 0 ∧ m = 0) ∧ (v'.ownBlock = v.ownBlock ∨ v'.ownBlock = some w.heap.size)) → K (a.put o.dst v') w') : if Region.wanted o (yielded ops a.tmps) = true then Oper.wp Tryz.prog o a w K Q else E := by
  have hw : Region.wanted o (yielded ops a.tmps) = true := by simp [Region.wanted, hgd]
  rw [if_pos hw]
  exact wpI w s x ho base v n xs hs hown A m c B news hx hl hrow h1 hb hbase h

theorem wpO {o : Oper} {a : Act} {K : Act → World → Prop} {Q : Exit → Act → World → Prop} (w : World) (s x : Operand)
    (ho : o.op = .call { callee := .builtin .append, args := #[s, x], argTypes := #[91, 91] })
    (base : Nat) (v : Value) (n : Nat) (xs : List Value) (hs : a.eval s = v) (hown : w.ownsRow base 90 2 v n xs)
    (A : Option Addr) (m c B : Nat) (news : List Value) (hx : a.eval x = .slice A m c) (hl : news.length = m * 2) (hrow : RowOf w B A news) (h1 : ∀ u ∈ news, u.oneCell' = true)
    (hb : n + m ≤ 4194304) (hbase : base ≤ w.heap.size)
    (h : ∀ v' w', w'.ownsRow base 90 2 v' (n + m) (xs ++ news) → w.grownBy w' v.ownBlock → ((v' = .slice none 0 0 ↔ v = .slice none 0 0 ∧ m = 0) ∧ (v'.ownBlock = v.ownBlock ∨ v'.ownBlock = some w.heap.size)) → K (a.put o.dst v') w') : Oper.wp Tryz.prog o a w K Q := by
  obtain ⟨i0, hi, hz0, hz1, hz2⟩ := info_parts OriginInfo
  exact wp_append_src w s x 91 ho base 90 i0 _ 2 16 Tryz.underlying91 hi hz0 hz1 hz2 rfl (by decide) v n xs hs hown A m c B news hx hl hrow h1 (by unfold maxLen; omega) (by omega) hbase h
theorem appO {ops : Array Oper} {rest : List Oper} {o : Oper} {a : Act} {Q : Exit → Act → World → Prop} (w : World) (hgd : o.guard = none) (s x : Operand)
    (ho : o.op = .call { callee := .builtin .append, args := #[s, x], argTypes := #[91, 91] })
    (base : Nat) (v : Value) (n : Nat) (xs : List Value) (hs : a.eval s = v) (hown : w.ownsRow base 90 2 v n xs)
    (A : Option Addr) (m c B : Nat) (news : List Value) (hx : a.eval x = .slice A m c) (hl : news.length = m * 2) (hrow : RowOf w B A news) (h1 : ∀ u ∈ news, u.oneCell' = true)
    (hb : n + m ≤ 4194304) (hbase : base ≤ w.heap.size)
    (h : ∀ v' w', w'.ownsRow base 90 2 v' (n + m) (xs ++ news) → w.grownBy w' v.ownBlock → ((v' = .slice none 0 0 ↔ v = .slice none 0 0 ∧ m = 0) ∧ (v'.ownBlock = v.ownBlock ∨ v'.ownBlock = some w.heap.size)) → wpList Tryz.prog ops Q rest (a.put o.dst v') w') : wpList Tryz.prog ops Q (o :: rest) a w :=
  wpList_plain hgd fun _ hK => wpO w s x ho base v n xs hs hown A m c B news hx hl hrow h1 hb hbase fun v' w' h2 h3 h4 => hK _ _ (h v' w' h2 h3 h4)
theorem stepO {ops : Array Oper} {o : Oper} {a : Act} {K : Act → World → Prop} {Q : Exit → Act → World → Prop} {E : Prop} (w : World) (hgd : o.guard = none) (s x : Operand)
    (ho : o.op = .call { callee := .builtin .append, args := #[s, x], argTypes := #[91, 91] })
    (base : Nat) (v : Value) (n : Nat) (xs : List Value) (hs : a.eval s = v) (hown : w.ownsRow base 90 2 v n xs)
    (A : Option Addr) (m c B : Nat) (news : List Value) (hx : a.eval x = .slice A m c) (hl : news.length = m * 2) (hrow : RowOf w B A news) (h1 : ∀ u ∈ news, u.oneCell' = true)
    (hb : n + m ≤ 4194304) (hbase : base ≤ w.heap.size)
    (h : ∀ v' w', w'.ownsRow base 90 2 v' (n + m) (xs ++ news) → w.grownBy w' v.ownBlock → ((v' = .slice none 0 0 ↔ v = .slice none 0 0 ∧ m = 0) ∧ (v'.ownBlock = v.ownBlock ∨ v'.ownBlock = some w.heap.size)) → K (a.put o.dst v') w') : if Region.wanted o (yielded ops a.tmps) = true then Oper.wp Tryz.prog o a w K Q else E := by
  have hw : Region.wanted o (yielded ops a.tmps) = true := by simp [Region.wanted, hgd]
  rw [if_pos hw]
  exact wpO w s x ho base v n xs hs hown A m c B news hx hl hrow h1 hb hbase h

theorem wpR {o : Oper} {a : Act} {K : Act → World → Prop} {Q : Exit → Act → World → Prop} (w : World) (s x : Operand)
    (ho : o.op = .call { callee := .builtin .append, args := #[s, x], argTypes := #[26, 26] })
    (base : Nat) (v : Value) (n : Nat) (xs : List Value) (hs : a.eval s = v) (hown : w.ownsRow base 94 2 v n xs)
    (A : Option Addr) (m c B : Nat) (news : List Value) (hx : a.eval x = .slice A m c) (hl : news.length = m * 2) (hrow : RowOf w B A news) (h1 : ∀ u ∈ news, u.oneCell' = true)
    (hb : n + m ≤ 4194304) (hbase : base ≤ w.heap.size)
    (h : ∀ v' w', w'.ownsRow base 94 2 v' (n + m) (xs ++ news) → w.grownBy w' v.ownBlock → ((v' = .slice none 0 0 ↔ v = .slice none 0 0 ∧ m = 0) ∧ (v'.ownBlock = v.ownBlock ∨ v'.ownBlock = some w.heap.size)) → K (a.put o.dst v') w') : Oper.wp Tryz.prog o a w K Q := by
  obtain ⟨i0, hi, hz0, hz1, hz2⟩ := info_parts RowInfo
  exact wp_append_src w s x 26 ho base 94 i0 _ 2 48 Tryz.underlying26 hi hz0 hz1 hz2 rfl (by decide) v n xs hs hown A m c B news hx hl hrow h1 (by unfold maxLen; omega) (by omega) hbase h
theorem appR {ops : Array Oper} {rest : List Oper} {o : Oper} {a : Act} {Q : Exit → Act → World → Prop} (w : World) (hgd : o.guard = none) (s x : Operand)
    (ho : o.op = .call { callee := .builtin .append, args := #[s, x], argTypes := #[26, 26] })
    (base : Nat) (v : Value) (n : Nat) (xs : List Value) (hs : a.eval s = v) (hown : w.ownsRow base 94 2 v n xs)
    (A : Option Addr) (m c B : Nat) (news : List Value) (hx : a.eval x = .slice A m c) (hl : news.length = m * 2) (hrow : RowOf w B A news) (h1 : ∀ u ∈ news, u.oneCell' = true)
    (hb : n + m ≤ 4194304) (hbase : base ≤ w.heap.size)
    (h : ∀ v' w', w'.ownsRow base 94 2 v' (n + m) (xs ++ news) → w.grownBy w' v.ownBlock → ((v' = .slice none 0 0 ↔ v = .slice none 0 0 ∧ m = 0) ∧ (v'.ownBlock = v.ownBlock ∨ v'.ownBlock = some w.heap.size)) → wpList Tryz.prog ops Q rest (a.put o.dst v') w') : wpList Tryz.prog ops Q (o :: rest) a w :=
  wpList_plain hgd fun _ hK => wpR w s x ho base v n xs hs hown A m c B news hx hl hrow h1 hb hbase fun v' w' h2 h3 h4 => hK _ _ (h v' w' h2 h3 h4)
theorem stepR {ops : Array Oper} {o : Oper} {a : Act} {K : Act → World → Prop} {Q : Exit → Act → World → Prop} {E : Prop} (w : World) (hgd : o.guard = none) (s x : Operand)
    (ho : o.op = .call { callee := .builtin .append, args := #[s, x], argTypes := #[26, 26] })
    (base : Nat) (v : Value) (n : Nat) (xs : List Value) (hs : a.eval s = v) (hown : w.ownsRow base 94 2 v n xs)
    (A : Option Addr) (m c B : Nat) (news : List Value) (hx : a.eval x = .slice A m c) (hl : news.length = m * 2) (hrow : RowOf w B A news) (h1 : ∀ u ∈ news, u.oneCell' = true)
    (hb : n + m ≤ 4194304) (hbase : base ≤ w.heap.size)
    (h : ∀ v' w', w'.ownsRow base 94 2 v' (n + m) (xs ++ news) → w.grownBy w' v.ownBlock → ((v' = .slice none 0 0 ↔ v = .slice none 0 0 ∧ m = 0) ∧ (v'.ownBlock = v.ownBlock ∨ v'.ownBlock = some w.heap.size)) → K (a.put o.dst v') w') : if Region.wanted o (yielded ops a.tmps) = true then Oper.wp Tryz.prog o a w K Q else E := by
  have hw : Region.wanted o (yielded ops a.tmps) = true := by simp [Region.wanted, hgd]
  rw [if_pos hw]
  exact wpR w s x ho base v n xs hs hown A m c B news hx hl hrow h1 hb hbase h

theorem wpT {o : Oper} {a : Act} {K : Act → World → Prop} {Q : Exit → Act → World → Prop} (w : World) (s x : Operand)
    (ho : o.op = .call { callee := .builtin .append, args := #[s, x], argTypes := #[25, 25] })
    (base : Nat) (v : Value) (n : Nat) (xs : List Value) (hs : a.eval s = v) (hown : w.ownsRow base 9 1 v n xs)
    (A : Option Addr) (m c B : Nat) (news : List Value) (hx : a.eval x = .slice A m c) (hl : news.length = m * 1) (hrow : RowOf w B A news) (h1 : ∀ u ∈ news, u.oneCell' = true)
    (hb : n + m ≤ 4194304) (hbase : base ≤ w.heap.size)
    (h : ∀ v' w', w'.ownsRow base 9 1 v' (n + m) (xs ++ news) → w.grownBy w' v.ownBlock → ((v' = .slice none 0 0 ↔ v = .slice none 0 0 ∧ m = 0) ∧ (v'.ownBlock = v.ownBlock ∨ v'.ownBlock = some w.heap.size)) → K (a.put o.dst v') w') : Oper.wp Tryz.prog o a w K Q := by
  obtain ⟨i0, hi, hz0, hz1, hz2⟩ := info_parts stringInfoT
  exact wp_append_src w s x 25 ho base 9 i0 _ 1 16 Tryz.underlying25 hi hz0 hz1 hz2 rfl (by decide) v n xs hs hown A m c B news hx hl hrow h1 (by unfold maxLen; omega) (by omega) hbase h
theorem appT {ops : Array Oper} {rest : List Oper} {o : Oper} {a : Act} {Q : Exit → Act → World → Prop} (w : World) (hgd : o.guard = none) (s x : Operand)
    (ho : o.op = .call { callee := .builtin .append, args := #[s, x], argTypes := #[25, 25] })
    (base : Nat) (v : Value) (n : Nat) (xs : List Value) (hs : a.eval s = v) (hown : w.ownsRow base 9 1 v n xs)
    (A : Option Addr) (m c B : Nat) (news : List Value) (hx : a.eval x = .slice A m c) (hl : news.length = m * 1) (hrow : RowOf w B A news) (h1 : ∀ u ∈ news, u.oneCell' = true)
    (hb : n + m ≤ 4194304) (hbase : base ≤ w.heap.size)
    (h : ∀ v' w', w'.ownsRow base 9 1 v' (n + m) (xs ++ news) → w.grownBy w' v.ownBlock → ((v' = .slice none 0 0 ↔ v = .slice none 0 0 ∧ m = 0) ∧ (v'.ownBlock = v.ownBlock ∨ v'.ownBlock = some w.heap.size)) → wpList Tryz.prog ops Q rest (a.put o.dst v') w') : wpList Tryz.prog ops Q (o :: rest) a w :=
  wpList_plain hgd fun _ hK => wpT w s x ho base v n xs hs hown A m c B news hx hl hrow h1 hb hbase fun v' w' h2 h3 h4 => hK _ _ (h v' w' h2 h3 h4)
theorem stepT {ops : Array Oper} {o : Oper} {a : Act} {K : Act → World → Prop} {Q : Exit → Act → World → Prop} {E : Prop} (w : World) (hgd : o.guard = none) (s x : Operand)
    (ho : o.op = .call { callee := .builtin .append, args := #[s, x], argTypes := #[25, 25] })
    (base : Nat) (v : Value) (n : Nat) (xs : List Value) (hs : a.eval s = v) (hown : w.ownsRow base 9 1 v n xs)
    (A : Option Addr) (m c B : Nat) (news : List Value) (hx : a.eval x = .slice A m c) (hl : news.length = m * 1) (hrow : RowOf w B A news) (h1 : ∀ u ∈ news, u.oneCell' = true)
    (hb : n + m ≤ 4194304) (hbase : base ≤ w.heap.size)
    (h : ∀ v' w', w'.ownsRow base 9 1 v' (n + m) (xs ++ news) → w.grownBy w' v.ownBlock → ((v' = .slice none 0 0 ↔ v = .slice none 0 0 ∧ m = 0) ∧ (v'.ownBlock = v.ownBlock ∨ v'.ownBlock = some w.heap.size)) → K (a.put o.dst v') w') : if Region.wanted o (yielded ops a.tmps) = true then Oper.wp Tryz.prog o a w K Q else E := by
  have hw : Region.wanted o (yielded ops a.tmps) = true := by simp [Region.wanted, hgd]
  rw [if_pos hw]
  exact wpT w s x ho base v n xs hs hown A m c B news hx hl hrow h1 hb hbase h

end Go.Proofs.YtkjbhdfjdkhebaaGreat

/-
  slices.Clone of numbers, origins, rows, texts and values. (Written by genclone.py.)
-/

namespace Go.Proofs.YtkjbhdfjdkhebaaGreat
open Go.RowKit
set_option linter.unusedVariables false

set_option maxHeartbeats 400000 in
set_option maxRecDepth 100000 in
theorem cloneI (A : Option Addr) (n c B : Nat) (cells : List Value) (w : World) (hrow : RowOf w B A cells) (hl : cells.length = n * 1) (h1 : ∀ u ∈ cells, u.oneCell' = true) (hn : n ≤ 1048576) (hB : B ≤ w.heap.size) :
    Calls Tryz.prog 94 #[.slice A n c] w fun e w' => ∃ v, e = .returned v ∧ w'.ownsRow w.heap.size 3 1 v n cells ∧ Below w.heap.size w w' := by
  have q : ∀ (w : World) (a : Option Addr) (n c n' c' : Nat), (binOp .eql 92 (.slice a n c) (.slice none n' c')).run Tryz.prog w = .ok (.bool a.isNone) w := fun w a n c n' c' => Lib.run_eql_slice_nil w _ _ a n c n' c' Tryz.underlying92
  rcases A with _ | ⟨b, of, fr⟩
  · obtain rfl : cells = [] := by
      rcases cells with _ | ⟨u, us⟩
      · rfl
      · obtain ⟨_, _, h, _⟩ := hrow 0 u rfl
        cases h
    obtain rfl : n = 0 := by simp at hl; omega
    go_enter Tryz.func94, Tryz.ntmps94
    go_wp2_with fail
    go_ret
    exact ⟨_, rfl, ⟨rfl, .inl ⟨rfl, rfl⟩⟩, Below.refl _ _⟩
  · have H := Lib.hid (And.intro hrow (And.intro hl h1))
    clear hrow hl h1
    go_enter Tryz.func94, Tryz.ntmps94
    go_wp2_with (at_builtin; refine appI _ rfl (.tmp 5) (.tmp 6) rfl w.heap.size _ 0 [] rfl (World.ownsRow_lit w #[] 0 (Nat.le_refl _) (by decide) rfl) (some ⟨b, of, fr⟩) n c B cells rfl H.out.2.1 (H.out.1.keep (fun j hj => heap_alloc_old w _ (by omega))) H.out.2.2 (by omega) (by simp) ?_; intro v2 w2 hown2 hgr2 hnil2)
    go_ret
    have hs2 := hgr2.size
    simp at hs2
    exact ⟨v2, rfl, by simpa using hown2, ⟨hgr2.os, hgr2.tape, hgr2.output, by omega, fun j hj => (hgr2.block j (by simp; omega) (fun he => by injection (show some j = some w.heap.size from he) with h; omega)).trans (heap_alloc_old w _ hj)⟩⟩

set_option maxHeartbeats 400000 in
set_option maxRecDepth 100000 in
theorem cloneO (A : Option Addr) (n c B : Nat) (cells : List Value) (w : World) (hrow : RowOf w B A cells) (hl : cells.length = n * 2) (h1 : ∀ u ∈ cells, u.oneCell' = true) (hn : n ≤ 1048576) (hB : B ≤ w.heap.size) :
    Calls Tryz.prog 163 #[.slice A n c] w fun e w' => ∃ v, e = .returned v ∧ w'.ownsRow w.heap.size 90 2 v n cells ∧ Below w.heap.size w w' := by
  have q : ∀ (w : World) (a : Option Addr) (n c n' c' : Nat), (binOp .eql 91 (.slice a n c) (.slice none n' c')).run Tryz.prog w = .ok (.bool a.isNone) w := fun w a n c n' c' => Lib.run_eql_slice_nil w _ _ a n c n' c' Tryz.underlying91
  rcases A with _ | ⟨b, of, fr⟩
  · obtain rfl : cells = [] := by
      rcases cells with _ | ⟨u, us⟩
      · rfl
      · obtain ⟨_, _, h, _⟩ := hrow 0 u rfl
        cases h
    obtain rfl : n = 0 := by simp at hl; omega
    go_enter Tryz.func163, Tryz.ntmps163
    go_wp2_with fail
    go_ret
    exact ⟨_, rfl, ⟨rfl, .inl ⟨rfl, rfl⟩⟩, Below.refl _ _⟩
  · have H := Lib.hid (And.intro hrow (And.intro hl h1))
    clear hrow hl h1
    go_enter Tryz.func163, Tryz.ntmps163
    go_wp2_with (at_builtin; refine appO _ rfl (.tmp 5) (.tmp 6) rfl w.heap.size _ 0 [] rfl (World.ownsRow_lit w #[] 0 (Nat.le_refl _) (by decide) rfl) (some ⟨b, of, fr⟩) n c B cells rfl H.out.2.1 (H.out.1.keep (fun j hj => heap_alloc_old w _ (by omega))) H.out.2.2 (by omega) (by simp) ?_; intro v2 w2 hown2 hgr2 hnil2)
    go_ret
    have hs2 := hgr2.size
    simp at hs2
    exact ⟨v2, rfl, by simpa using hown2, ⟨hgr2.os, hgr2.tape, hgr2.output, by omega, fun j hj => (hgr2.block j (by simp; omega) (fun he => by injection (show some j = some w.heap.size from he) with h; omega)).trans (heap_alloc_old w _ hj)⟩⟩

set_option maxHeartbeats 400000 in
set_option maxRecDepth 100000 in
theorem cloneR (A : Option Addr) (n c B : Nat) (cells : List Value) (w : World) (hrow : RowOf w B A cells) (hl : cells.length = n * 2) (h1 : ∀ u ∈ cells, u.oneCell' = true) (hn : n ≤ 1048576) (hB : B ≤ w.heap.size) :
    Calls Tryz.prog 162 #[.slice A n c] w fun e w' => ∃ v, e = .returned v ∧ w'.ownsRow w.heap.size 94 2 v n cells ∧ Below w.heap.size w w' := by
  have q : ∀ (w : World) (a : Option Addr) (n c n' c' : Nat), (binOp .eql 26 (.slice a n c) (.slice none n' c')).run Tryz.prog w = .ok (.bool a.isNone) w := fun w a n c n' c' => Lib.run_eql_slice_nil w _ _ a n c n' c' Tryz.underlying26
  rcases A with _ | ⟨b, of, fr⟩
  · obtain rfl : cells = [] := by
      rcases cells with _ | ⟨u, us⟩
      · rfl
      · obtain ⟨_, _, h, _⟩ := hrow 0 u rfl
        cases h
    obtain rfl : n = 0 := by simp at hl; omega
    go_enter Tryz.func162, Tryz.ntmps162
    go_wp2_with fail
    go_ret
    exact ⟨_, rfl, ⟨rfl, .inl ⟨rfl, rfl⟩⟩, Below.refl _ _⟩
  · have H := Lib.hid (And.intro hrow (And.intro hl h1))
    clear hrow hl h1
    go_enter Tryz.func162, Tryz.ntmps162
    go_wp2_with (at_builtin; refine appR _ rfl (.tmp 5) (.tmp 6) rfl w.heap.size _ 0 [] rfl (World.ownsRow_lit w #[] 0 (Nat.le_refl _) (by decide) rfl) (some ⟨b, of, fr⟩) n c B cells rfl H.out.2.1 (H.out.1.keep (fun j hj => heap_alloc_old w _ (by omega))) H.out.2.2 (by omega) (by simp) ?_; intro v2 w2 hown2 hgr2 hnil2)
    go_ret
    have hs2 := hgr2.size
    simp at hs2
    exact ⟨v2, rfl, by simpa using hown2, ⟨hgr2.os, hgr2.tape, hgr2.output, by omega, fun j hj => (hgr2.block j (by simp; omega) (fun he => by injection (show some j = some w.heap.size from he) with h; omega)).trans (heap_alloc_old w _ hj)⟩⟩

set_option maxHeartbeats 400000 in
set_option maxRecDepth 100000 in
theorem cloneT (A : Option Addr) (n c B : Nat) (cells : List Value) (w : World) (hrow : RowOf w B A cells) (hl : cells.length = n * 1) (h1 : ∀ u ∈ cells, u.oneCell' = true) (hn : n ≤ 1048576) (hB : B ≤ w.heap.size) :
    Calls Tryz.prog 95 #[.slice A n c] w fun e w' => ∃ v, e = .returned v ∧ w'.ownsRow w.heap.size 9 1 v n cells ∧ Below w.heap.size w w' := by
  have q : ∀ (w : World) (a : Option Addr) (n c n' c' : Nat), (binOp .eql 25 (.slice a n c) (.slice none n' c')).run Tryz.prog w = .ok (.bool a.isNone) w := fun w a n c n' c' => Lib.run_eql_slice_nil w _ _ a n c n' c' Tryz.underlying25
  rcases A with _ | ⟨b, of, fr⟩
  · obtain rfl : cells = [] := by
      rcases cells with _ | ⟨u, us⟩
      · rfl
      · obtain ⟨_, _, h, _⟩ := hrow 0 u rfl
        cases h
    obtain rfl : n = 0 := by simp at hl; omega
    go_enter Tryz.func95, Tryz.ntmps95
    go_wp2_with fail
    go_ret
    exact ⟨_, rfl, ⟨rfl, .inl ⟨rfl, rfl⟩⟩, Below.refl _ _⟩
  · have H := Lib.hid (And.intro hrow (And.intro hl h1))
    clear hrow hl h1
    go_enter Tryz.func95, Tryz.ntmps95
    go_wp2_with (at_builtin; refine appT _ rfl (.tmp 5) (.tmp 6) rfl w.heap.size _ 0 [] rfl (World.ownsRow_lit w #[] 0 (Nat.le_refl _) (by decide) rfl) (some ⟨b, of, fr⟩) n c B cells rfl H.out.2.1 (H.out.1.keep (fun j hj => heap_alloc_old w _ (by omega))) H.out.2.2 (by omega) (by simp) ?_; intro v2 w2 hown2 hgr2 hnil2)
    go_ret
    have hs2 := hgr2.size
    simp at hs2
    exact ⟨v2, rfl, by simpa using hown2, ⟨hgr2.os, hgr2.tape, hgr2.output, by omega, fun j hj => (hgr2.block j (by simp; omega) (fun he => by injection (show some j = some w.heap.size from he) with h; omega)).trans (heap_alloc_old w _ hj)⟩⟩

set_option maxHeartbeats 400000 in
set_option maxRecDepth 100000 in
theorem cloneV (A : Option Addr) (n c B : Nat) (cells : List Value) (w : World) (hrow : RowOf w B A cells) (hl : cells.length = n * 7) (h1 : ∀ u ∈ cells, u.oneCell' = true) (hn : n ≤ 1048577) (hB : B ≤ w.heap.size) :
    Calls Tryz.prog 141 #[.slice A n c] w fun e w' => ∃ v, e = .returned v ∧ w'.ownsRow w.heap.size 28 7 v n cells ∧ Below w.heap.size w w' := by
  have q : ∀ (w : World) (a : Option Addr) (n c n' c' : Nat), (binOp .eql 24 (.slice a n c) (.slice none n' c')).run Tryz.prog w = .ok (.bool a.isNone) w := fun w a n c n' c' => Lib.run_eql_slice_nil w _ _ a n c n' c' Tryz.underlying24
  rcases A with _ | ⟨b, of, fr⟩
  · obtain rfl : cells = [] := by
      rcases cells with _ | ⟨u, us⟩
      · rfl
      · obtain ⟨_, _, h, _⟩ := hrow 0 u rfl
        cases h
    obtain rfl : n = 0 := by simp at hl; omega
    go_enter Tryz.func141, Tryz.ntmps141
    go_wp2_with fail
    go_ret
    exact ⟨_, rfl, ⟨rfl, .inl ⟨rfl, rfl⟩⟩, Below.refl _ _⟩
  · have H := Lib.hid (And.intro hrow (And.intro hl h1))
    clear hrow hl h1
    go_enter Tryz.func141, Tryz.ntmps141
    go_wp2_with (at_builtin; refine appV _ rfl (.tmp 5) (.tmp 6) rfl w.heap.size _ 0 [] rfl (World.ownsRow_lit w #[] 0 (Nat.le_refl _) (by decide) rfl) (some ⟨b, of, fr⟩) n c B cells rfl H.out.2.1 (H.out.1.keep (fun j hj => heap_alloc_old w _ (by omega))) H.out.2.2 (by omega) (by simp) ?_; intro v2 w2 hown2 hgr2 hnil2)
    go_ret
    have hs2 := hgr2.size
    simp at hs2
    exact ⟨v2, rfl, by simpa using hown2, ⟨hgr2.os, hgr2.tape, hgr2.output, by omega, fun j hj => (hgr2.block j (by simp; omega) (fun he => by injection (show some j = some w.heap.size from he) with h; omega)).trans (heap_alloc_old w _ hj)⟩⟩
end Go.Proofs.YtkjbhdfjdkhebaaGreat

/-
  Draws of numbers, texts and origins.
-/

namespace Go.Proofs.YtkjbhdfjdkhebaaGreat
open Go.RowKit
set_option linter.unusedVariables false

set_option maxHeartbeats 400000 in
set_option maxRecDepth 100000 in
theorem drawNum_any (w : World) (B blk : Nat) (h : Cur w B blk) :
    Calls Tryz.prog 101 #[.pointer (some ⟨blk, 0, none⟩)] w (Drawn (-1000000000) 1000000000 B blk w) := by
  have H := Lib.hid h
  clear h
  go_enter Tryz.func101, Tryz.ntmps101
  go_wp2_with fail
  refine (once_any _ B blk 12 H.out (by omega) (by omega)).mono ?_
  rintro e w1 ⟨b, rfl, hg1, hc1⟩
  have H1 := Lib.hid (And.intro hg1 hc1)
  clear hg1 hc1
  cases b with
  | true =>
    go_wp2_with fail
    refine (pickInt_lit _ B blk 5 5 _ _ H1.out.2 rfl (by omega) (by omega)).mono ?_
    rintro e w2 ⟨k, v, hv, rfl, hg2, hc2⟩
    obtain ⟨x, h1, h2, rfl⟩ := ints_mem [1000000000, -1000000000, 999999999, 500000000, 40000] (-1000000000) 1000000000 (by decide) hv
    have H2 := Lib.hid (And.intro (grown_trans H1.out.1 hg2) hc2)
    clear hg2 hc2 hv
    go_wp2_with fail
    go_ret
    exact ⟨x, h1, h2, rfl, H2.out.1, H2.out.2⟩
  | false =>
    go_wp2_with fail
    refine (below_pos _ B blk 12 H1.out.2 (by omega) (by omega)).mono ?_
    rintro e w2 ⟨x, h1, h2, rfl, hg2, hc2⟩
    have H2 := Lib.hid (And.intro (grown_trans H1.out.1 hg2) hc2)
    clear hg2 hc2
    go_wp2_with fail
    go_ret
    exact ⟨x - 3, by omega, by omega, rfl, H2.out.1, H2.out.2⟩

def txtWords : List (List UInt8) := [[], [97], [98], [97, 98], [104, 101, 108, 108, 111], [116, 119, 101, 110, 116, 121, 32, 99, 104, 97, 114, 97, 99, 116, 101, 114, 115, 32, 111, 107], [110, 105, 110, 101, 116, 101, 101, 110, 32, 99, 104, 97, 114, 97, 99, 116, 101, 114, 46]]
set_option maxHeartbeats 400000 in
set_option maxRecDepth 100000 in
theorem drawText_any (w : World) (B blk : Nat) (h : Cur w B blk) :
    Calls Tryz.prog 129 #[.pointer (some ⟨blk, 0, none⟩)] w fun e w' => ∃ s : ByteArray, s.size ≤ 20 ∧ e = .returned (.string s) ∧ w.grownBy w' (some blk) ∧ Cur w' B blk := by
  have H := Lib.hid h
  clear h
  go_enter Tryz.func129, Tryz.ntmps129
  go_wp2_with fail
  refine (pick_lit _ B blk 7 7 _ _ H.out rfl (by omega) (by omega)).mono ?_
  rintro e w2 ⟨k, v, hv, rfl, hg2, hc2⟩
  obtain ⟨l, _, hl, rfl⟩ := strs_mem txtWords 20 (by decide) hv
  have H2 := Lib.hid (And.intro hg2 hc2)
  clear hg2 hc2 hv
  go_wp2_with fail
  go_ret
  exact ⟨⟨l.toArray⟩, hl, rfl, H2.out.1, H2.out.2⟩

/-- Origins as cells. -/
def orgV (ps : List (Int × Int)) : List Value := ps.flatMap fun p => [.int .i64 p.1, .int .i64 p.2]
def orgD (ps : List (Int × Int)) : List Dt := ps.map fun p => .agg [.int p.1, .int p.2]
theorem orgV_app (ps : List (Int × Int)) (a b : Int) : orgV ps ++ [.int .i64 a, .int .i64 b] = orgV (ps ++ [(a, b)]) := by simp [orgV]
theorem ow_org (w : World) : ∀ ps : List (Int × Int), OwL w (orgD ps) (orgV ps) []
  | [] => by simp [OwL, orgV, orgD]
  | p :: ps => by
    have h1 := ow_org w ps
    simp only [orgD, List.map_cons, OwL] at h1 ⊢
    exact ⟨[.int .i64 p.1, .int .i64 p.2], orgV ps, [], [], by simp [orgV], rfl, by simp only [Ow, OwL]; exact ⟨[_], _, [], [], rfl, rfl, ⟨rfl, rfl⟩, [_], _, [], [], rfl, rfl, ⟨rfl, rfl⟩, rfl, rfl⟩, h1⟩
theorem orgD_org (ps : List (Int × Int)) : ∀ x ∈ orgD ps, IsOrg x := by
  intro x hx
  obtain ⟨p, _, rfl⟩ := List.mem_map.1 hx
  exact ⟨p.1, p.2, rfl⟩

/-- Origins are drawn, in memory of their own. -/
def DrawnF (B blk : Nat) (w : World) (e : Ending) (w' : World) : Prop := ∃ (ps : List (Int × Int)) (v : Value) (fp : List Nat), ps.length ≤ 2 ∧ e = .returned v ∧ DrSt w B blk [owA (.lst (orgD ps)) [v] fp] w'
set_option maxHeartbeats 1600000 in
set_option maxRecDepth 100000 in
theorem drawFrom_any (w : World) (B blk : Nat) (h : Cur w B blk) :
    Calls Tryz.prog 175 #[.pointer (some ⟨blk, 0, none⟩)] w (DrawnF B blk w) := by
  have H := Lib.hid ((DrSt.start h).lit 90 2)
  clear h
  go_enter Tryz.func175, Tryz.ntmps175
  go_wp2_with fail
  refine (below_pos _ B blk 3 H.out.cur (by omega) (by omega)).mono ?_
  rintro e w1 ⟨n, hn0, hn1, rfl, hg1, hc1⟩
  have H1 := Lib.hid (H.out.draw hg1 hc1)
  clear hg1 hc1 H
  go_wp2_with fail
  go_loopw [3, 4, 6] (fun v cl i wr => ∃ (k : Nat) (ps : List (Int × Int)) (cell : Int), (k : Int) ≤ n ∧ i = .int .i64 k ∧ cl = .int .i64 cell ∧ ps.length = k ∧ 0 ≤ cell ∧ cell ≤ 1 + 2 * (k : Int) ∧ DrSt w B blk [rowA 90 2 v k (orgV ps)] wr) (fun _ _ i _ => n.toNat - (intOf i).toNat)
  case atStart => exact ⟨0, [], 1, by omega, rfl, rfl, rfl, by omega, by omega, H1.out⟩
  case round =>
    obtain ⟨k, ps, cell, hk, rfl, rfl, hps, hc0, hc1, hS⟩ := hrel
    by_cases hlt : (k : Int) < n
    · have HS := Lib.hid hS
      clear hS
      go_wp2_with fail
      refine (below_pos _ B blk 2 HS.out.cur (by omega) (by omega)).mono ?_
      rintro e w2 ⟨a, ha0, ha1, rfl, hg2, hc2⟩
      have HS2 := Lib.hid (HS.out.draw hg2 hc2)
      have hs2 := HS2.out.size
      clear hg2 hc2 HS
      go_wp2_with (at_builtin; refine appO _ rfl (.tmp 15) (.tmp 23) rfl w.heap.size _ k (orgV ps) rfl (HS2.out.row.alloc _) (some ⟨w2.heap.size, 0, none⟩) 1 1 (w2.heap.size + 1) [.int .i64 cell, .int .i64 (k + a * 2)] rfl rfl (row_new w2 #[.int .i64 cell, .int .i64 (k + a * 2)] 90) (fun u hu => by simp at hu; rcases hu with rfl | rfl <;> rfl) (by omega) (by simp; omega) ?_; intro v3 w3 hown3 hgr3 hn3)
      have h3 := (HS2.out.alloc (.cells #[.int .i64 cell, .int .i64 (k + a * 2)] 90)).app hgr3 hown3 hn3.2
      rw [orgV_app] at h3
      have HS3 := Lib.hid h3
      clear h3 hown3 hgr3 hn3 HS2
      refine (below_pos _ B blk 2 HS3.out.cur (by omega) (by omega)).mono ?_
      rintro e w4 ⟨b, hb0, hb1, rfl, hg4, hc4⟩
      have HS4 := Lib.hid (HS3.out.draw hg4 hc4)
      clear hg4 hc4 HS3
      go_wp2_with fail
      exact ⟨⟨k + 1, ps ++ [(cell, k + a * 2)], cell + 1 + b, by omega, by simp, rfl, by simp; omega, by omega, by omega, HS4.out⟩, by simp [intOf]; omega⟩
    · obtain ⟨A, c, rfl⟩ := own_slice hS.row
      have h1 := hS.alter fun o => o.close0 (xs := orgD ps) (fun w' => ow_org w' ps) (by simp [orgD, hps])
      have HF := Lib.hid h1
      clear hS h1
      go_wp2_with fail
      go_ret
      exact ⟨ps, .slice A k c, _, (by omega), rfl, HF.out⟩
end Go.Proofs.YtkjbhdfjdkhebaaGreat
