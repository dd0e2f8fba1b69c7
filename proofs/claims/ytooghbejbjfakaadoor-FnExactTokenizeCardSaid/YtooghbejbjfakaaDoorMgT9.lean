/-
  Texts that the proof rests on, put together: Toks.
-/
import Derived.Test.YtooghbejbjfakaaDoorMgT7
import Derived.Test.YtooghbejbjfakaaDoorMgT3
import Derived.Test.YtooghbejbjfakaaDoorMgT4
/-
  Lists of tokens that a call owns.
-/

namespace Go.Proofs.YtooghbejbjfakaaDoor
open Go.RowKit
set_option linter.unusedVariables false

def tkD (p : Tk) : Dt := .agg [.int p.1, .int p.2.1, .int p.2.2.1, .str ⟨p.2.2.2.toArray⟩]
def encT (p : Tk) : List Value := [.int .i64 p.1, .int .i64 p.2.1, .int .i64 p.2.2.1, .string ⟨p.2.2.2.toArray⟩]
def toksD (l : List Tk) : List Dt := l.map tkD
theorem toksD_tok (l : List Tk) : ∀ x ∈ toksD l, IsTok x := by
  intro x hx
  obtain ⟨p, _, rfl⟩ := List.mem_map.1 hx
  exact ⟨_, _, _, _, rfl⟩
theorem toksD_len (l : List Tk) : (toksD l).length = l.length := List.length_map _
theorem toks_owl (w : World) : ∀ l : List Tk, OwL w (toksD l) (l.flatMap encT) []
  | [] => by simp [toksD, OwL]
  | x :: l => by
    have ih := toks_owl w l
    unfold toksD at ih ⊢
    rw [List.map_cons, List.flatMap_cons]
    simp only [OwL]
    refine ⟨encT x, _, [], [], rfl, rfl, ?_, ih⟩
    simp only [tkD, encT, Ow, OwL]
    exact ⟨[_], _, [], [], rfl, rfl, ⟨rfl, rfl⟩, [_], _, [], [], rfl, rfl, ⟨rfl, rfl⟩, [_], _, [], [], rfl, rfl, ⟨rfl, rfl⟩, [_], [], [], [], rfl, rfl, ⟨rfl, rfl⟩, rfl, rfl⟩
theorem flatT_snoc (l : List Tk) (x : Tk) : (l ++ [x]).flatMap encT = l.flatMap encT ++ encT x := by
  rw [List.flatMap_append]
  simp
/-- A row of tokens of the call's own. -/
abbrev tokA (v : Value) (l : List Tk) : Asn := rowA 26 4 v l.length (l.flatMap encT)
theorem MSt.tokV {w wx : World} {L : List Asn} {v : Value} {l : List Tk} (h : MSt w (tokA v l :: L) wx) : ∃ A c, v = .slice A l.length c ∧ l.length ≤ c ∧ c ≤ maxLen := by
  obtain ⟨A, c, rfl⟩ := own_slice (MSt.row h)
  exact ⟨A, c, rfl, own_cap (MSt.row h)⟩
theorem MSt.tokOw {w wx : World} {L : List Asn} {v : Value} {l : List Tk} (h : MSt w (tokA v l :: L) wx) : MSt w (owA (.lst (toksD l)) [v] v.ownBlock.toList :: L) wx :=
  MSt.close0 h (fun w' => toks_owl w' l) (toksD_len l).symm
theorem MSt.tokApp {w wx wy : World} {L : List Asn} {v v' : Value} {l : List Tk} {x : Tk} (h : MSt w (tokA v l :: L) wx) (hg : wx.grownBy wy v.ownBlock) (ho : wy.ownsRow w.heap.size 26 4 v' (l.length + 1) (l.flatMap encT ++ encT x))
    (hb : v'.ownBlock = v.ownBlock ∨ v'.ownBlock = some wx.heap.size) : MSt w (tokA v' (l ++ [x]) :: L) wy := by
  have h1 := MSt.app h hg ho hb
  rw [← flatT_snoc, show l.length + 1 = (l ++ [x]).length by simp] at h1
  exact h1
theorem wpK {o : Oper} {a : Act} {K : Act → World → Prop} {Q : Exit → Act → World → Prop} (w : World) (s x : Operand)
    (ho : o.op = .call { callee := .builtin .append, args := #[s, x], argTypes := #[32, 32] })
    (base : Nat) (v : Value) (n : Nat) (xs : List Value) (hs : a.eval s = v) (hown : w.ownsRow base 26 4 v n xs)
    (A : Option Addr) (m c B : Nat) (news : List Value) (hx : a.eval x = .slice A m c) (hl : news.length = m * 4) (hrow : RowOf w B A news) (h1 : ∀ u ∈ news, u.oneCell' = true)
    (hb : n + m ≤ 4194304) (hbase : base ≤ w.heap.size)
    (h : ∀ v' w', w'.ownsRow base 26 4 v' (n + m) (xs ++ news) → w.grownBy w' v.ownBlock → ((v' = .slice none 0 0 ↔ v = .slice none 0 0 ∧ m = 0) ∧ (v'.ownBlock = v.ownBlock ∨ v'.ownBlock = some w.heap.size)) → K (a.put o.dst v') w') : Oper.wp Tryd.prog o a w K Q := by
  obtain ⟨i0, hi, hz0, hz1, hz2⟩ := info_parts TokenInfo
  exact wp_append_src w s x 32 ho base 26 i0 _ 4 40 Tryd.underlying32 hi hz0 hz1 hz2 rfl (by decide) v n xs hs hown A m c B news hx hl hrow h1 (by unfold maxLen; omega) (by omega) hbase h
theorem appK {ops : Array Oper} {rest : List Oper} {o : Oper} {a : Act} {Q : Exit → Act → World → Prop} (w : World) (hgd : o.guard = none) (s x : Operand)
    (ho : o.op = .call { callee := .builtin .append, args := #[s, x], argTypes := #[32, 32] })
    (base : Nat) (v : Value) (n : Nat) (xs : List Value) (hs : a.eval s = v) (hown : w.ownsRow base 26 4 v n xs)
    (A : Option Addr) (m c B : Nat) (news : List Value) (hx : a.eval x = .slice A m c) (hl : news.length = m * 4) (hrow : RowOf w B A news) (h1 : ∀ u ∈ news, u.oneCell' = true)
    (hb : n + m ≤ 4194304) (hbase : base ≤ w.heap.size)
    (h : ∀ v' w', w'.ownsRow base 26 4 v' (n + m) (xs ++ news) → w.grownBy w' v.ownBlock → ((v' = .slice none 0 0 ↔ v = .slice none 0 0 ∧ m = 0) ∧ (v'.ownBlock = v.ownBlock ∨ v'.ownBlock = some w.heap.size)) → wpList Tryd.prog ops Q rest (a.put o.dst v') w') : wpList Tryd.prog ops Q (o :: rest) a w :=
  wpList_plain hgd fun _ hK => wpK w s x ho base v n xs hs hown A m c B news hx hl hrow h1 hb hbase fun v' w' h2 h3 h4 => hK _ _ (h v' w' h2 h3 h4)
end Go.Proofs.YtooghbejbjfakaaDoor
