/-
  Texts that the proof rests on, put together: Draw, DrawNew, DrawBelow, DrawPick, DrawOnce, DrawUtil.
-/
import Derived.Test.YtabcmnlmmpbmnaaGreatRows
import Derived.WalkKit
import Derived.WalkSpells
import Derived.WalkLawsBesides
import Derived.Lib.Hide
import Derived.BigQuiet
import Derived.Deep.QuietTactic
import Derived.Deep.Draws
import Derived.Laws.Rows
import Derived.Laws.IdiomStrings
/-
  The cursor that the laws draw their inputs with: what each of its functions does to the world.
-/

namespace Go.Proofs.YtabcmnlmmpbmnaaGreat
open Go.RowKit
set_option linter.unusedVariables false

/-- The bytes of a slice that lies below block B can be read. -/
def Code (w : World) (B : Nat) (A : Option Addr) (n : Nat) : Prop :=
  n ≤ 9223372036854775807 ∧ ∀ k, k < n → ∃ ad z, A = some ad ∧ ad.block < B ∧ w.cell? (ad.add k) = some (.int .u8 z) ∧ 0 ≤ z ∧ z < 256

theorem addr_block (a : Addr) (n : Nat) : (a.add n).block = a.block := by unfold Addr.add; split <;> rfl

theorem Code.keep {w w' : World} {B : Nat} {A : Option Addr} {n : Nat} (h : Code w B A n) (hk : ∀ p : Addr, p.block < B → w'.cell? p = w.cell? p) : Code w' B A n :=
  ⟨h.1, fun k hk' => by
    obtain ⟨ad, z, e, hb, hc, h0, h1⟩ := h.2 k hk'
    exact ⟨ad, z, e, hb, (hk _ (by rw [addr_block]; exact hb)).trans hc, h0, h1⟩⟩

theorem Code.more {w : World} {B B' : Nat} {A : Option Addr} {n : Nat} (h : Code w B A n) (hB : B ≤ B') : Code w B' A n :=
  ⟨h.1, fun k hk => by
    obtain ⟨ad, z, e, hb, hc⟩ := h.2 k hk
    exact ⟨ad, z, e, by omega, hc⟩⟩

/-- Block blk, from B on, is a cursor over bytes below B. -/
def Cur (w : World) (B blk : Nat) : Prop :=
  B ≤ blk ∧ ∃ (A : Option Addr) (n cap i : Nat) (h : Int), w.heap[blk]? = some (.cells #[.slice A n cap, .int .i64 i, .int .i64 h] 117 (0, 0)) ∧ Code w B A n ∧ i ≤ n

theorem Cur.lt {w : World} {B blk : Nat} (h : Cur w B blk) : blk < w.heap.size := by
  obtain ⟨_, _, _, _, _, _, hh, _⟩ := h
  rcases Nat.lt_or_ge blk w.heap.size with h' | h'
  · exact h'
  · simp [Array.getElem?_eq_none h'] at hh

theorem Cur.keep {w w' : World} {B blk : Nat} (h : Cur w B blk) (hk : ∀ k, k ≤ blk → w'.heap[k]? = w.heap[k]?) : Cur w' B blk := by
  obtain ⟨hB, A, n, cap, i, x, hh, hc, hi⟩ := h
  refine ⟨hB, A, n, cap, i, x, (hk _ (Nat.le_refl _)).trans hh, hc.keep fun p hp => World.cell?_of_block (hk p.block (by omega)), hi⟩

theorem blk_grown {w : World} (g i : Nat) (u : Value) : w.grownBy (w.setCell ⟨g, i, none⟩ u) (some g) :=
  ⟨rfl, rfl, rfl, by simp [World.setCell], fun k _ hk => Below.heap_setCell w ⟨g, i, none⟩ u k (fun e => hk (by simp [e]))⟩
theorem grown_trans {a b c : World} {row : Option Nat} (h : a.grownBy b row) (k : b.grownBy c row) : a.grownBy c row :=
  ⟨k.os.trans h.os, k.tape.trans h.tape, k.output.trans h.output, Nat.le_trans h.size k.size, fun i hi hne => (k.block i (Nat.lt_of_lt_of_le hi h.size) hne).trans (h.block i hi hne)⟩
end Go.Proofs.YtabcmnlmmpbmnaaGreat

/-
  What all draws share: which values stand in a literal list; what a draw leaves alone.
-/

namespace Go.Proofs.YtabcmnlmmpbmnaaGreat
open Go.RowKit
set_option linter.unusedVariables false

theorem below_of_cur {w w1 w2 : World} {blk : Nat} (h1 : Below w.heap.size w w1) (hblk : w.heap.size ≤ blk) (hg : w1.grownBy w2 (some blk)) : Below w.heap.size w w2 :=
  h1.grown hg h1.size fun k hk => by injection hk with hk; omega

end Go.Proofs.YtabcmnlmmpbmnaaGreat
