/-
  Texts that the proof rests on, put together: Draw, DrawNew, DrawBelow, DrawPick, DrawOnce, DrawUtil.
-/
import Derived.Test.YtdnneilbgekccabRows
import Derived.WalkKit
import Derived.WalkSpells
import Derived.WalkLawsBesides
import Derived.Lib.Hide
import Derived.BigQuiet
import Derived.Deep.QuietTactic
import Derived.Deep.Draws
import Derived.Laws.Rows
import Derived.Laws.IdiomStrings
/-
  The cursor that the laws draw their inputs with: what each of its functions does to the world.
-/

namespace Go.Proofs.Ytdnneilbgekccab
open Go.RowKit
set_option linter.unusedVariables false

/-- The bytes of a slice that lies below block B can be read. -/
def Code (w : World) (B : Nat) (A : Option Addr) (n : Nat) : Prop :=
  n ≤ 9223372036854775807 ∧ ∀ k, k < n → ∃ ad z, A = some ad ∧ ad.block < B ∧ w.cell? (ad.add k) = some (.int .u8 z) ∧ 0 ≤ z ∧ z < 256

theorem addr_block (a : Addr) (n : Nat) : (a.add n).block = a.block := by unfold Addr.add; split <;> rfl

theorem Code.keep {w w' : World} {B : Nat} {A : Option Addr} {n : Nat} (h : Code w B A n) (hk : ∀ p : Addr, p.block < B → w'.cell? p = w.cell? p) : Code w' B A n :=
  ⟨h.1, fun k hk' => by
    obtain ⟨ad, z, e, hb, hc, h0, h1⟩ := h.2 k hk'
    exact ⟨ad, z, e, hb, (hk _ (by rw [addr_block]; exact hb)).trans hc, h0, h1⟩⟩

theorem Code.more {w : World} {B B' : Nat} {A : Option Addr} {n : Nat} (h : Code w B A n) (hB : B ≤ B') : Code w B' A n :=
  ⟨h.1, fun k hk => by
    obtain ⟨ad, z, e, hb, hc⟩ := h.2 k hk
    exact ⟨ad, z, e, by omega, hc⟩⟩

end Go.Proofs.Ytdnneilbgekccab
