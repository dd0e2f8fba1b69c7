/-
  Slices of strings that can be read: what the laws' helpers ask of them.
-/
import Derived.Test.YtooghbejbjfakaaRows
import Derived.WalkKit
import Derived.WalkSpells
import Derived.WalkLawsBesides
import Derived.Lib.Hide
import Derived.BigQuiet
import Derived.Deep.QuietTactic
import Derived.Deep.Draws
import Derived.Deep.AppendLies
import Derived.Laws.Rows
import Derived.WalkSmall
namespace Go.Proofs.Ytooghbejbjfakaa
open Go.RowKit
set_option linter.unusedVariables false

/-- A slice's values lie, cell by cell, in a block below B. -/
def RowOf (w : World) (B : Nat) (A : Option Addr) (vs : List Value) : Prop :=
  ∀ k v, vs[k]? = some v → ∃ b o, A = some ⟨b, o, none⟩ ∧ b < B ∧ w.cell? ⟨b, o + k, none⟩ = some v

theorem RowOf.keep {w w' : World} {B : Nat} {A : Option Addr} {vs : List Value} (h : RowOf w B A vs) (hk : ∀ k, k < B → w'.heap[k]? = w.heap[k]?) : RowOf w' B A vs := by
  intro k v hv
  obtain ⟨b, o, e, hb, hc⟩ := h k v hv
  exact ⟨b, o, e, hb, (World.cell?_of_block (hk b hb)).trans hc⟩
theorem RowOf.below {w w' : World} {B : Nat} {A : Option Addr} {vs : List Value} (h : RowOf w B A vs) (hb : Below B w w') : RowOf w' B A vs := h.keep hb.block
theorem RowOf.more {w : World} {B B' : Nat} {A : Option Addr} {vs : List Value} (h : RowOf w B A vs) (hB : B ≤ B') : RowOf w B' A vs := by
  intro k v hv
  obtain ⟨b, o, e, hb, hc⟩ := h k v hv
  exact ⟨b, o, e, by omega, hc⟩
theorem RowOf.own {w : World} {base : Nat} {e : TypeId} {A : Option Addr} {n c : Nat} {vs : List Value} (h : w.ownsRow base e 1 (.slice A n c) n vs) : RowOf w w.heap.size A vs := by
  intro k v hv
  have hn : 0 < n := by
    have h1 := h.1
    have h2 := (List.getElem?_eq_some_iff.1 hv).1
    omega
  obtain ⟨g, cap, hg, _, hlt⟩ := h.form hn
  have hA : A = some ⟨g, 0, none⟩ := by injection hg
  subst hA
  refine ⟨g, 0, rfl, hlt, ?_⟩
  have := h.cells (g := g) rfl k v hv
  rwa [show (⟨g, 0, none⟩ : Addr).add k = ⟨g, 0 + k, none⟩ by unfold Addr.add; split <;> simp_all] at this

/-- Strings as cells. -/
def strV (ss : List ByteArray) : List Value := ss.map Value.string
def tot (ss : List ByteArray) : Nat := (ss.map ByteArray.size).sum

theorem strV_get (ss : List ByteArray) (k : Nat) (hk : k < ss.length) : (strV ss)[k]? = some (.string ss[k]) := by simp [strV, hk]
theorem tot_take (ss : List ByteArray) (k : Nat) (hk : k < ss.length) : tot (ss.take (k + 1)) = tot (ss.take k) + ss[k].size := by
  unfold tot
  rw [List.take_succ_eq_append_getElem hk, List.map_append, List.sum_append]
  simp

theorem bytes_inj {x y : ByteArray} (h : x.toList = y.toList) : x = y := by
  rw [ByteArray.toList_eq, ByteArray.toList_eq] at h
  exact ByteArray.ext (Array.toList_inj.1 h)

theorem strInfo : (Try.prog.info? 9).map (fun i => (i.zero, i.size, i.bytes)) = some (some (.string ⟨#[]⟩), 1, 16) := by kernel_rfl

/-- What a law is told of a slice of strings that came in. -/
def IsStrs (w : World) (a : Option Addr) (len cap : Nat) (zs : List ByteArray) : Prop :=
  (a = none ∧ len = 0 ∧ cap = 0 ∧ zs = []) ∨
  ∃ x, a = some x ∧ len ≤ cap ∧ cap ≤ maxLen ∧ zs.length = cap ∧ (∀ i, i < zs.length → w.cell? (x.add i) = some (.string (zs.getD i ByteArray.empty))) ∧ ∀ s ∈ zs, s.size ≤ maxLen

theorem IsStrs.row {w : World} {a : Option Addr} {len cap : Nat} {zs : List ByteArray} (h : IsStrs w a len cap zs) :
    ∃ ss : List ByteArray, ss.length = len ∧ len ≤ cap ∧ len ≤ 9223372036854775807 ∧ (∀ k (hk : k < ss.length), (ss[k]).size ≤ 9223372036854775807) ∧ RowOf w w.heap.size a (strV ss) := by
  rcases h with ⟨rfl, rfl, rfl, rfl⟩ | ⟨x, rfl, hl, hm, hz, hc, hs⟩
  · exact ⟨[], rfl, Nat.le_refl _, by omega, fun k hk => by simp at hk, fun k v hv => by simp [strV] at hv⟩
  · unfold maxLen at hm hs
    have hlen : (zs.take len).length = len := by rw [List.length_take]; omega
    refine ⟨zs.take len, hlen, hl, by omega, fun k hk => ?_, fun k v hv => ?_⟩
    · have := hs _ (List.mem_of_mem_take (List.getElem_mem hk))
      omega
    · have hk : k < (zs.take len).length := by
        have := (List.getElem?_eq_some_iff.1 hv).1
        simpa [strV] using this
      have hkz : k < zs.length := by omega
      have hv' : v = .string zs[k] := by
        rw [strV_get _ k hk] at hv
        simpa using hv.symm
      have hck := hc k hkz
      obtain ⟨b, o, spot⟩ := x
      have hspot : spot = none := by simpa [Addr.add] using World.cell?_spot (hc 0 (by omega))
      subst hspot
      refine ⟨b, o, rfl, World.block_lt_of_cell? w ⟨b, o, none⟩ (by simpa [Addr.add] using hc 0 (by omega)), ?_⟩
      rw [Go.WideShapes.add_plain] at hck
      rw [hck, hv']
      simp [List.getD, hkz]
end Go.Proofs.Ytooghbejbjfakaa
