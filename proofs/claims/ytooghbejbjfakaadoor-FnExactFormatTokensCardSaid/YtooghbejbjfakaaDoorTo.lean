/-
  Copies: what the laws' to functions make. (Written by genty.py.)
-/
import Derived.Test.YtooghbejbjfakaaDoorShp
namespace Go.Proofs.YtooghbejbjfakaaDoor
open Go.RowKit
set_option linter.unusedVariables false

/-- A slice that a call made: a list of data, in blocks of its own. -/
def ToL (w : World) (xs : List Dt) (e : Ending) (w' : World) : Prop := ∃ A c fp, e = .returned (.slice A xs.length c) ∧ Ow w' (.lst xs) [.slice A xs.length c] fp ∧ New w.heap.size fp ∧ Below w.heap.size w w'
/-- A struct that a call made. -/
def ToA (w : World) (d : Dt) (e : Ending) (w' : World) : Prop := ∃ cs fp, e = .returned (.agg cs.toArray) ∧ Ow w' d cs fp ∧ New w.heap.size fp ∧ Below w.heap.size w w'

theorem wts_mem : ∀ {xs : List Dt} {x : Dt}, x ∈ xs → x.wt ≤ wts xs
  | y :: ys, x, h => by
    simp only [wts]
    rcases List.mem_cons.1 h with rfl | h
    · omega
    · have := wts_mem h; omega
theorem Ow.of_row {w : World} {base k : Nat} {e : TypeId} {A : Option Addr} {n c : Nat} {cells : List Value} {xs : List Dt} {fp : List Nat} (h : w.ownsRow base e k (.slice A n c) n cells) (hn : n = xs.length) (hl : OwL w xs cells fp) :
    Ow w (.lst xs) [.slice A n c] ((Value.slice A n c).ownBlock.toList ++ fp) := by
  subst hn
  simp only [Ow]
  exact ⟨A, c, e, k, cells, fp, rfl, own_base0 h (Nat.zero_le _), hl, rfl⟩
theorem ToL.fresh {w w' : World} {e : TypeId} {k g n c : Nat} {xs : List Dt} {cells : List Value} {fp : List Nat} (h : w'.ownsRow w.heap.size e k (.slice (some ⟨g, 0, none⟩) n c) n cells) (hn : n = xs.length) (hl : OwL w' xs cells fp) (hg : w.heap.size ≤ g) (hf : New (g + 1) fp) (hb : Below w.heap.size w w') :
    ToL w xs (.returned (.slice (some ⟨g, 0, none⟩) n c)) w' := by
  subst hn
  refine ⟨some ⟨g, 0, none⟩, c, g :: fp, rfl, Ow.of_row h rfl hl, ⟨List.nodup_cons.2 ⟨fun hm => ?_, hf.1⟩, fun b hm => ?_⟩, hb⟩
  · have := hf.2 g hm; omega
  · rcases List.mem_cons.1 hm with rfl | hm
    · exact hg
    · have := hf.2 b hm; omega

theorem intInfoT : (Tryd.prog.info? 3).map (fun i => (i.zero, i.size, i.bytes)) = some (some (.int .i64 0), 1, 8) := by kernel_rfl
theorem stringInfoT : (Tryd.prog.info? 9).map (fun i => (i.zero, i.size, i.bytes)) = some (some (.string ⟨#[]⟩), 1, 16) := by kernel_rfl
end Go.Proofs.YtooghbejbjfakaaDoor
