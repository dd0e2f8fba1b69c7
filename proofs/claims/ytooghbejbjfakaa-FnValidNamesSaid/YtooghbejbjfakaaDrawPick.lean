/-
  One of a list, drawn from the cursor (l1Pick).
-/
import Derived.Test.YtooghbejbjfakaaDrawBelow
import Derived.Laws.IdiomStrings
namespace Go.Proofs.Ytooghbejbjfakaa
open Go.RowKit
set_option linter.unusedVariables false

set_option maxHeartbeats 400000 in
set_option maxRecDepth 100000 in
theorem pick_any (w : World) (B blk g c : Nat) (vs : List Value) (h : Cur w B blk) (hne : g ≠ blk) (hg : g < w.heap.size) (hrow : ∀ (k : Nat) (v : Value), vs[k]? = some v → w.cell? ⟨g, k, none⟩ = some v) (hn : 1 ≤ vs.length) (hn2 : vs.length ≤ 1048576) :
    Calls Try.prog 37 #[.pointer (some ⟨blk, 0, none⟩), .slice (some ⟨g, 0, none⟩) vs.length c] w (Picked vs B blk w) := by
  have HH := Lib.hid h
  have HR := Lib.hid hrow
  clear h hrow
  go_enter Try.func37, Try.ntmps37
  go_wp2_with fail
  refine (below_pos _ B blk _ HH.out (by omega) (by omega)).mono ?_
  rintro e w1 ⟨x, hx0, hx1, rfl, hg1, hc1⟩
  obtain ⟨k, rfl⟩ := Int.eq_ofNat_of_zero_le hx0
  have hk : k < vs.length := by omega
  have hcell : w1.cell? ⟨g, k, none⟩ = some vs[k] := hg1.cell (HR.out k _ (List.getElem?_eq_getElem hk)) (fun e => hne (by injection e))
  obtain ⟨v, hv⟩ : ∃ v, v = vs[k] := ⟨_, rfl⟩
  rw [← hv] at hcell
  have HV := Lib.hid (show vs[k]? = some v by rw [hv]; exact List.getElem?_eq_getElem hk)
  have HG := Lib.hid (And.intro hg1 hc1)
  clear hg1 hc1 hv
  go_wp2_with fail
  go_ret
  exact ⟨k, v, HV.out, rfl, HG.out.1, HG.out.2⟩

theorem pick_lit (w : World) (B blk n c : Nat) (C : Array Value) (t : TypeId) (h : Cur w B blk) (hn : C.size = n) (hn1 : 1 ≤ n) (hn2 : n ≤ 1048576) :
    Calls Try.prog 37 #[.pointer (some ⟨blk, 0, none⟩), .slice (some ⟨w.heap.size, 0, none⟩) n c] (w.alloc (.cells C t)) fun e w' => ∃ (k : Nat) (v : Value), C[k]? = some v ∧ e = .returned v ∧ w.grownBy w' (some blk) ∧ Cur w' B blk := by
  subst hn
  have hc : Cur (w.alloc (.cells C t)) B blk := h.keep fun k hk => Below.heap_alloc w _ k (by have := h.lt; omega)
  have hp := pick_any (w.alloc (.cells C t)) B blk w.heap.size c C.toList hc (by have := h.lt; omega) (by simp) (fun k v hv => by rw [World.cell?_alloc_mark]; simpa using hv) (by simpa using hn1) (by simpa using hn2)
  rw [Array.length_toList] at hp
  refine hp.mono ?_
  rintro e w' ⟨k, v, hv, he, hg, hcur⟩
  exact ⟨k, v, by simpa using hv, he, grown_trans (World.grownBy_alloc w _ _) hg, hcur⟩
end Go.Proofs.Ytooghbejbjfakaa
