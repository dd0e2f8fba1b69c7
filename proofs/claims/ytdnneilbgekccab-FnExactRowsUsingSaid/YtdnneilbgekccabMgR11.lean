/-
  Texts that the proof rests on, put together: CpRow, CloneRows, CvMath, CloneVals.
-/
import Derived.Test.YtdnneilbgekccabMgR6
import Derived.Test.YtdnneilbgekccabMgR9
import Derived.Deep.CutRange
import Derived.Deep.LoopGhost
/-
  What is known while values are cloned: the lists still to be walked, and how the whole is put together in the end.
-/

namespace Go.Proofs.Ytdnneilbgekccab
open Go.RowKit
set_option linter.unusedVariables false

/-- A list whose cells are cloned and whose elements are not yet. -/
structure It where
  xs : List Dt
  v : Value
  ct : List Value
def It.row (i : It) : Asn := rowA 40 7 i.v i.xs.length i.ct
def It.Ok (w : World) (i : It) : Prop := (∀ x ∈ i.xs, IsVal x) ∧ Dt.wt (.lst i.xs) ≤ 1048576 ∧ RdL w w.heap.size i.xs i.ct
def owAs : List It → List (List Nat) → List Asn
  | i :: its, f :: fs => owA (.lst i.xs) [i.v] f :: owAs its fs
  | _, _ => []
def stk (its : List It) : List Value := its.reverse.map (·.v)
def SLR (v : Value) (its : List It) : Asn := rowA 37 1 v its.length (stk its)
/-- Ahead of a list's walk. -/
structure CvSt (w : World) (xs0 : List Dt) (v0 : Value) (its : List It) (vS : Value) (R : List Asn) (wx : World) : Prop where
  ob : Objs w.heap.size wx (SLR vS its :: (its.map It.row ++ R))
  ok : ∀ i ∈ its, i.Ok w
  bel : Below w.heap.size w wx
  fin : ∀ (w' : World) (fps : List (List Nat)), fps.length = its.length → Objs w.heap.size w' (owAs its fps ++ R) → ∃ fp, Objs w.heap.size w' [owA (.lst xs0) [v0] fp]
/-- Within a list's walk: todo are the elements still to be cloned, cd the cells done. -/
structure CiSt (w : World) (xs0 : List Dt) (v0 : Value) (its : List It) (vS : Value) (R : List Asn) (vL : Value) (n : Nat) (todo : List Dt) (cd ct : List Value) (wx : World) : Prop where
  ob : Objs w.heap.size wx (SLR vS its :: rowA 40 7 vL n (cd ++ ct) :: (its.map It.row ++ R))
  rd : RdL w w.heap.size todo ct
  ok : ∀ i ∈ its, i.Ok w
  bel : Below w.heap.size w wx
  fin : ∀ (w' : World) (ctF : List Value) (fpt : List Nat) (fps : List (List Nat)), fps.length = its.length →
    Objs w.heap.size w' (rowA 40 7 vL n (cd ++ ctF) :: owLA todo ctF fpt :: (owAs its fps ++ R)) → ∃ fp, Objs w.heap.size w' [owA (.lst xs0) [v0] fp]

/-- A list has been walked. -/
theorem CiSt.done {w : World} {xs0 : List Dt} {v0 : Value} {its : List It} {vS : Value} {R : List Asn} {vL : Value} {n : Nat} {cd : List Value} {wx : World} (h : CiSt w xs0 v0 its vS R vL n [] cd [] wx) :
    CvSt w xs0 v0 its vS (rowA 40 7 vL n cd :: R) wx where
  ob := by
    have h1 := h.ob
    rw [List.append_nil] at h1
    exact h1.perm (List.Perm.cons _ List.perm_middle.symm)
  ok := h.ok
  bel := h.bel
  fin := fun w' fps hl ho => by
    have h1 := (ho.perm List.perm_middle).cons (a := owLA [] [] []) (owLA_at (by simp [OwL]) (New.nil _)) (fun x hx k hk => by cases hk)
    refine h.fin w' [] [] fps hl ?_
    rw [List.append_nil]
    exact h1.swap
section
variable {w : World} {xs0 : List Dt} {v0 : Value} {its : List It} {vS : Value} {R : List Asn} {vL : Value} {N : Nat} {todo : List Dt} {cd : List Value}
  {k n s : Int} {t : ByteArray} {l r : List Dt} {cc : List ByteArray} {v4 v5 v6 : Value} {f4 f5 f6 : List Nat}
end
end Go.Proofs.Ytdnneilbgekccab
