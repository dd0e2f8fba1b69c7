/-
  Texts that the proof rests on, put together: CpRow, CloneRows, CvMath, CloneVals.
-/
import Derived.Test.YtdnneilbgekccabMg6
import Derived.Test.YtdnneilbgekccabMg9
import Derived.Deep.CutRange
import Derived.Test.YtdnneilbgekccabMg10
import Derived.Deep.LoopGhost
/-
  spec.l3Row: a row copied.
-/

namespace Go.Proofs.Ytdnneilbgekccab
open Go.RowKit
set_option linter.unusedVariables false

theorem OwL.orgs_of {w : World} {B : Nat} : ∀ {os : List Dt} {cs : List Value}, (∀ x ∈ os, IsOrg x) → RdL w B os cs → ∀ w', OwL w' os cs []
  | [], cs, _, h, w' => by simp only [RdL] at h; subst h; simp [OwL]
  | x :: os, cs, ho, h, w' => by
    obtain ⟨a, b, rfl⟩ := ho x (by simp)
    simp only [RdL, Rd] at h
    obtain ⟨_, c2, rfl, ⟨_, _, rfl, rfl, _, _, rfl, rfl, rfl⟩, h2⟩ := h
    simp only [OwL, Ow]
    exact ⟨_, c2, [], [], rfl, rfl, ⟨_, _, [], [], rfl, rfl, ⟨rfl, rfl⟩, _, _, [], [], rfl, rfl, ⟨rfl, rfl⟩, rfl, rfl⟩, OwL.orgs_of (fun y hy => ho y (by simp [hy])) h2 w'⟩

end Go.Proofs.Ytdnneilbgekccab

/-
  impl.cloneRows: rows cloned, with their slices.
-/

namespace Go.Proofs.Ytdnneilbgekccab
open Go.RowKit
set_option linter.unusedVariables false

theorem Objs.rowSet {B g n c : Nat} {w : World} {e : TypeId} {k : Nat} {xs : List Value} {L : List Asn} (h : Objs B w (rowA e k (.slice (some ⟨g, 0, none⟩) n c) n xs :: L)) (p : Nat) (us : List Value) (hB : B ≤ w.heap.size) : Objs B (w.setCells g p us) (rowA e k (.slice (some ⟨g, 0, none⟩) n c) n (setsAt xs p us) :: L) := by
  have h1 := own_setCells us p w xs h.rowAt
  exact h.upd h1.2.size (fun g hg hf => h1.2.block g hg fun e => hf e.symm) (own_base0 h1.1 (Nat.zero_le _)) (rowA_loc _ _ _ _ _) (fun g hg => .inl hg) hB
end Go.Proofs.Ytdnneilbgekccab

/-
  What is known while values are cloned: the lists still to be walked, and how the whole is put together in the end.
-/

namespace Go.Proofs.Ytdnneilbgekccab
open Go.RowKit
set_option linter.unusedVariables false

/-- A list whose cells are cloned and whose elements are not yet. -/
structure It where
  xs : List Dt
  v : Value
  ct : List Value
def It.row (i : It) : Asn := rowA 40 7 i.v i.xs.length i.ct
def It.Ok (w : World) (i : It) : Prop := (∀ x ∈ i.xs, IsVal x) ∧ Dt.wt (.lst i.xs) ≤ 1048576 ∧ RdL w w.heap.size i.xs i.ct
def owAs : List It → List (List Nat) → List Asn
  | i :: its, f :: fs => owA (.lst i.xs) [i.v] f :: owAs its fs
  | _, _ => []
def stk (its : List It) : List Value := its.reverse.map (·.v)
def SLR (v : Value) (its : List It) : Asn := rowA 37 1 v its.length (stk its)
/-- Ahead of a list's walk. -/
structure CvSt (w : World) (xs0 : List Dt) (v0 : Value) (its : List It) (vS : Value) (R : List Asn) (wx : World) : Prop where
  ob : Objs w.heap.size wx (SLR vS its :: (its.map It.row ++ R))
  ok : ∀ i ∈ its, i.Ok w
  bel : Below w.heap.size w wx
  fin : ∀ (w' : World) (fps : List (List Nat)), fps.length = its.length → Objs w.heap.size w' (owAs its fps ++ R) → ∃ fp, Objs w.heap.size w' [owA (.lst xs0) [v0] fp]
/-- Within a list's walk: todo are the elements still to be cloned, cd the cells done. -/
structure CiSt (w : World) (xs0 : List Dt) (v0 : Value) (its : List It) (vS : Value) (R : List Asn) (vL : Value) (n : Nat) (todo : List Dt) (cd ct : List Value) (wx : World) : Prop where
  ob : Objs w.heap.size wx (SLR vS its :: rowA 40 7 vL n (cd ++ ct) :: (its.map It.row ++ R))
  rd : RdL w w.heap.size todo ct
  ok : ∀ i ∈ its, i.Ok w
  bel : Below w.heap.size w wx
  fin : ∀ (w' : World) (ctF : List Value) (fpt : List Nat) (fps : List (List Nat)), fps.length = its.length →
    Objs w.heap.size w' (rowA 40 7 vL n (cd ++ ctF) :: owLA todo ctF fpt :: (owAs its fps ++ R)) → ∃ fp, Objs w.heap.size w' [owA (.lst xs0) [v0] fp]

/-- A list has been walked. -/
theorem CiSt.done {w : World} {xs0 : List Dt} {v0 : Value} {its : List It} {vS : Value} {R : List Asn} {vL : Value} {n : Nat} {cd : List Value} {wx : World} (h : CiSt w xs0 v0 its vS R vL n [] cd [] wx) :
    CvSt w xs0 v0 its vS (rowA 40 7 vL n cd :: R) wx where
  ob := by
    have h1 := h.ob
    rw [List.append_nil] at h1
    exact h1.perm (List.Perm.cons _ List.perm_middle.symm)
  ok := h.ok
  bel := h.bel
  fin := fun w' fps hl ho => by
    have h1 := (ho.perm List.perm_middle).cons (a := owLA [] [] []) (owLA_at (by simp [OwL]) (New.nil _)) (fun x hx k hk => by cases hk)
    refine h.fin w' [] [] fps hl ?_
    rw [List.append_nil]
    exact h1.swap
section
variable {w : World} {xs0 : List Dt} {v0 : Value} {its : List It} {vS : Value} {R : List Asn} {vL : Value} {N : Nat} {todo : List Dt} {cd : List Value}
  {k n s : Int} {t : ByteArray} {l r : List Dt} {cc : List ByteArray} {v4 v5 v6 : Value} {f4 f5 f6 : List Nat}
end
end Go.Proofs.Ytdnneilbgekccab

/-
  impl.cloneValues: values cloned, by a stack of lists. (Written by gencvals.py.)
-/

namespace Go.Proofs.Ytdnneilbgekccab
open Go.RowKit
set_option linter.unusedVariables false

theorem own_pos {w : World} {base : Nat} {e : TypeId} {k : Nat} {v : Value} {n : Nat} {xs : List Value} (h : w.ownsRow base e k v n xs) (hn : 0 < n) : ∃ g c, v = .slice (some ⟨g, 0, none⟩) n c := by
  rcases h.2 with ⟨_, h4⟩ | ⟨g, cap, cur, rfl, _⟩
  · omega
  · exact ⟨g, cap, rfl⟩

end Go.Proofs.Ytdnneilbgekccab
