/-
  Texts that the proof rests on, put together: CvMath.
-/
import Derived.Test.YtdnneilbgekccabGreatMgR20
import Derived.Test.YtdnneilbgekccabGreatMgR9
/-
  What is known while values are cloned: the lists still to be walked, and how the whole is put together in the end.
-/

namespace Go.Proofs.YtdnneilbgekccabGreat
open Go.RowKit
set_option linter.unusedVariables false

mutual
/-- How many lists and values are below. -/
def Dt.nd : Dt → Nat
  | .agg [_, _, _, _, .lst l, _, _] => 2 + nds l
  | _ => 2
def nds : List Dt → Nat
  | [] => 0
  | x :: xs => x.nd + nds xs
end
theorem nd_mk (k n s : Int) (t : ByteArray) (l c r : List Dt) : Dt.nd (.agg [.int k, .int n, .int s, .str t, .lst l, .lst c, .lst r]) = 2 + nds l := by simp [Dt.nd]
theorem nds_of : ∀ (xs : List Dt), (∀ x ∈ xs, IsVal x ∧ x.nd ≤ 2 + 2 * x.wt) → nds xs ≤ 2 * (xs.length + wts xs)
  | [], _ => by simp [nds]
  | x :: xs, h => by
    have h1 := nds_of xs fun y hy => h y (by simp [hy])
    have h2 := (h x (by simp)).2
    simp only [nds, List.length_cons, wts]
    omega
theorem nd_le {d : Dt} (h : IsVal d) : d.nd ≤ 2 + 2 * d.wt := by
  induction h with
  | mk k n s t l c r hl hr ih =>
    have h1 := nds_of l fun x hx => ⟨hl x hx, ih x hx⟩
    rw [nd_mk]
    simp only [Dt.wt, wts]
    omega
theorem nds_le {xs : List Dt} (h : ∀ x ∈ xs, IsVal x) : nds xs ≤ 2 * (xs.length + wts xs) := nds_of xs fun x hx => ⟨h x hx, nd_le (h x hx)⟩

/-- A list whose cells are cloned and whose elements are not yet. -/
structure It where
  xs : List Dt
  v : Value
  ct : List Value
def It.row (i : It) : Asn := rowA 28 7 i.v i.xs.length i.ct
def It.Ok (w : World) (i : It) : Prop := (∀ x ∈ i.xs, IsVal x) ∧ Dt.wt (.lst i.xs) ≤ 1048577 ∧ RdL w w.heap.size i.xs i.ct
def meas (its : List It) : Nat := (its.map fun i => 1 + nds i.xs).sum
theorem meas_cons (i : It) (its : List It) : meas (i :: its) = 1 + nds i.xs + meas its := by simp [meas]
theorem meas_len : ∀ its : List It, its.length ≤ meas its
  | [] => by simp [meas]
  | i :: its => by
    have := meas_len its
    rw [meas_cons, List.length_cons]
    omega
def owAs : List It → List (List Nat) → List Asn
  | i :: its, f :: fs => owA (.lst i.xs) [i.v] f :: owAs its fs
  | _, _ => []
def stk (its : List It) : List Value := its.reverse.map (·.v)
theorem stk_cons (i : It) (its : List It) : stk (i :: its) = stk its ++ [i.v] := by simp [stk]
theorem stk_len (its : List It) : (stk its).length = its.length := by simp [stk]

def SLR (v : Value) (its : List It) : Asn := rowA 24 1 v its.length (stk its)
/-- Ahead of a list's walk. -/
structure CvSt (w : World) (xs0 : List Dt) (v0 : Value) (its : List It) (vS : Value) (R : List Asn) (wx : World) : Prop where
  ob : Objs w.heap.size wx (SLR vS its :: (its.map It.row ++ R))
  ok : ∀ i ∈ its, i.Ok w
  bel : Below w.heap.size w wx
  fin : ∀ (w' : World) (fps : List (List Nat)), fps.length = its.length → Objs w.heap.size w' (owAs its fps ++ R) → ∃ fp, Objs w.heap.size w' [owA (.lst xs0) [v0] fp]
/-- Within a list's walk: todo are the elements still to be cloned, cd the cells done. -/
structure CiSt (w : World) (xs0 : List Dt) (v0 : Value) (its : List It) (vS : Value) (R : List Asn) (vL : Value) (n : Nat) (todo : List Dt) (cd ct : List Value) (wx : World) : Prop where
  ob : Objs w.heap.size wx (SLR vS its :: rowA 28 7 vL n (cd ++ ct) :: (its.map It.row ++ R))
  rd : RdL w w.heap.size todo ct
  ok : ∀ i ∈ its, i.Ok w
  bel : Below w.heap.size w wx
  fin : ∀ (w' : World) (ctF : List Value) (fpt : List Nat) (fps : List (List Nat)), fps.length = its.length →
    Objs w.heap.size w' (rowA 28 7 vL n (cd ++ ctF) :: owLA todo ctF fpt :: (owAs its fps ++ R)) → ∃ fp, Objs w.heap.size w' [owA (.lst xs0) [v0] fp]

/-- A list is taken off the stack. -/
theorem CvSt.pop {w : World} {xs0 : List Dt} {v0 : Value} {i : It} {its : List It} {gS q : Nat} {R : List Asn} {wx : World} (h : CvSt w xs0 v0 (i :: its) (.slice (some ⟨gS, 0, none⟩) (its.length + 1) q) R wx) :
    CiSt w xs0 v0 its (.slice (some ⟨gS, 0, none⟩) its.length q) R i.v i.xs.length i.xs [] i.ct wx where
  ob := by
    have h1 := h.ob
    refine h1.weak (a' := SLR (.slice (some ⟨gS, 0, none⟩) its.length q) its) (fun h2 => ?_) (rowA_loc _ _ _ _ _) (fun b hb => hb)
    have h3 := own_takeW (k := its.length) (show wx.ownsRow 0 _ 1 (.slice (some ⟨gS, 0, none⟩) (its.length + 1) q) (its.length + 1) (stk (i :: its)) from h2) (by omega)
    rw [stk_cons, Nat.mul_one, List.take_append_of_le_length (by rw [stk_len]; exact Nat.le_refl _), ← stk_len its, List.take_length, stk_len its] at h3
    exact h3
  rd := (h.ok i (by simp)).2.2
  ok := fun j hj => h.ok j (by simp [hj])
  bel := h.bel
  fin := fun w' ctF fpt fps hl ho => by
    rw [List.nil_append] at ho
    exact h.fin w' ((i.v.ownBlock.toList ++ fpt) :: fps) (by simp [hl]) (ho.close rfl)
/-- A list has been walked. -/
theorem CiSt.done {w : World} {xs0 : List Dt} {v0 : Value} {its : List It} {vS : Value} {R : List Asn} {vL : Value} {n : Nat} {cd : List Value} {wx : World} (h : CiSt w xs0 v0 its vS R vL n [] cd [] wx) :
    CvSt w xs0 v0 its vS (rowA 28 7 vL n cd :: R) wx where
  ob := by
    have h1 := h.ob
    rw [List.append_nil] at h1
    exact h1.perm (List.Perm.cons _ List.perm_middle.symm)
  ok := h.ok
  bel := h.bel
  fin := fun w' fps hl ho => by
    have h1 := (ho.perm List.perm_middle).cons (a := owLA [] [] []) (owLA_at (by simp [OwL]) (New.nil _)) (fun x hx k hk => by cases hk)
    refine h.fin w' [] [] fps hl ?_
    rw [List.append_nil]
    exact h1.swap
/-- The three slices of an element, cloned, make it. -/
theorem Objs.val {B : Nat} {w : World} {k n s : Int} {t : ByteArray} {l r : List Dt} {cc : List ByteArray} {v4 v5 v6 : Value} {f4 f5 f6 : List Nat} {L : List Asn} (h : Objs B w (owA (.lst l) [v4] f4 :: owA (.lst (cc.map .str)) [v5] f5 :: owA (.lst r) [v6] f6 :: L)) :
    Objs B w (owA (.agg [.int k, .int n, .int s, .str t, .lst l, .lst (cc.map .str), .lst r]) [.int .i64 k, .int .i64 n, .int .i64 s, .string t, v4, v5, v6] (f4 ++ (f5 ++ f6)) :: L) := by
  have h1 := (h.perm ((List.perm_append_comm (l₁ := [_, _]) (l₂ := [_])).append_right _)).single.perm (List.perm_append_comm (l₁ := [_]) (l₂ := [_, _]) |>.append_right _)
  have h2 := (h1.perm (List.perm_append_comm (l₁ := [_]) (l₂ := [_, _]) |>.append_right _)).single.pair.perm (List.Perm.swap _ _ _)
  have h3 := h2.single.pair
  exact h3.weak (fun h => ⟨Ow.mkValue h.1, h.2⟩) (owA_loc _ _ _) (fun _ h => h)

theorem perm5 {α : Type} (a b c d e : α) (X : List α) : (a :: b :: c :: d :: e :: X).Perm (c :: d :: e :: a :: b :: X) := by
  have := (List.perm_append_comm (l₁ := [a, b]) (l₂ := [c, d, e])).append_right X
  simpa using this
theorem l5a {α : Type} (a r c d s : α) (X : List α) : (a :: r :: c :: d :: s :: X).Perm (c :: s :: a :: d :: r :: X) := by
  have e1 : (a :: r :: c :: d :: s :: X).Perm (c :: a :: r :: d :: s :: X) := by
    simpa using (List.perm_append_comm (l₁ := [a, r]) (l₂ := [c])).append_right (d :: s :: X)
  have e2 : (a :: r :: d :: s :: X).Perm (s :: a :: r :: d :: X) := by
    simpa using (List.perm_append_comm (l₁ := [a, r, d]) (l₂ := [s])).append_right X
  exact e1.trans (List.Perm.cons _ (e2.trans (List.Perm.cons _ (List.Perm.cons _ (List.Perm.swap _ _ _)))))
theorem l5b {α : Type} (c s a d r : α) (X : List α) : (c :: s :: a :: d :: r :: X).Perm (s :: a :: d :: c :: r :: X) := by
  simpa using (List.perm_append_comm (l₁ := [c]) (l₂ := [s, a, d])).append_right (r :: X)
section
variable {w : World} {xs0 : List Dt} {v0 : Value} {its : List It} {vS : Value} {R : List Asn} {vL : Value} {N : Nat} {todo : List Dt} {cd : List Value}
  {k n s : Int} {t : ByteArray} {l r : List Dt} {cc : List ByteArray} {v4 v5 v6 : Value} {f4 f5 f6 : List Nat}
theorem fin_step {Q : World → Prop} {fps : List (List Nat)}
    (hfin : ∀ (w' : World) (ctF : List Value) (fpt : List Nat), Objs w.heap.size w' (rowA 28 7 vL N (cd ++ ctF) :: owLA (.agg [.int k, .int n, .int s, .str t, .lst l, .lst (cc.map .str), .lst r] :: todo) ctF fpt :: (owAs its fps ++ R)) → Q w')
    (w' : World) (ctF : List Value) (fpt : List Nat) (h : Objs w.heap.size w' (rowA 28 7 vL N ((cd ++ [.int .i64 k, .int .i64 n, .int .i64 s, .string t, v4, v5, v6]) ++ ctF) :: owLA todo ctF fpt :: owA (.lst l) [v4] f4 :: owA (.lst (cc.map .str)) [v5] f5 :: owA (.lst r) [v6] f6 :: (owAs its fps ++ R))) : Q w' := by
  have h1 := (h.perm (perm5 _ _ _ _ _ _)).val (k := k) (n := n) (s := s) (t := t)
  have h2 := (h1.single.perm ((List.perm_append_comm (l₁ := [_]) (l₂ := [_, _])).append_right _))
  have h3 : Objs w.heap.size w' (owLA _ _ _ :: owLA _ _ _ :: rowA 28 7 vL N ((cd ++ [.int .i64 k, .int .i64 n, .int .i64 s, .string t, v4, v5, v6]) ++ ctF) :: (owAs its fps ++ R)) := h1.single.perm (by
    refine (List.Perm.cons _ ?_)
    exact List.Perm.swap _ _ _)
  have h4 := h3.pair.swap
  rw [List.append_assoc] at h4
  exact hfin w' _ _ h4
/-- An element with no list below is done. -/
theorem CiSt.next0 {cx ct : List Value} {wr we : World} (h : CiSt w xs0 v0 its vS R vL N (.agg [.int k, .int n, .int s, .str t, .lst [], .lst (cc.map .str), .lst r] :: todo) cd (cx ++ ct) wr) (hb : Below w.heap.size w we) (hct : RdL w w.heap.size todo ct)
    (ho : Objs w.heap.size we (SLR vS its :: rowA 28 7 vL N ((cd ++ [.int .i64 k, .int .i64 n, .int .i64 s, .string t, v4, v5, v6]) ++ ct) :: rowA 28 7 v4 0 [] :: owA (.lst (cc.map .str)) [v5] f5 :: owA (.lst r) [v6] f6 :: (its.map It.row ++ R))) :
    CiSt w xs0 v0 its vS (rowA 28 7 v4 0 [] :: owA (.lst (cc.map .str)) [v5] f5 :: owA (.lst r) [v6] f6 :: R) vL N todo (cd ++ [.int .i64 k, .int .i64 n, .int .i64 s, .string t, v4, v5, v6]) ct we where
  ob := ho.perm (by
    refine (List.Perm.cons _ (List.Perm.cons _ ?_))
    have := (List.perm_append_comm (l₁ := [rowA 28 7 v4 0 [], owA (.lst (cc.map .str)) [v5] f5, owA (.lst r) [v6] f6]) (l₂ := its.map It.row)).append_right R
    simpa using this)
  rd := hct
  ok := h.ok
  bel := hb
  fin := fun w' ctF fpt fps hl hO => by
    refine fin_step (its := its) (fps := fps) (R := R) (l := []) (Q := fun w' => ∃ fp, Objs w.heap.size w' [owA (.lst xs0) [v0] fp]) (fun w' ctF fpt => h.fin w' ctF fpt fps hl) w' ctF fpt (v4 := v4) (v5 := v5) (v6 := v6) (f4 := v4.ownBlock.toList) (f5 := f5) (f6 := f6) ?_
    have h1 : Objs w.heap.size w' (rowA 28 7 v4 0 [] :: (rowA 28 7 vL N ((cd ++ [.int .i64 k, .int .i64 n, .int .i64 s, .string t, v4, v5, v6]) ++ ctF) :: owLA todo ctF fpt :: owA (.lst (cc.map .str)) [v5] f5 :: owA (.lst r) [v6] f6 :: (owAs its fps ++ R))) := hO.perm (by
      have e1 := (List.perm_append_comm (l₁ := owAs its fps) (l₂ := [rowA 28 7 v4 0 [], owA (.lst (cc.map .str)) [v5] f5, owA (.lst r) [v6] f6])).append_right R
      have e2 : (owAs its fps ++ (rowA 28 7 v4 0 [] :: owA (.lst (cc.map .str)) [v5] f5 :: owA (.lst r) [v6] f6 :: R)).Perm (rowA 28 7 v4 0 [] :: owA (.lst (cc.map .str)) [v5] f5 :: owA (.lst r) [v6] f6 :: (owAs its fps ++ R)) := by simpa using e1
      refine (List.Perm.cons _ (List.Perm.cons _ e2)).trans ?_
      have := (List.perm_append_comm (l₁ := [rowA 28 7 vL N ((cd ++ [.int .i64 k, .int .i64 n, .int .i64 s, .string t, v4, v5, v6]) ++ ctF), owLA todo ctF fpt]) (l₂ := [rowA 28 7 v4 0 []])).append_right (owA (.lst (cc.map .str)) [v5] f5 :: owA (.lst r) [v6] f6 :: (owAs its fps ++ R))
      simpa using this)
    have h2 := h1.close0 (xs := []) (fun w' => by simp [OwL]) rfl
    refine h2.perm ?_
    have := (List.perm_append_comm (l₁ := [owA (.lst []) [v4] v4.ownBlock.toList]) (l₂ := [rowA 28 7 vL N ((cd ++ [.int .i64 k, .int .i64 n, .int .i64 s, .string t, v4, v5, v6]) ++ ctF), owLA todo ctF fpt])).append_right (owA (.lst (cc.map .str)) [v5] f5 :: owA (.lst r) [v6] f6 :: (owAs its fps ++ R))
    simpa using this
/-- An element with a list below is done; the list is still to be walked. -/
theorem CiSt.nextS {vS' : Value} {cx ct lc : List Value} {wr we : World} (h : CiSt w xs0 v0 its vS R vL N (.agg [.int k, .int n, .int s, .str t, .lst l, .lst (cc.map .str), .lst r] :: todo) cd (cx ++ ct) wr) (hb : Below w.heap.size w we) (hct : RdL w w.heap.size todo ct) (hi : It.Ok w ⟨l, v4, lc⟩)
    (ho : Objs w.heap.size we (SLR vS' (⟨l, v4, lc⟩ :: its) :: rowA 28 7 vL N ((cd ++ [.int .i64 k, .int .i64 n, .int .i64 s, .string t, v4, v5, v6]) ++ ct) :: rowA 28 7 v4 l.length lc :: owA (.lst (cc.map .str)) [v5] f5 :: owA (.lst r) [v6] f6 :: (its.map It.row ++ R))) :
    CiSt w xs0 v0 (⟨l, v4, lc⟩ :: its) vS' (owA (.lst (cc.map .str)) [v5] f5 :: owA (.lst r) [v6] f6 :: R) vL N todo (cd ++ [.int .i64 k, .int .i64 n, .int .i64 s, .string t, v4, v5, v6]) ct we where
  ob := ho.perm (by
    refine (List.Perm.cons _ (List.Perm.cons _ (List.Perm.cons _ ?_)))
    have := (List.perm_append_comm (l₁ := [owA (.lst (cc.map .str)) [v5] f5, owA (.lst r) [v6] f6]) (l₂ := its.map It.row)).append_right R
    simpa using this)
  rd := hct
  ok := fun j hj => by
    rcases List.mem_cons.1 hj with rfl | hj
    · exact hi
    · exact h.ok j hj
  bel := hb
  fin := fun w' ctF fpt fps hl hO => by
    match fps, hl with
    | f4 :: fps, hl =>
      refine fin_step (its := its) (fps := fps) (R := R) (l := l) (Q := fun w' => ∃ fp, Objs w.heap.size w' [owA (.lst xs0) [v0] fp]) (fun w' ctF fpt => h.fin w' ctF fpt fps (by simpa using hl)) w' ctF fpt (v4 := v4) (v5 := v5) (v6 := v6) (f4 := f4) (f5 := f5) (f6 := f6) ?_
      refine hO.perm ?_
      refine (List.Perm.cons _ (List.Perm.cons _ (List.Perm.cons _ ?_)))
      have := (List.perm_append_comm (l₁ := owAs its fps) (l₂ := [owA (.lst (cc.map .str)) [v5] f5, owA (.lst r) [v6] f6])).append_right R
      simpa using this
end
end Go.Proofs.YtdnneilbgekccabGreat
