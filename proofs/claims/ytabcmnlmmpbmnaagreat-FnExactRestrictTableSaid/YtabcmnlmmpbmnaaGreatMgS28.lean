/-
  Texts that the proof rests on, put together: SortMath, SetMath.
-/
import Derived.Test.YtabcmnlmmpbmnaaGreatMgS10
import Derived.Test.YtabcmnlmmpbmnaaGreatMgS14
import Derived.Shelf.SlSortCmp.InsertionK
import Derived.Shelf.SlSortCmp.KitK
/-
  Origins sorted: plain mathematics. (Written by gentab4.py.)
-/

namespace Go.Proofs.YtabcmnlmmpbmnaaGreat
open Go.RowKit Go.Lib Go.Sort
set_option linter.unusedVariables false

/-- An origin's two cells; the comparison; 'less'. -/
def encO (x : Int × Int) : List Value := [.int .i64 x.1, .int .i64 x.2]
def cfO (x y : Int × Int) : Int := orI (cmpI x.1 y.1) (cmpI x.2 y.2)
theorem ltO (x y : Int × Int) : ltOf cfO x y = true ↔ OLt x y := by
  obtain ⟨a, b⟩ := x
  obtain ⟨c, d⟩ := y
  unfold ltOf
  rw [decide_eq_true_eq]
  have h := cmp_or a b c d
  show orI (cmpI a c) (cmpI b d) < 0 ↔ _
  constructor
  · intro h1
    exact Classical.byContradiction fun h2 => absurd (h.2 h2) (by omega)
  · intro h1
    exact Classical.byContradiction fun h2 => absurd h1 (h.1 (by omega))
theorem ltO_no (x y : Int × Int) : ltOf cfO x y = false ↔ ¬ OLt x y := by
  rw [← ltO, Bool.not_eq_true]
theorem swoO : SWO (ltOf cfO) where
  irrefl x := by rw [ltO_no]; unfold OLt; omega
  trans x y z h1 h2 := by rw [ltO] at *; unfold OLt at *; omega
  ntrans x y z h1 h2 := by rw [ltO_no] at *; unfold OLt at *; omega
theorem totO (x y : Int × Int) (h1 : ltOf cfO x y = false) (h2 : ltOf cfO y x = false) : x = y := by
  rw [ltO_no] at h1 h2
  obtain ⟨a, b⟩ := x
  obtain ⟨c, d⟩ := y
  unfold OLt at h1 h2
  simp only at h1 h2
  have e1 : a = c := by omega
  have e2 : b = d := by omega
  rw [e1, e2]
theorem flat_get : ∀ (l : List (Int × Int)) (t : Nat), t < l.length * 2 → (l.flatMap encO)[t]? = some ((encO (l.toArray[t / 2]!))[t % 2]!)
  | [], t, h => by simp at h
  | x :: l, 0, h => by simp [encO]
  | x :: l, 1, h => by simp [encO]
  | x :: l, t + 2, h => by
    have ih := flat_get l t (by simp at h; omega)
    have e1 : (t + 2) / 2 = t / 2 + 1 := by omega
    have e2 : (t + 2) % 2 = t % 2 := by omega
    rw [e1, e2]
    have e3 : ((x :: l).flatMap encO)[t + 2]? = (l.flatMap encO)[t]? := by
      rw [List.flatMap_cons]
      rfl
    have e4 : (x :: l).toArray[t / 2 + 1]! = l.toArray[t / 2]! := by simp
    rw [e3, e4, ih]
theorem flatO_len (l : List (Int × Int)) : (l.flatMap encO).length = l.length * 2 := by
  induction l with
  | nil => rfl
  | cons x l ih => simp only [List.flatMap_cons, List.length_append, ih, List.length_cons, encO, List.length_nil]; omega
theorem holdsO {w : World} {B g n c : Nat} {e : TypeId} {l : List (Int × Int)} (h : w.ownsRow B e 2 (.slice (some ⟨g, 0, none⟩) n c) n (l.flatMap encO)) : HoldsK encO 2 w g 0 l.toArray := by
  intro j hj
  rw [size_flatK] at hj
  have hj : j < l.length * 2 := by simpa using hj
  rw [get_flatK _ _ _ _ (by simpa using hj), Nat.zero_add]
  exact ⟨(h.cellAt j (by have h1 := h.1; rw [flatO_len] at h1; omega)).trans (flat_get l j hj), h.frozenAt j⟩
theorem RdL.orgsO {w : World} {B : Nat} : ∀ {os : List Dt} {cs : List Value}, (∀ x ∈ os, IsOrg x) → RdL w B os cs → cs = (os.map pr).flatMap encO
  | [], cs, _, h => by simp only [RdL] at h; subst h; rfl
  | x :: os, cs, ho, h => by
    obtain ⟨a, b, rfl⟩ := ho x (by simp)
    simp only [RdL, Rd] at h
    obtain ⟨_, c2, rfl, ⟨_, _, rfl, rfl, _, _, rfl, rfl, rfl⟩, h2⟩ := h
    rw [RdL.orgsO (fun y hy => ho y (by simp [hy])) h2]
    rfl
end Go.Proofs.YtabcmnlmmpbmnaaGreat

/-
  Origins as sets: plain mathematics. (Written by gen8m.py.)
-/

namespace Go.Proofs.YtabcmnlmmpbmnaaGreat
open Go.RowKit Go.Lib Go.Sort
set_option linter.unusedVariables false

theorem olt_irr (x : Int × Int) : ¬ OLt x x := by unfold OLt; omega
theorem olt_tr {x y z : Int × Int} (h : OLt x y) (h' : OLt y z) : OLt x z := by unfold OLt at *; omega
theorem olt_tri (x y : Int × Int) : OLt x y ∨ x = y ∨ OLt y x := by
  obtain ⟨a, b⟩ := x
  obtain ⟨c, d⟩ := y
  unfold OLt
  simp only [Prod.mk.injEq]
  omega
/-- Two lists that ascend and have the same members are one. -/
theorem asc_ext : ∀ {a b : List (Int × Int)}, a.Pairwise OLt → b.Pairwise OLt → (∀ o, o ∈ a ↔ o ∈ b) → a = b
  | [], [], _, _, _ => rfl
  | [], y :: b, _, _, h => absurd ((h y).2 (by simp)) (by simp)
  | x :: a, [], _, _, h => absurd ((h x).1 (by simp)) (by simp)
  | x :: a, y :: b, ha, hb, h => by
    rw [List.pairwise_cons] at ha hb
    have e : x = y := by
      rcases List.mem_cons.1 ((h x).1 (by simp)) with e | hx
      · exact e
      · rcases List.mem_cons.1 ((h y).2 (by simp)) with e | hy
        · exact e.symm
        · exact (olt_irr _ (olt_tr (ha.1 y hy) (hb.1 x hx))).elim
    subst e
    rw [asc_ext ha.2 hb.2 fun o => ⟨fun ho => ?_, fun ho => ?_⟩]
    · rcases List.mem_cons.1 ((h o).1 (by simp [ho])) with e | h1
      · subst e; exact (olt_irr _ (ha.1 _ ho)).elim
      · exact h1
    · rcases List.mem_cons.1 ((h o).2 (by simp [ho])) with e | h1
      · subst e; exact (olt_irr _ (hb.1 _ ho)).elim
      · exact h1
/-- The members of l, ascending, each once. -/
def IsSetO (l out : List (Int × Int)) : Prop := out.Pairwise OLt ∧ ∀ o, o ∈ out ↔ o ∈ l
theorem IsSetO.one {l l' a b : List (Int × Int)} (h : IsSetO l a) (h' : IsSetO l' b) (hm : ∀ o, o ∈ l ↔ o ∈ l') : a = b :=
  asc_ext h.1 h'.1 fun o => by rw [h.2, h'.2, hm]
open Classical in
/-- o in its place, once. -/
noncomputable def putO (o : Int × Int) : List (Int × Int) → List (Int × Int)
  | [] => [o]
  | x :: l => if OLt o x then o :: x :: l else if o = x then x :: l else x :: putO o l
theorem putO_mem (o : Int × Int) : ∀ (l : List (Int × Int)) (x : Int × Int), x ∈ putO o l ↔ x = o ∨ x ∈ l
  | [], x => by simp [putO]
  | y :: l, x => by
    unfold putO
    split
    · simp
    · split
      · rename_i h1 h2; subst h2; simp
      · simp only [List.mem_cons, putO_mem o l x]
        constructor
        · rintro (h | h | h) <;> simp [h]
        · rintro (h | h | h) <;> simp [h]
theorem putO_asc (o : Int × Int) : ∀ (l : List (Int × Int)), l.Pairwise OLt → (putO o l).Pairwise OLt
  | [], _ => by simp [putO]
  | y :: l, h => by
    rw [List.pairwise_cons] at h
    unfold putO
    split
    · rename_i h1
      rw [List.pairwise_cons, List.pairwise_cons]
      refine ⟨fun x hx => ?_, h⟩
      rcases List.mem_cons.1 hx with rfl | hx
      · exact h1
      · exact olt_tr h1 (h.1 x hx)
    · split
      · exact List.pairwise_cons.2 h
      · rename_i h1 h2
        rw [List.pairwise_cons]
        refine ⟨fun x hx => ?_, putO_asc o l h.2⟩
        rcases (putO_mem o l x).1 hx with rfl | hx
        · rcases olt_tri x y with h3 | h3 | h3
          · exact (h1 h3).elim
          · exact (h2 h3).elim
          · exact h3
        · exact h.1 x hx
/-- The set of l's members. -/
noncomputable def setO (l : List (Int × Int)) : List (Int × Int) := l.foldl (fun s o => putO o s) []
theorem foldO_set : ∀ (l : List (Int × Int)) (s : List (Int × Int)), s.Pairwise OLt → (l.foldl (fun s o => putO o s) s).Pairwise OLt ∧ ∀ o, o ∈ l.foldl (fun s o => putO o s) s ↔ o ∈ s ∨ o ∈ l
  | [], s, h => ⟨h, by simp⟩
  | x :: l, s, h => by
    have ih := foldO_set l (putO x s) (putO_asc x s h)
    refine ⟨ih.1, fun o => ?_⟩
    rw [List.foldl_cons, ih.2, putO_mem, List.mem_cons]
    constructor
    · rintro ((h | h) | h) <;> simp [h]
    · rintro (h | h | h) <;> simp [h]
theorem setO_is (l : List (Int × Int)) : IsSetO l (setO l) := by
  have h := foldO_set l [] List.Pairwise.nil
  exact ⟨h.1, fun o => by rw [setO, h.2]; simp⟩
theorem setO_eq {l s : List (Int × Int)} (h : IsSetO l s) : setO l = s := (setO_is l).one h fun _ => Iff.rfl
theorem setO_mem {l : List (Int × Int)} {o : Int × Int} : o ∈ setO l ↔ o ∈ l := (setO_is l).2 o
theorem setO_len (l : List (Int × Int)) : (setO l).length ≤ l.length := by
  have hs : ∀ (o : Int × Int) (s : List (Int × Int)), (putO o s).length ≤ s.length + 1 := by
    intro o s
    induction s with
    | nil => simp [putO]
    | cons x s ih =>
      unfold putO
      split
      · simp
      · split
        · simp
        · simp only [List.length_cons]; omega
  have h : ∀ (l s : List (Int × Int)), (l.foldl (fun s o => putO o s) s).length ≤ s.length + l.length := by
    intro l
    induction l with
    | nil => simp
    | cons x l ih =>
      intro s
      have h1 := ih (putO x s)
      have h2 := hs x s
      simp only [List.foldl_cons, List.length_cons]
      omega
  have h1 := h l []
  simp only [List.length_nil, Nat.zero_add] at h1
  exact h1
/-! ### putO by a loop -/
/-! ### neighbours that are equal dropped -/
def cpt : List (Int × Int) → List (Int × Int)
  | [] => []
  | [x] => [x]
  | x :: y :: l => if x = y then cpt (y :: l) else x :: cpt (y :: l)
theorem cpt_snoc : ∀ (l : List (Int × Int)) (x y : Int × Int), cpt (l ++ [x, y]) = if y = x then cpt (l ++ [x]) else cpt (l ++ [x]) ++ [y]
  | [], x, y => by
    simp only [List.nil_append, cpt]
    by_cases h : x = y
    · subst h; simp
    · rw [if_neg h, if_neg (fun e => h e.symm)]; rfl
  | [z], x, y => by
    have h := cpt_snoc [] x y
    simp only [List.nil_append] at h
    simp only [List.cons_append, List.nil_append]
    unfold cpt
    rw [h]
    split
    · split <;> simp [cpt]
    · split <;> simp [cpt]
  | z :: u :: l, x, y => by
    have h := cpt_snoc (u :: l) x y
    simp only [List.cons_append] at h ⊢
    unfold cpt
    rw [h]
    split
    · rfl
    · split <;> simp
theorem cpt_mem : ∀ (l : List (Int × Int)) (o : Int × Int), o ∈ cpt l ↔ o ∈ l
  | [], o => by simp [cpt]
  | [x], o => by simp [cpt]
  | x :: y :: l, o => by
    have h := cpt_mem (y :: l) o
    unfold cpt
    split
    · rename_i e; subst e
      rw [h]; simp
    · rw [List.mem_cons, h, List.mem_cons (a := o) (b := x)]
theorem cpt_asc : ∀ (l : List (Int × Int)), l.Pairwise (fun x y => ¬ OLt y x) → (cpt l).Pairwise OLt
  | [], _ => by simp [cpt]
  | [x], _ => by simp [cpt]
  | x :: y :: l, h => by
    rw [List.pairwise_cons] at h
    have ih := cpt_asc (y :: l) h.2
    unfold cpt
    split
    · exact ih
    · rename_i hne
      rw [List.pairwise_cons]
      refine ⟨fun z hz => ?_, ih⟩
      rw [cpt_mem] at hz
      have hxy : OLt x y := by
        rcases olt_tri x y with h1 | h1 | h1
        · exact h1
        · exact (hne h1).elim
        · exact (h.1 y (by simp) h1).elim
      rcases List.mem_cons.1 hz with rfl | hz
      · exact hxy
      · have h2 := (List.pairwise_cons.1 h.2).1 z hz
        rcases olt_tri y z with h1 | h1 | h1
        · exact olt_tr hxy h1
        · rw [← h1]; exact hxy
        · exact (h2 h1).elim
/-- Sorted by the library, equal neighbours dropped: the set. -/
def srtO (l : List (Int × Int)) : List (Int × Int) := l.mergeSort (fun x y => !(ltOf cfO) y x)
theorem srtO_mem (l : List (Int × Int)) (o : Int × Int) : o ∈ srtO l ↔ o ∈ l := (List.mergeSort_perm l _).mem_iff
theorem srtO_len (l : List (Int × Int)) : (srtO l).length = l.length := (List.mergeSort_perm l _).length_eq
theorem srtO_asc (l : List (Int × Int)) : (srtO l).Pairwise (fun x y => ¬ OLt y x) := by
  have h := List.pairwise_mergeSort (le := fun x y => !(ltOf cfO) y x) (fun a b c h1 h2 => by
    simp only [Bool.not_eq_true', ltO_no] at *
    unfold OLt at *
    omega) (fun a b => by
    rcases hb : ltOf cfO b a with _ | _
    · simp
    · have h1 := (ltO b a).1 hb
      have h2 : ltOf cfO a b = false := by rw [ltO_no]; unfold OLt at *; omega
      simp [h2]) l
  exact h.imp fun {a b} h => by
    simp only [Bool.not_eq_true', ltO_no] at h
    exact h
theorem srt_set (l : List (Int × Int)) : cpt (srtO l) = setO l := (setO_eq ⟨cpt_asc _ (srtO_asc l), fun o => by rw [cpt_mem, srtO_mem]⟩).symm
end Go.Proofs.YtabcmnlmmpbmnaaGreat
