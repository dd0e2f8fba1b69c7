/-
  Texts that the proof rests on, put together: NameMath.
-/
import Derived.Test.YtabcmnlmmpbmnaaGreatRows
import Derived.Lib.SlicesCompact
import Derived.Lib.SlicesS
import Derived.Sort.Walk0
/-
  Names in lexical order: sorting without repeats, as the model does it and as the library's calls do.
-/

namespace Go.Proofs.YtabcmnlmmpbmnaaGreat
set_option linter.unusedVariables false

/-- A name's bytes. -/
abbrev Nm := List UInt8

theorem nm_irrefl (x : Nm) : ¬ x < x := List.lt_irrefl x
theorem nm_trans {x y z : Nm} (h : x < y) (h' : y < z) : x < z := List.lt_trans h h'
theorem nm_tri (x y : Nm) : x < y ∨ x = y ∨ y < x := by
  by_cases h : x < y
  · exact .inl h
  · by_cases h' : y < x
    · exact .inr (.inr h')
    · exact .inr (.inl (List.le_antisymm (List.not_lt.1 h') (List.not_lt.1 h)))
theorem nm_le {x y : Nm} : x ≤ y ↔ ¬ y < x := List.not_lt.symm

/-- In strictly rising order. -/
def Rise (l : List Nm) : Prop := l.Pairwise (· < ·)

theorem rise_ext : ∀ {a b : List Nm}, Rise a → Rise b → (∀ x, x ∈ a ↔ x ∈ b) → a = b
  | [], [], _, _, _ => rfl
  | [], y :: b, _, _, h => by have := (h y).2 (by simp); simp at this
  | x :: a, [], _, _, h => by have := (h x).1 (by simp); simp at this
  | x :: a, y :: b, ha, hb, h => by
    have ha' := List.pairwise_cons.1 ha
    have hb' := List.pairwise_cons.1 hb
    have hxy : x = y := by
      have h1 := (h x).1 (by simp)
      have h2 := (h y).2 (by simp)
      rcases List.mem_cons.1 h1 with e | e
      · exact e
      · rcases List.mem_cons.1 h2 with e' | e'
        · exact e'.symm
        · exact absurd (nm_trans (hb'.1 _ e) (ha'.1 _ e')) (nm_irrefl _)
    subst hxy
    have hab : a = b := rise_ext ha'.2 hb'.2 (fun z => by
      constructor
      · intro hz
        rcases List.mem_cons.1 ((h z).1 (List.mem_cons_of_mem _ hz)) with rfl | e
        · exact absurd (ha'.1 _ hz) (nm_irrefl _)
        · exact e
      · intro hz
        rcases List.mem_cons.1 ((h z).2 (List.mem_cons_of_mem _ hz)) with rfl | e
        · exact absurd (hb'.1 _ hz) (nm_irrefl _)
        · exact e)
    rw [hab]

/-- One name put in its place, if it is not there. -/
def insN (x : Nm) : List Nm → List Nm
  | [] => [x]
  | y :: l => if y < x then y :: insN x l else if y = x then y :: l else x :: y :: l

theorem mem_insN (x z : Nm) : ∀ l, z ∈ insN x l ↔ z = x ∨ z ∈ l
  | [] => by simp [insN]
  | y :: l => by
    unfold insN
    split
    · simp only [List.mem_cons, mem_insN x z l]
      constructor
      · rintro (h | h | h) <;> simp [h]
      · rintro (h | h | h) <;> simp [h]
    · split
      · rename_i h
        subst h
        simp
      · simp
theorem rise_insN (x : Nm) : ∀ {l}, Rise l → Rise (insN x l)
  | [], _ => by simp [insN, Rise]
  | y :: l, h => by
    have h' := List.pairwise_cons.1 h
    unfold insN
    split
    · rename_i hy
      refine List.pairwise_cons.2 ⟨fun z hz => ?_, rise_insN x h'.2⟩
      rcases (mem_insN x z l).1 hz with rfl | hz
      · exact hy
      · exact h'.1 z hz
    · split
      · exact h
      · rename_i h1 h2
        refine List.pairwise_cons.2 ⟨fun z hz => ?_, h⟩
        have hxy : x < y := by rcases nm_tri x y with e | e | e; exact e; exact absurd e.symm h2; exact absurd e h1
        rcases List.mem_cons.1 hz with rfl | hz
        · exact hxy
        · exact nm_trans hxy (h'.1 z hz)

/-- The names in strictly rising order: the model's answer. -/
def sortN (l : List Nm) : List Nm := l.foldl (fun acc x => insN x acc) []

theorem foldl_insN : ∀ (l acc : List Nm), Rise acc → Rise (l.foldl (fun acc x => insN x acc) acc) ∧ ∀ z, z ∈ l.foldl (fun acc x => insN x acc) acc ↔ z ∈ acc ∨ z ∈ l
  | [], acc, h => ⟨h, by simp⟩
  | x :: l, acc, h => by
    obtain ⟨h1, h2⟩ := foldl_insN l (insN x acc) (rise_insN x h)
    refine ⟨h1, fun z => ?_⟩
    rw [List.foldl_cons, h2, mem_insN, List.mem_cons]
    constructor
    · rintro ((h | h) | h) <;> simp [h]
    · rintro (h | h | h) <;> simp [h]
theorem rise_sortN (l : List Nm) : Rise (sortN l) := (foldl_insN l [] (by simp [Rise])).1
theorem mem_sortN (l : List Nm) (z : Nm) : z ∈ sortN l ↔ z ∈ l := by rw [sortN, (foldl_insN l [] (by simp [Rise])).2]; simp
theorem insN_length (x : Nm) : ∀ l, (insN x l).length ≤ l.length + 1
  | [] => by simp [insN]
  | y :: l => by
    unfold insN
    split
    · simp only [List.length_cons]; have := insN_length x l; omega
    · split <;> simp
theorem sortN_length (l : List Nm) : (sortN l).length ≤ l.length := by
  have h : ∀ (l acc : List Nm), (l.foldl (fun acc x => insN x acc) acc).length ≤ acc.length + l.length := by
    intro l
    induction l with
    | nil => intro acc; simp
    | cons x l ih =>
      intro acc
      have h1 := ih (insN x acc)
      have h2 := insN_length x acc
      simp only [List.foldl_cons, List.length_cons]
      omega
  simpa [sortN] using h l []

/-! ### what the library's calls compute -/
open Go.Lib in
theorem compact_upTo (d : Array Nm) (hd : ∀ i j, i ≤ j → j < d.size → d[i]! ≤ d[j]!) : ∀ m, m ≤ d.size → Rise (compactUpTo d m) ∧ (∀ z, z ∈ compactUpTo d m ↔ ∃ j, j < m ∧ d[j]! = z)
  | 0, _ => ⟨by simp [compactUpTo, Rise], by simp [compactUpTo]⟩
  | m + 1, hm => by
    obtain ⟨h1, h2⟩ := compact_upTo d hd m (by omega)
    have hs : compactUpTo d (m + 1) = compactUpTo d m ++ if keeps d m then [d[m]!] else [] := by
      unfold compactUpTo
      rw [List.range_succ, List.filter_append, List.map_append]
      congr 1
      by_cases hk : keeps d m <;> simp [hk]
    rw [hs]
    by_cases hk : keeps d m = true
    · rw [if_pos hk]
      refine ⟨List.pairwise_append.2 ⟨h1, by simp, ?_⟩, ?_⟩
      · intro a ha b hb
        obtain ⟨j, hj, rfl⟩ := (h2 a).1 ha
        have : b = d[m]! := by simpa using hb
        subst this
        have hm0 : m ≠ 0 := by omega
        have hne : d[m]! ≠ d[m - 1]! := by simpa [keeps, hm0] using hk
        have e1 := hd j (m - 1) (by omega) (by omega)
        have e2 := hd (m - 1) m (by omega) (by omega)
        rcases nm_tri (d[j]!) (d[m]!) with e | e | e
        · exact e
        · rw [e] at e1
          exact absurd (List.le_antisymm e1 e2) hne
        · have := hd j m (by omega) (by omega)
          exact absurd e (nm_le.1 this)
      · intro z
        rw [List.mem_append, h2]
        simp only [List.mem_singleton]
        constructor
        · rintro (⟨j, hj, e⟩ | e)
          · exact ⟨j, by omega, e⟩
          · exact ⟨m, by omega, e.symm⟩
        · rintro ⟨j, hj, e⟩
          by_cases hjm : j = m
          · subst hjm; exact .inr e.symm
          · exact .inl ⟨j, by omega, e⟩
    · rw [if_neg hk, List.append_nil]
      refine ⟨h1, fun z => ?_⟩
      rw [h2]
      constructor
      · rintro ⟨j, hj, e⟩; exact ⟨j, by omega, e⟩
      · rintro ⟨j, hj, e⟩
        by_cases hjm : j = m
        · subst hjm
          have h3 : j ≠ 0 ∧ d[j]! = d[j - 1]! := by
            simp only [keeps, decide_eq_true_eq, not_or, Decidable.not_not] at hk; exact hk
          exact ⟨j - 1, by omega, by rw [← h3.2]; exact e⟩
        · exact ⟨j, by omega, e⟩

theorem sorted_le (ss : List Nm) : (ss.mergeSort fun x y => decide (x ≤ y)).Pairwise (· ≤ ·) := by
  have := List.pairwise_mergeSort (le := fun x y : Nm => decide (x ≤ y)) (by
    intro a b c h1 h2
    simp only [decide_eq_true_eq] at *
    exact List.le_trans h1 h2) (by
    intro a b
    simp only [Bool.or_eq_true, decide_eq_true_eq]
    exact List.le_total a b) ss
  exact this.imp (by simp)

theorem compact_sort (ss : List Nm) : Go.Lib.compact (ss.mergeSort fun x y => decide (x ≤ y)) = sortN ss := by
  have hp := sorted_le ss
  have hper := List.mergeSort_perm ss fun x y => decide (x ≤ y)
  generalize (ss.mergeSort fun x y => decide (x ≤ y)) = t at hp hper
  have h := compact_upTo t.toArray (by
    intro i j hij hj
    have hj' : j < t.length := by simpa using hj
    have hi : i < t.length := by omega
    have e1 : t.toArray[i]! = t[i] := by simp [hi]
    have e2 : t.toArray[j]! = t[j] := by simp [hj']
    rw [e1, e2]
    by_cases e : i = j
    · subst e; exact List.le_refl _
    · exact List.pairwise_iff_getElem.1 hp i j hi hj' (by omega)) t.length (by simp)
  refine rise_ext h.1 (rise_sortN ss) (fun z => ?_)
  show z ∈ Go.Lib.compactUpTo t.toArray t.length ↔ _
  rw [h.2, mem_sortN, ← hper.mem_iff, List.mem_iff_getElem]
  constructor
  · rintro ⟨j, hj, e⟩; exact ⟨j, hj, by simpa [hj] using e⟩
  · rintro ⟨j, hj, e⟩; exact ⟨j, hj, by simpa [hj] using e⟩

/-! ### all distinct -/
theorem insN_len_new (x : Nm) : ∀ {l}, Rise l → x ∉ l → (insN x l).length = l.length + 1
  | [], _, _ => by simp [insN]
  | y :: l, h, hx => by
    unfold insN
    split
    · simp [insN_len_new x (List.pairwise_cons.1 h).2 (fun h' => hx (by simp [h']))]
    · split
      · rename_i e; exact absurd (by simp [e]) hx
      · simp
theorem insN_old (x : Nm) : ∀ {l}, Rise l → x ∈ l → insN x l = l := by
  intro l h hx
  refine rise_ext (rise_insN x h) h (fun z => ?_)
  rw [mem_insN]
  constructor
  · rintro (rfl | h); exact hx; exact h
  · exact .inr
theorem fold_len (l : List Nm) : ∀ acc, Rise acc → ((l.foldl (fun acc x => insN x acc) acc).length = acc.length + l.length ↔ l.Nodup ∧ ∀ x ∈ l, x ∉ acc) := by
  induction l with
  | nil => intro acc h; simp
  | cons x l ih =>
    intro acc h
    rw [List.foldl_cons]
    have hle : ∀ (l acc : List Nm), (l.foldl (fun acc x => insN x acc) acc).length ≤ acc.length + l.length := by
      intro l
      induction l with
      | nil => intro acc; simp
      | cons x l ih =>
        intro acc
        have h1 := ih (insN x acc)
        have h2 := insN_length x acc
        simp only [List.foldl_cons, List.length_cons]
        omega
    by_cases hx : x ∈ acc
    · rw [insN_old x h hx]
      have := hle l acc
      constructor
      · intro e; simp only [List.length_cons] at e; omega
      · intro e; exact absurd hx (e.2 x (by simp))
    · have hl := insN_len_new x h hx
      have := ih (insN x acc) (rise_insN x h)
      rw [show acc.length + (x :: l).length = (insN x acc).length + l.length by simp [hl]; omega, this]
      simp only [List.nodup_cons, mem_insN, List.mem_cons]
      constructor
      · rintro ⟨h1, h2⟩
        refine ⟨⟨fun hm => h2 x hm (.inl rfl), h1⟩, ?_⟩
        rintro y (rfl | hy)
        · exact hx
        · exact fun hh => h2 y hy (.inr hh)
      · rintro ⟨⟨h1, h2⟩, h3⟩
        refine ⟨h2, fun y hy hh => ?_⟩
        rcases hh with rfl | hh
        · exact h1 hy
        · exact h3 y (.inr hy) hh
theorem sortN_len (l : List Nm) : (sortN l).length = l.length ↔ l.Nodup := by
  have := fold_len l [] (by simp [Rise])
  simpa [sortN] using this
end Go.Proofs.YtabcmnlmmpbmnaaGreat
