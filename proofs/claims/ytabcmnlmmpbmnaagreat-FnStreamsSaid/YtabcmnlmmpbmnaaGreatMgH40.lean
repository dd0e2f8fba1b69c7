/-
  Texts that the proof rests on, put together: LstMath.
-/
import Derived.Test.YtabcmnlmmpbmnaaGreatMgH39
import Derived.Test.YtabcmnlmmpbmnaaGreatMgH11
/-
  What the functions of lists and streams give: plain mathematics.
-/

namespace Go.Proofs.YtabcmnlmmpbmnaaGreat
open Go.RowKit
set_option linter.unusedVariables false

def Dt.stp : Dt → Int
  | .agg (_ :: _ :: .int s :: _) => s
  | _ => 0
def strD (n s : Int) : Dt := .agg [.int 4, .int n, .int s, .str ⟨#[]⟩, .lst [], .lst [], .lst []]
theorem isVal_strD (n s : Int) : IsVal (strD n s) := IsVal.mk 4 n s ⟨#[]⟩ [] [] [] (by simp) (by simp)
theorem wt_strD (n s : Int) : (strD n s).wt = 0 := by simp [strD, Dt.wt, wts]; rfl
theorem wt_err (c : Int) : (errD c).wt = 0 := wt_flatD 6 c
/-- A function of one value, the operand's error first. -/
inductive One (f : Dt → Dt) (a : Dt) : Dt → Prop
  | err (c : Int) (h : ErrOf a c) : One f a (errD c)
  | ok (h : Fine a) : One f a (f a)
theorem one_some (f : Dt → Dt) (a : Dt) : ∃ d, One f a d := by
  rcases errOf_or a with h | ⟨c, h⟩
  · exact ⟨_, .ok h⟩
  · exact ⟨_, .err c h⟩
theorem One.one {f : Dt → Dt} {a d d' : Dt} (h : One f a d) (h' : One f a d') : d = d' := by
  cases h with
  | err c h => cases h' with
    | err c' h' => rw [errOf_one h h']
    | ok h' => exact (errOf_not h h').elim
  | ok h => cases h' with
    | err c' h' => exact (errOf_not h' h).elim
    | ok h' => rfl
theorem One.val {f : Dt → Dt} {a d : Dt} (h : One f a d) (hf : IsVal (f a)) : IsVal d := by
  cases h with
  | err c h => exact isVal_flatD _ _ _
  | ok h => exact hf
theorem One.wt {f : Dt → Dt} {a d : Dt} (h : One f a d) (hf : (f a).wt ≤ a.wt) : d.wt ≤ a.wt := by
  cases h with
  | err c h => rw [wt_err]; omega
  | ok h => exact hf

/-- A function of a number and a list or a stream. -/
def PairErr (a b : Dt) (c : Int) : Prop := (ErrOf a c ∨ (Fine a ∧ ErrOf b c)) ∨ (Fine a ∧ Fine b ∧ (a.kd ≠ 1 ∨ (b.kd ≠ 3 ∧ b.kd ≠ 4)) ∧ c = 4)
def PairOk (a b : Dt) : Prop := Fine a ∧ Fine b ∧ a.kd = 1 ∧ (b.kd = 3 ∨ b.kd = 4)
theorem pair_or (a b : Dt) : PairOk a b ∨ ∃ c, PairErr a b c := by
  rcases errOf_or a with ha | ⟨c, h⟩
  · rcases errOf_or b with hb | ⟨c, h⟩
    · by_cases h1 : a.kd = 1
      · by_cases h2 : b.kd = 3 ∨ b.kd = 4
        · exact .inl ⟨ha, hb, h1, h2⟩
        · exact .inr ⟨4, .inr ⟨ha, hb, .inr ⟨fun h => h2 (.inl h), fun h => h2 (.inr h)⟩, rfl⟩⟩
      · exact .inr ⟨4, .inr ⟨ha, hb, .inl h1, rfl⟩⟩
    · exact .inr ⟨c, .inl (.inr ⟨ha, h⟩)⟩
  · exact .inr ⟨c, .inl (.inl h)⟩
theorem pairErr_not {a b : Dt} {c : Int} (h : PairErr a b c) (h' : PairOk a b) : False := by
  rcases h with (h | ⟨_, h⟩) | ⟨_, _, h | ⟨h, g⟩, _⟩
  · exact errOf_not h h'.1
  · exact errOf_not h h'.2.1
  · exact h h'.2.2.1
  · rcases h'.2.2.2 with e | e
    · exact h e
    · exact g e
theorem pairErr_one {a b : Dt} {c c' : Int} (h : PairErr a b c) (h' : PairErr a b c') : c = c' := by
  rcases h with (h | ⟨f, h⟩) | ⟨f, g, _, rfl⟩ <;> rcases h' with (h' | ⟨f', h'⟩) | ⟨f', g', _, rfl⟩
  · exact errOf_one h h'
  · exact (errOf_not h f').elim
  · exact (errOf_not h f').elim
  · exact (errOf_not h' f).elim
  · exact errOf_one h h'
  · exact (errOf_not h g').elim
  · exact (errOf_not h' f).elim
  · exact (errOf_not h' g).elim
  · rfl
inductive Two (f : Dt → Dt → Dt) (a b : Dt) : Dt → Prop
  | err (c : Int) (h : PairErr a b c) : Two f a b (errD c)
  | ok (h : PairOk a b) : Two f a b (f a b)
theorem two_some (f : Dt → Dt → Dt) (a b : Dt) : ∃ d, Two f a b d := by
  rcases pair_or a b with h | ⟨c, h⟩
  · exact ⟨_, .ok h⟩
  · exact ⟨_, .err c h⟩
theorem Two.one {f : Dt → Dt → Dt} {a b d d' : Dt} (h : Two f a b d) (h' : Two f a b d') : d = d' := by
  cases h with
  | err c h => cases h' with
    | err c' h' => rw [pairErr_one h h']
    | ok h' => exact (pairErr_not h h').elim
  | ok h => cases h' with
    | err c' h' => exact (pairErr_not h' h).elim
    | ok h' => rfl
theorem Two.val {f : Dt → Dt → Dt} {a b d : Dt} (h : Two f a b d) (hf : IsVal (f a b)) : IsVal d := by
  cases h with
  | err c h => exact isVal_flatD _ _ _
  | ok h => exact hf
theorem Two.wt {f : Dt → Dt → Dt} {a b d : Dt} (h : Two f a b d) (hf : (f a b).wt ≤ a.wt + b.wt) : d.wt ≤ a.wt + b.wt := by
  cases h with
  | err c h => rw [wt_err]; omega
  | ok h => exact hf

/-- Lengths. -/
def lenD (a : Dt) : Dt := if a.kd = 3 then valD 1 a.el.length ⟨#[]⟩ [] else if a.kd = 2 then valD 1 a.tx.size ⟨#[]⟩ [] else errD 4
/-- Sums: the first error stays. -/
def stepS (s x : Dt) : Dt := if s.kd = 6 then s else if x.kd = 1 then chkD (s.nm + x.nm) else errD 4
def sumL (l : List Dt) : Dt := l.foldl stepS (valD 1 0 ⟨#[]⟩ [])
def sumD (a : Dt) : Dt := if a.kd = 3 then sumL a.el else errD 4
/-- A number within the limits, or an error. -/
def NE (d : Dt) : Prop := (∃ s, NumOk s ∧ d = valD 1 s ⟨#[]⟩ []) ∨ (∃ c, 1 ≤ c ∧ c ≤ 8 ∧ d = errD c)
theorem ne_chk (n : Int) : NE (chkD n) := by
  unfold chkD chkK chkN
  by_cases h : NumOkB n = true
  · rw [if_pos h, if_pos h]
    exact .inl ⟨n, (NumOkB_iff n).1 h, rfl⟩
  · rw [if_neg h, if_neg h]
    exact .inr ⟨5, by omega, by omega, rfl⟩
theorem ne_step {s : Dt} (h : NE s) (x : Dt) : NE (stepS s x) := by
  unfold stepS
  split
  · exact h
  · split
    · exact ne_chk _
    · exact .inr ⟨4, by omega, by omega, rfl⟩
theorem ne_fold : ∀ (l : List Dt) (s : Dt), NE s → NE (l.foldl stepS s)
  | [], _, h => h
  | x :: l, s, h => ne_fold l _ (ne_step h x)
theorem ne_sum (l : List Dt) : NE (sumL l) := ne_fold l _ (.inl ⟨0, by unfold NumOk; omega, rfl⟩)
theorem fold_err : ∀ (l : List Dt) (s : Dt), s.kd = 6 → l.foldl stepS s = s
  | [], _, _ => rfl
  | x :: l, s, h => by
    have h1 : stepS s x = s := if_pos h
    rw [List.foldl_cons, h1]
    exact fold_err l s h
theorem sum_next {l : List Dt} {j : Nat} (hj : j < l.length) : sumL (l.take (j + 1)) = stepS (sumL (l.take j)) l[j] := by
  unfold sumL
  rw [List.take_succ_eq_append_getElem hj, List.foldl_append]
  rfl
theorem sum_stop {l : List Dt} {j : Nat} (hj : j ≤ l.length) (h : (sumL (l.take j)).kd = 6) : sumL l = sumL (l.take j) := by
  have h1 : sumL l = (l.drop j).foldl stepS (sumL (l.take j)) := by
    unfold sumL
    rw [← List.foldl_append, List.take_append_drop]
  rw [h1]
  exact fold_err _ _ h
theorem NE.val {d : Dt} (h : NE d) : IsVal d := by
  rcases h with ⟨s, _, rfl⟩ | ⟨c, _, _, rfl⟩
  · exact isVal_flatD _ _ _
  · exact isVal_flatD _ _ _
theorem NE.wt {d : Dt} (h : NE d) : d.wt = 0 := by
  rcases h with ⟨s, _, rfl⟩ | ⟨c, _, _, rfl⟩
  · exact wt_flatD _ _
  · exact wt_err _
theorem ne_err {c : Int} (h1 : 1 ≤ c) (h2 : c ≤ 8) : NE (errD c) := .inr ⟨c, h1, h2, rfl⟩
theorem ne_sumD (a : Dt) : NE (sumD a) := by
  unfold sumD
  split
  · exact ne_sum _
  · exact ne_err (by omega) (by omega)

/-- Elements. -/
def nthD (a b : Dt) : Dt :=
  if a.nm < 0 then errD 5 else if b.kd = 3 then (if h : a.nm.toNat < b.el.length then b.el[a.nm.toNat] else errD 5) else chkD (b.nm + a.nm * b.stp)
theorem wts_in : ∀ {xs : List Dt} {x : Dt}, x ∈ xs → x.wt ≤ wts xs
  | y :: ys, x, h => by
    simp only [wts]
    rcases List.mem_cons.1 h with rfl | h
    · omega
    · have := wts_in h; omega
/-- The first elements. -/
def seqN (s p : Int) (k : Nat) : List Int := (List.range k).map fun (i : Nat) => s + (i : Int) * p
def numDs (s p : Int) (k : Nat) : List Dt := (seqN s p k).map fun n => .agg [.int 1, .int n, .int 0, .str ⟨#[]⟩, .lst [], .lst [], .lst []]
theorem seqN_next (s p : Int) (k : Nat) : seqN s p (k + 1) = seqN s p k ++ [s + (k : Int) * p] := by
  unfold seqN
  rw [List.range_succ, List.map_append]
  rfl
theorem numV_seq (s p : Int) (k : Nat) : numV (seqN s p (k + 1)) = numV (seqN s p k) ++ flatV 1 (s + (k : Int) * p) 0 ⟨#[]⟩ := by
  rw [seqN_next]
  simp [numV]
theorem ow_seq (w : World) (s p : Int) (k : Nat) : OwL w (numDs s p k) (numV (seqN s p k)) [] := ow_numV w _
def AllIn (s p : Int) (k : Nat) : Prop := ∀ i : Nat, i < k → NumOk (s + (i : Int) * p)
noncomputable def takeS (s p : Int) (k : Nat) : Dt := @ite _ (AllIn s p k) (Classical.propDecidable _) (valD 3 0 ⟨#[]⟩ (numDs s p k)) (errD 5)
noncomputable def takeD (a b : Dt) : Dt :=
  if a.nm < 0 ∨ 8 < a.nm then errD 5 else if b.kd = 3 then valD 3 0 ⟨#[]⟩ (b.el.take a.nm.toNat) else takeS b.nm b.stp a.nm.toNat
theorem takeS_yes {s p : Int} {k : Nat} (h : AllIn s p k) : takeS s p k = valD 3 0 ⟨#[]⟩ (numDs s p k) := if_pos h
theorem takeS_no {s p : Int} {k i : Nat} (hi : i < k) (h : ¬ NumOk (s + (i : Int) * p)) : takeS s p k = errD 5 := if_neg fun hh => h (hh i hi)
theorem numDs_next (s p : Int) (k : Nat) : numDs s p (k + 1) = numDs s p k ++ [valD 1 (s + (k : Int) * p) ⟨#[]⟩ []] := by
  unfold numDs
  rw [seqN_next, List.map_append]
  rfl
theorem numDs_len (s p : Int) (k : Nat) : (numDs s p k).length = k := by simp [numDs, seqN]
theorem numDs_val (s p : Int) (k : Nat) : ∀ x ∈ numDs s p k, IsVal x := by
  intro x hx
  obtain ⟨i, _, rfl⟩ := List.mem_map.1 hx
  exact isVal_flatD _ _ _
theorem wts_numDs (s p : Int) : ∀ k, wts (numDs s p k) = 0
  | 0 => by simp [numDs, seqN, wts]
  | k + 1 => by rw [numDs_next, wts_append, wts_numDs s p k]; simp only [wts]; rw [wt_flatD]
theorem AllIn.next {s p : Int} {k : Nat} (h : AllIn s p k) (hk : NumOk (s + (k : Int) * p)) : AllIn s p (k + 1) := by
  intro i hi
  by_cases e : i < k
  · exact h i e
  · obtain rfl : i = k := by omega
    exact hk
theorem allIn_zero (s p : Int) : AllIn s p 0 := fun i hi => absurd hi (by omega)
theorem wts_takeL (xs : List Dt) (k : Nat) : wts (xs.take k) ≤ wts xs := by
  have h := wts_append (xs.take k) (xs.drop k)
  rw [List.take_append_drop] at h
  omega
theorem wts_dropL (xs : List Dt) (k : Nat) : wts (xs.drop k) ≤ wts xs := by
  have h := wts_append (xs.take k) (xs.drop k)
  rw [List.take_append_drop] at h
  omega
theorem isVal_takeS (s p : Int) (k : Nat) : IsVal (takeS s p k) := by
  unfold takeS
  split
  · exact isVal_valD _ _ _ _ (numDs_val s p k)
  · exact isVal_flatD _ _ _
theorem isVal_takeD (a : Dt) {b : Dt} (hb : IsVal b) : IsVal (takeD a b) := by
  unfold takeD
  split
  · exact isVal_flatD _ _ _
  · split
    · exact isVal_valD _ _ _ _ fun x hx => el_val hb x (List.mem_of_mem_take hx)
    · exact isVal_takeS _ _ _
theorem wt_takeD (a : Dt) {b : Dt} (hb : IsVal b) (hw : b.wt ≤ 1048576) : (takeD a b).wt ≤ 1048576 := by
  have h2 := el_wt hb
  simp only [Dt.wt] at h2
  unfold takeD
  split
  · rw [wt_err]; omega
  · rename_i h8
    split
    · rw [wt_valD]
      have := wts_takeL b.el a.nm.toNat
      simp only [Dt.wt, List.length_take]
      show 0 + _ ≤ _
      omega
    · unfold takeS
      split
      · rw [wt_valD]
        simp only [Dt.wt, numDs_len, wts_numDs]
        show 0 + _ ≤ _
        omega
      · rw [wt_err]; omega

/-- The other elements. -/
def skipD (a b : Dt) : Dt :=
  if a.nm < 0 then errD 5 else if b.kd = 3 then valD 3 0 ⟨#[]⟩ (b.el.drop a.nm.toNat) else if NumOkB (b.nm + a.nm * b.stp) then strD (b.nm + a.nm * b.stp) b.stp else errD 5
theorem isVal_skipD (a : Dt) {b : Dt} (hb : IsVal b) : IsVal (skipD a b) := by
  unfold skipD
  split
  · exact isVal_flatD _ _ _
  · split
    · exact isVal_valD _ _ _ _ fun x hx => el_val hb x (List.mem_of_mem_drop hx)
    · split
      · exact isVal_strD _ _
      · exact isVal_flatD _ _ _
theorem wt_skipD (a : Dt) {b : Dt} (hb : IsVal b) : (skipD a b).wt ≤ a.wt + b.wt := by
  have h2 := el_wt hb
  simp only [Dt.wt] at h2
  unfold skipD
  split
  · rw [wt_err]; omega
  · split
    · rw [wt_valD]
      have := wts_dropL b.el a.nm.toNat
      simp only [Dt.wt, List.length_drop]
      show 0 + _ ≤ _
      omega
    · split
      · rw [wt_strD]; omega
      · rw [wt_err]; omega
/-- What is known of operands without an error. -/
theorem numOf_fine {a : Dt} (ha : IsVal a) (h : Fine a) (hk : a.kd = 1) : NumOk a.nm := by
  obtain ⟨k, n, s, t, l, c, r, hl, hr⟩ := ha
  have h1 := h.1
  rw [SV_mk] at h1
  have hk : k = 1 := hk
  subst hk
  rcases h1 with h1 | h1 | h1 | h1 | h1 | h1
  · exact h1.2.1
  all_goals exact absurd h1.1 (by omega)
theorem str_fine {a : Dt} (ha : IsVal a) (h : Fine a) (hk : a.kd = 4) : NumOk a.nm ∧ NumOk a.stp := by
  obtain ⟨k, n, s, t, l, c, r, hl, hr⟩ := ha
  have h1 := h.1
  rw [SV_mk] at h1
  have hk : k = 4 := hk
  subst hk
  rcases h1 with h1 | h1 | h1 | h1 | h1 | h1
  iterate 3 exact absurd h1.1 (by omega)
  · exact h1.2.1
  all_goals exact absurd h1.1 (by omega)
theorem lst_fine {a : Dt} (ha : IsVal a) (h : Fine a) (hk : a.kd = 3) : a.el.length ≤ 8 ∧ ∀ x ∈ a.el, isEl x ∧ x.SV := by
  obtain ⟨k, n, s, t, l, c, r, hl, hr⟩ := ha
  have h1 := h.1
  rw [SV_mk] at h1
  have hk : k = 3 := hk
  subst hk
  rcases h1 with h1 | h1 | h1 | h1 | h1 | h1
  iterate 2 exact absurd h1.1 (by omega)
  · exact ⟨h1.2.1.2.1, (SVs_all _).1 h1.2.1.1⟩
  all_goals exact absurd h1.1 (by omega)
/-- The program looks at the sign at once. -/
def PairErrI (a b : Dt) (c : Int) : Prop := PairErr a b c ∨ (PairOk a b ∧ a.nm < 0 ∧ c = 5)
def PairOkI (a b : Dt) : Prop := PairOk a b ∧ ¬ a.nm < 0
theorem Two.errI {f : Dt → Dt → Dt} {a b d : Dt} {c : Int} (h : Two f a b d) (he : PairErrI a b c) (hf : a.nm < 0 → f a b = errD 5) : d = errD c := by
  rcases he with he | ⟨hk, hn, rfl⟩
  · exact h.one (.err c he)
  · rw [h.one (.ok hk), hf hn]
theorem nth_neg {a b : Dt} (h : a.nm < 0) : nthD a b = errD 5 := if_pos h
theorem nth_in {a b : Dt} {i : Nat} {l : List Dt} (h : a.nm = i) (hk : b.kd = 3) (hl : b.el = l) (hi : i < l.length) : nthD a b = l[i] := by
  subst hl
  unfold nthD
  rw [if_neg (by omega), if_pos hk, h]
  simp only [Int.toNat_natCast]
  rw [dif_pos hi]
theorem nth_out {a b : Dt} {i : Nat} (h : a.nm = i) (hk : b.kd = 3) (hi : ¬ i < b.el.length) : nthD a b = errD 5 := by
  unfold nthD
  rw [if_neg (by omega), if_pos hk, h]
  simp only [Int.toNat_natCast]
  rw [dif_neg hi]
theorem nth_str {a b : Dt} (h : ¬ a.nm < 0) (hk : b.kd ≠ 3) : nthD a b = chkD (b.nm + a.nm * b.stp) := by
  unfold nthD
  rw [if_neg h, if_neg hk]
theorem take_neg {a b : Dt} (h : a.nm < 0) : takeD a b = errD 5 := if_pos (.inl h)
theorem skip_neg {a b : Dt} (h : a.nm < 0) : skipD a b = errD 5 := if_pos h
theorem take_lst {a b : Dt} {i : Nat} (h : a.nm = i) (h8 : i ≤ 8) (hk : b.kd = 3) : takeD a b = valD 3 0 ⟨#[]⟩ (b.el.take i) := by
  unfold takeD
  rw [if_neg (by omega), if_pos hk, h]
  rfl
theorem take_str {a b : Dt} {i : Nat} (h : a.nm = i) (h8 : i ≤ 8) (hk : b.kd ≠ 3) : takeD a b = takeS b.nm b.stp i := by
  unfold takeD
  rw [if_neg (by omega), if_neg hk, h]
  rfl
theorem skip_lst {a b : Dt} {i : Nat} (h : a.nm = i) (hk : b.kd = 3) : skipD a b = valD 3 0 ⟨#[]⟩ (b.el.drop i) := by
  unfold skipD
  rw [if_neg (by omega), if_pos hk, h]
  rfl
theorem skip_yes {a b : Dt} (h : ¬ a.nm < 0) (hk : b.kd ≠ 3) (hn : NumOk (b.nm + a.nm * b.stp)) : skipD a b = strD (b.nm + a.nm * b.stp) b.stp := by
  unfold skipD
  rw [if_neg h, if_neg hk, if_pos ((NumOkB_iff _).2 hn)]
theorem skip_no {a b : Dt} (h : ¬ a.nm < 0) (hk : b.kd ≠ 3) (hn : ¬ NumOk (b.nm + a.nm * b.stp)) : skipD a b = errD 5 := by
  unfold skipD
  rw [if_neg h, if_neg hk, if_neg fun hh => hn ((NumOkB_iff _).1 hh)]
theorem isEl_kd {x : Dt} (h : isEl x) : x.kd = 1 ∨ x.kd = 2 ∨ x.kd = 3 := by
  match x, h with
  | .agg (.int k :: _), h => exact h
theorem el_fine {a : Dt} (ha : IsVal a) (h : Fine a) (hk : a.kd = 3) : ∀ x ∈ a.el, Fine x := fun x hx => by
  have h1 := (lst_fine ha h hk).2 x hx
  have h2 := isEl_kd h1.1
  exact ⟨h1.2, by omega⟩
theorem take_out {a b : Dt} (h : 8 < a.nm) : takeD a b = errD 5 := if_pos (.inr h)
theorem fine_val {s : Int} (h : NumOk s) : Fine (valD 1 s ⟨#[]⟩ []) := ⟨numD_ok h, by simp [valD, Dt.kd]⟩
theorem ap_step {s x : Dt} (hs : NE s) (hx : Fine x) : Ap 1 s x (stepS s x) := by
  rcases hs with ⟨v, hv, rfl⟩ | ⟨c, h1, h2, rfl⟩
  · have h := Ap.both (op := 1) (fine_val hv) hx
    have e : binD 1 (valD 1 v ⟨#[]⟩ []) x = stepS (valD 1 v ⟨#[]⟩ []) x := by
      have h1 : (valD 1 v ⟨#[]⟩ []).kd = 1 := rfl
      unfold binD
      rw [if_pos rfl]
      unfold addD stepS
      rw [h1, if_neg (show ¬ ((1 : Int) = 6) by decide)]
      by_cases hx1 : x.kd = 1
      · rw [if_pos ⟨rfl, hx1⟩, if_pos hx1]
      · rw [if_neg (fun h => hx1 h.2), if_neg (fun h => absurd h.1 (by decide)), if_neg (fun h => absurd h.1 (by decide)), if_neg hx1]
    rwa [e] at h
  · exact .left c (.inr ⟨errD_ok h1 h2, rfl, rfl⟩)
theorem step_type {s x : Dt} (hs : s.kd = 1) (hx : x.kd ≠ 1) : stepS s x = errD 4 := by
  unfold stepS
  rw [if_neg (by omega), if_neg hx]
theorem step_num {s x : Dt} (hs : s.kd = 1) (hx : x.kd = 1) : stepS s x = chkD (s.nm + x.nm) := by
  unfold stepS
  rw [if_neg (by omega), if_pos hx]
theorem sum_err {l : List Dt} {j : Nat} {c : Int} (hj : j < l.length) (h : stepS (sumL (l.take j)) l[j] = errD c) : sumL l = errD c := by
  rw [← h, ← sum_next hj]
  exact sum_stop (by omega) (by rw [sum_next hj, h]; rfl)
/-- A value's cells say its kind. -/
theorem kd_cell {w : World} {B : Nat} {d : Dt} {y0 y1 : Int} {cs : List Value} (hd : IsVal d) (h : Rd w B d (.int .i64 y0 :: .int .i64 y1 :: cs)) : d.kd = y0 ∧ d.nm = y1 := by
  cases hd
  obtain ⟨A4, c4, A5, c5, A6, c6, hc, _⟩ := Rd.ofValue h
  simp only [List.cons.injEq, Value.int.injEq] at hc
  exact ⟨hc.1.2.symm, hc.2.1.2.symm⟩
theorem chk_yes {x : Int} (h : NumOk x) : chkK x = 1 ∧ chkN x = x := ⟨if_pos ((NumOkB_iff x).2 h), if_pos ((NumOkB_iff x).2 h)⟩
theorem chk_no {x : Int} (h : ¬ NumOk x) : chkK x = 6 ∧ chkN x = 5 := ⟨if_neg fun hh => h ((NumOkB_iff x).1 hh), if_neg fun hh => h ((NumOkB_iff x).1 hh)⟩
theorem chkD_yes {x : Int} (h : NumOk x) : chkD x = valD 1 x ⟨#[]⟩ [] := by unfold chkD; rw [(chk_yes h).1, (chk_yes h).2]
theorem chkD_no {x : Int} (h : ¬ NumOk x) : chkD x = valD 6 5 ⟨#[]⟩ [] := by unfold chkD; rw [(chk_no h).1, (chk_no h).2]
end Go.Proofs.YtabcmnlmmpbmnaaGreat
