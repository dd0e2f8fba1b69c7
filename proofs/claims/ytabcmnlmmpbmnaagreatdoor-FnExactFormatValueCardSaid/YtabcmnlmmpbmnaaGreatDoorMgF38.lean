/-
  Texts that the proof rests on, put together: IParse.
-/
import Derived.Test.YtabcmnlmmpbmnaaGreatDoorMgF26
import Derived.Test.YtabcmnlmmpbmnaaGreatDoorMgF34
/-
  What the program reads of a text: every valid value without origins is read from its representation.
-/

namespace Go.Proofs.YtabcmnlmmpbmnaaGreatDoor
open Go.Lib
set_option linter.unusedVariables false

/-! ### what the program reads -/
def isSkip (c : UInt8) : Bool := c == 32 || c == 44 || c == 40 || c == 41
def isDel (c : UInt8) : Bool := c == 91 || c == 93 || isSkip c
/-- How long the word at the head is; q: within quotes. -/
def wl : Bool → List UInt8 → Nat
  | _, [] => 0
  | q, c :: r => if !(q != (c == 34)) && isDel c then 0 else wl (q != (c == 34)) r + 1
def nextW (l : List UInt8) : List UInt8 × List UInt8 :=
  match l.dropWhile isSkip with
  | [] => ([], [])
  | c :: r => if c == 91 || c == 93 then ([c], r) else ((c :: r).take (wl false (c :: r)), (c :: r).drop (wl false (c :: r)))
def trim34 (l : List UInt8) : List UInt8 := (l.reverse.dropWhile (· == 34)).reverse.dropWhile (· == 34)
def rdNum (w : List UInt8) : Int := (numIn (-999999999999) 999999999999 w).getD 0
def sRange : List UInt8 := [114, 97, 110, 103, 101]
def sTable : List UInt8 := [116, 97, 98, 108, 101]
def sError : List UInt8 := [101, 114, 114, 111, 114]
def iElems (V : List UInt8 → List UInt8 → Dt × List UInt8) (deep : Bool) : Nat → List Dt → List UInt8 → List Dt × List UInt8
  | 0, acc, l => (acc, (nextW l).2)
  | n + 1, acc, l =>
    if (nextW l).1 = [93] ∨ (nextW l).1 = [] then (acc, (nextW l).2)
    else if deep = false then (acc, (nextW l).2)
    else iElems V deep n (acc ++ [(V (nextW l).1 (nextW l).2).1]) (V (nextW l).1 (nextW l).2).2
def iStream (l : List UInt8) : Dt × List UInt8 :=
  (vStr (rdNum (nextW l).1) (rdNum (nextW (nextW l).2).1), (nextW (nextW l).2).2)
def iTable (V : List UInt8 → List UInt8 → Dt × List UInt8) (deep : Bool) (l : List UInt8) : Dt × List UInt8 :=
  (vTab ((pcs 32 (trim34 (nextW l).1)).map fun x => ⟨x.toArray⟩) ((iElems V deep 12 [] (nextW (nextW l).2).2).1.map toRow), (iElems V deep 12 [] (nextW (nextW l).2).2).2)
/-- The value that starts with the word w, of at most depth d + 1 - 1; ahead of the rest l. -/
def iVal : Nat → List UInt8 → List UInt8 → Dt × List UInt8
  | 0, w, l => (vZero, l)
  | d + 1, w, l =>
    if w = [91] then (vLst (iElems (iVal d) (d != 0) 12 [] l).1, (iElems (iVal d) (d != 0) 12 [] l).2)
    else if w = sRange then iStream l
    else if w = sTable then iTable (iVal d) (d != 0) l
    else if w = sError then (vErr (eCode (nextW l).1), (nextW l).2)
    else if [34].isPrefixOf w then (vTxt (trim34 w), l)
    else (vNum (rdNum w), l)

/-! ### words of representations -/
/-- A word may end here. -/
def Good (r : List UInt8) : Prop := ∀ c, r.head? = some c → isDel c = true
theorem Good.nil : Good [] := by simp [Good]
theorem Good.cons {c : UInt8} {r : List UInt8} (h : isDel c = true) : Good (c :: r) := by
  intro d hd; simp at hd; subst hd; exact h
theorem Good.sep (r : List UInt8) : Good (sepC ++ r) := Good.cons (c := 44) (r := 32 :: r) (by decide)
theorem Good.one {c : UInt8} (h : isDel c = true) (r : List UInt8) : Good ([c] ++ r) := Good.cons h
theorem wl_good {r : List UInt8} (h : Good r) : wl false r = 0 := by
  cases r with
  | nil => rfl
  | cons c r =>
    have hc := h c rfl
    unfold wl
    have : ¬ c = 34 := by intro e; subst e; revert hc; decide
    rw [if_pos]
    simp [hc, this]
theorem wl_plain : ∀ (w r : List UInt8), (∀ c ∈ w, isDel c = false ∧ c ≠ 34) → Good r → wl false (w ++ r) = w.length
  | [], r, _, hr => by simpa using wl_good hr
  | c :: w, r, h, hr => by
    have hc := h c (by simp)
    rw [List.cons_append]
    unfold wl
    have h1 : (false != (c == 34)) = false := by simp [hc.2]
    rw [h1, hc.1, if_neg (by simp), wl_plain w r (fun d hd => h d (by simp [hd])) hr]
    rfl
theorem wl_in : ∀ (t r : List UInt8), 34 ∉ t → Good r → wl true (t ++ 34 :: r) = t.length + 1
  | [], r, _, hr => by
    rw [List.nil_append]
    unfold wl
    have h1 : (true != ((34 : UInt8) == 34)) = false := by decide
    rw [h1, show isDel 34 = false by decide, if_neg (by simp), wl_good hr]
    rfl
  | c :: t, r, h, hr => by
    rw [List.cons_append]
    unfold wl
    have hc : ¬ c = 34 := fun e => h (by simp [e])
    have h1 : (true != (c == 34)) = true := by simp [hc]
    rw [h1, if_neg (by simp), wl_in t r (fun e => h (by simp [e])) hr]
    rfl
theorem wl_quote (t r : List UInt8) (h : 34 ∉ t) (hr : Good r) : wl false (34 :: (t ++ 34 :: r)) = t.length + 2 := by
  unfold wl
  have h1 : (false != ((34 : UInt8) == 34)) = true := by decide
  rw [h1, if_neg (by simp), wl_in t r h hr]
/-- Delimiters ahead are skipped. -/
theorem nextW_skip (p l : List UInt8) (hp : ∀ c ∈ p, isSkip c = true) : nextW (p ++ l) = nextW l := by
  unfold nextW
  rw [List.dropWhile_append_of_pos hp]
theorem nextW_bracket (c : UInt8) (r : List UInt8) (h : c = 91 ∨ c = 93) : nextW (c :: r) = ([c], r) := by
  unfold nextW
  rcases h with rfl | rfl <;> rfl
theorem nextW_word (c : UInt8) (w r : List UInt8) (hc : isDel c = false) (hw : wl false (c :: (w ++ r)) = (c :: w).length) : nextW (c :: (w ++ r)) = (c :: w, r) := by
  have hs : isSkip c = false := by revert hc; unfold isDel; simp
  have h1 : (c == 91 || c == 93) = false := by revert hc; unfold isDel; simp; intro a b _; exact ⟨a, b⟩
  unfold nextW
  rw [List.dropWhile_cons, hs]
  simp only [Bool.false_eq_true, if_false]
  rw [if_neg (by rw [h1]; simp), hw, ← List.cons_append, List.take_left, List.drop_left]
theorem nextW_plain (w r : List UInt8) (hne : w ≠ []) (h : ∀ c ∈ w, isDel c = false ∧ c ≠ 34) (hr : Good r) : nextW (w ++ r) = (w, r) := by
  obtain ⟨c, w, rfl⟩ := List.exists_cons_of_ne_nil hne
  exact nextW_word c w r (h c (by simp)).1 (wl_plain (c :: w) r h hr)
theorem nextW_quote (t r : List UInt8) (h : 34 ∉ t) (hr : Good r) : nextW (34 :: (t ++ 34 :: r)) = (34 :: (t ++ [34]), r) := by
  have := nextW_word 34 (t ++ [34]) r (by decide) (by
    rw [List.append_assoc, show ([34] ++ r : List UInt8) = 34 :: r from rfl, wl_quote t r h hr]
    simp)
  rwa [List.append_assoc, show ([34] ++ r : List UInt8) = 34 :: r from rfl] at this
theorem dig_not (c : UInt8) (h : c = 45 ∨ isDg c = true) : isDel c = false ∧ c ≠ 34 := by
  have hd : ∀ n, n < 256 → (UInt8.ofNat n = 45 ∨ isDg (UInt8.ofNat n) = true) → isDel (UInt8.ofNat n) = false ∧ UInt8.ofNat n ≠ 34 := by decide +kernel
  have := hd c.toNat c.toNat_lt
  rw [UInt8.ofNat_toNat] at this
  exact this h
theorem nextW_itoa (n : Int) (r : List UInt8) (hr : Good r) : nextW (itoa n ++ r) = (itoa n, r) :=
  nextW_plain _ _ (itoa_ne n) (fun c hc => dig_not c (itoa_byte n c hc)) hr
theorem rdNum_itoa {n : Int} (h : NumOk n) : rdNum (itoa n) = n := by
  unfold NumOk at h
  unfold rdNum
  rw [numIn_of rfl (by omega) (by omega) (by omega) (by omega)]
  rfl
theorem dropWhile_ne {t : List UInt8} (h : 34 ∉ t) : t.dropWhile (· == 34) = t := by
  cases t with
  | nil => rfl
  | cons c t =>
    rw [List.dropWhile_cons, if_neg]
    intro e
    exact h (by simp [eq_of_beq e])
theorem dropWhile_end {t : List UInt8} (h : 34 ∉ t) : (t ++ [34]).dropWhile (· == 34) = if t = [] then [] else t ++ [34] := by
  cases t with
  | nil => rfl
  | cons c t =>
    rw [List.cons_append, List.dropWhile_cons, if_neg, if_neg (by simp)]
    intro e
    exact h (by simp [eq_of_beq e])
theorem trim34_quote (t : List UInt8) (h : 34 ∉ t) : trim34 (34 :: (t ++ [34])) = t := by
  unfold trim34
  have hr : (34 : UInt8) ∉ t.reverse := by simpa using h
  rw [List.reverse_cons, List.reverse_append, show ([34] : List UInt8).reverse = [34] from rfl, List.append_assoc, List.singleton_append, List.dropWhile_cons, if_pos (by decide), dropWhile_end hr]
  split
  · rename_i e
    rw [List.reverse_eq_nil_iff.1 e]
    rfl
  · rw [List.reverse_append, List.reverse_reverse, show ([34] : List UInt8).reverse = [34] from rfl, List.singleton_append, List.dropWhile_cons, if_pos (by decide), dropWhile_ne h]

/-- The value x is read where its representation stands behind delimiters. -/
def IReads (V : List UInt8 → List UInt8 → Dt × List UInt8) (x : Dt) : Prop := ∀ p r, (∀ c ∈ p, isSkip c = true) → Good r →
  (nextW (p ++ (x.txt ++ r))).1 ≠ [] ∧ (nextW (p ++ (x.txt ++ r))).1 ≠ [93] ∧ V (nextW (p ++ (x.txt ++ r))).1 (nextW (p ++ (x.txt ++ r))).2 = (x, r)
theorem sepSkip : ∀ c ∈ sepC, isSkip c = true := by decide
theorem iElems_tail {V : List UInt8 → List UInt8 → Dt × List UInt8} : ∀ (xs : List Dt) (n : Nat) (acc : List Dt) (r : List UInt8), (∀ y ∈ xs, IReads V y) → xs.length ≤ n →
    iElems V true n acc (joinTail sepC (xs.map Dt.txt) ++ 93 :: r) = (acc ++ xs, r)
  | [], n, acc, r, _, _ => by
    rw [show joinTail sepC (([] : List Dt).map Dt.txt) = [] from rfl, List.nil_append]
    cases n with
    | zero => simp [iElems, nextW_bracket]
    | succ n => simp [iElems, nextW_bracket]
  | x :: xs, n, acc, r, h, hn => by
    obtain ⟨n, rfl⟩ : ∃ k, n = k + 1 := ⟨n - 1, by simp at hn; omega⟩
    rw [List.map_cons, joinTail_cons', List.append_assoc, List.append_assoc]
    have hg : Good (joinTail sepC (xs.map Dt.txt) ++ 93 :: r) := by
      cases xs with
      | nil => exact Good.cons (by decide)
      | cons y ys => rw [List.map_cons, joinTail_cons', List.append_assoc]; exact Good.sep _
    obtain ⟨h1, h2, h3⟩ := h x (by simp) sepC _ sepSkip hg
    unfold iElems
    rw [if_neg (by simp [h1, h2]), if_neg (by simp), h3, iElems_tail xs n _ r (fun y hy => h y (by simp [hy])) (by simp at hn; omega)]
    simp
theorem iElems_of {V : List UInt8 → List UInt8 → Dt × List UInt8} (deep : Bool) (xs : List Dt) (r : List UInt8) (h : ∀ y ∈ xs, IReads V y) (hd : xs = [] ∨ deep = true) (hn : xs.length ≤ 12) :
    iElems V deep 12 [] (join (xs.map Dt.txt) sepC ++ 93 :: r) = (xs, r) := by
  cases xs with
  | nil =>
    rw [show join (([] : List Dt).map Dt.txt) sepC = [] from rfl, List.nil_append]
    simp [iElems, nextW_bracket]
  | cons x xs =>
    obtain rfl : deep = true := by rcases hd with hd | hd; cases hd; exact hd
    rw [List.map_cons, join_cons, List.append_assoc]
    have hg : Good (joinTail sepC (xs.map Dt.txt) ++ 93 :: r) := by
      cases xs with
      | nil => exact Good.cons (by decide)
      | cons y ys => rw [List.map_cons, joinTail_cons', List.append_assoc]; exact Good.sep _
    obtain ⟨h1, h2, h3⟩ := h x (by simp) [] _ (by simp) hg
    rw [List.nil_append] at h1 h2 h3
    unfold iElems
    rw [if_neg (by simp [h1, h2]), if_neg (by simp), h3, iElems_tail xs 11 _ r (fun y hy => h y (by simp [hy])) (by simp at hn; omega)]
    rfl
theorem num_word (n : Int) : itoa n ≠ [91] ∧ itoa n ≠ [93] ∧ itoa n ≠ sRange ∧ itoa n ≠ sTable ∧ itoa n ≠ sError ∧ [34].isPrefixOf (itoa n) = false := by
  have key : ∀ c : UInt8, isDg c = false → c ≠ 45 → ∀ p, itoa n ≠ c :: p := by
    intro c h1 h2 p e
    have := itoa_byte n c (by rw [e]; simp)
    rcases this with h | h
    · exact h2 h
    · rw [h1] at h; cases h
  refine ⟨key 91 (by decide) (by decide) _, key 93 (by decide) (by decide) _, key 114 (by decide) (by decide) _, key 116 (by decide) (by decide) _, key 101 (by decide) (by decide) _, ?_⟩
  have := itoa_not n 34 [] [] (by decide) (by decide)
  rwa [List.append_nil] at this
theorem iVal_el : ∀ (m : Nat) (x : Dt), El m x → ∀ d, m ≤ d → IReads (iVal d) x
  | 0, _, h, _, _ => by simp [El] at h
  | m + 1, x, h, d, hd => by
    obtain ⟨d, rfl⟩ : ∃ d', d = d' + 1 := ⟨d - 1, by omega⟩
    intro p r hp hr
    rw [nextW_skip p _ hp]
    rcases h with ⟨n, hn, rfl⟩ | ⟨t, ht, h34, rfl⟩ | ⟨xs, hl, hz, hx, rfl⟩
    · rw [txt_num, nextW_itoa n r hr]
      obtain ⟨k1, k2, k3, k4, k5, k6⟩ := num_word n
      refine ⟨itoa_ne n, k2, ?_⟩
      unfold iVal
      rw [if_neg k1, if_neg k3, if_neg k4, if_neg k5, k6, if_neg (by simp), rdNum_itoa hn]
    · rw [txt_txt, List.cons_append, List.append_assoc, show ([34] ++ r : List UInt8) = 34 :: r from rfl, nextW_quote t r h34 hr]
      refine ⟨by simp, by simp, ?_⟩
      unfold iVal
      rw [if_neg (by simp), if_neg (by simp [sRange]), if_neg (by simp [sTable]), if_neg (by simp [sError]), if_pos (pre_app1 34 _), trim34_quote t h34]
    · rw [txt_lst]
      unfold brk
      rw [List.cons_append, nextW_bracket 91 _ (.inl rfl)]
      refine ⟨by simp, by simp, ?_⟩
      unfold iVal
      rw [if_pos rfl, List.append_assoc, show ([93] ++ r : List UInt8) = 93 :: r from rfl, iElems_of (d != 0) xs r (fun y hy => iVal_el m y (hx y hy) d (by omega)) (by
        rcases hz with hz | hz
        · exact .inl hz
        · exact .inr (by simp; omega)) (by omega)]
/-- What the program reads of a text. -/
def iParse (l : List UInt8) : Dt := (iVal 3 (nextW l).1 (nextW l).2).1
theorem eName_word {n : Int} (h1 : 1 ≤ n) (h8 : n ≤ 8) : eName n ≠ [] ∧ ∀ c ∈ eName n, isDel c = false ∧ c ≠ 34 := by
  have : n = 1 ∨ n = 2 ∨ n = 3 ∨ n = 4 ∨ n = 5 ∨ n = 6 ∨ n = 7 ∨ n = 8 := by omega
  rcases this with rfl | rfl | rfl | rfl | rfl | rfl | rfl | rfl <;> decide
theorem iParse_top {d : Dt} (h : Top d) : iParse d.txt = d := by
  unfold iParse
  rcases h with h | ⟨a, b, ha, hb, rfl⟩ | ⟨c, r, hc, _, hcs, hr, hrs, rfl⟩ | ⟨n, h1, h8, rfl⟩
  · have := (iVal_el 3 d h 3 (Nat.le_refl _) [] [] (by simp) Good.nil).2.2
    rw [List.nil_append, List.append_nil] at this
    rw [this]
  · rw [txt_str, show wRange = sRange ++ [40] from rfl, List.append_assoc, nextW_plain sRange _ (by simp [sRange]) (by decide) (Good.one (c := 40) (by decide) _)]
    unfold iVal
    rw [if_neg (by simp [sRange]), if_pos rfl]
    unfold iStream
    rw [nextW_skip [40] _ (by decide), nextW_itoa a _ (Good.sep _)]
    simp only
    rw [nextW_skip sepC _ sepSkip, nextW_itoa b _ (Good.cons (by decide)), rdNum_itoa ha, rdNum_itoa hb]
  · have he : ∀ x ∈ r, El 2 (asLst x) ∧ toRow (asLst x) = x ∧ rowTxt x = (asLst x).txt := fun x hx => (hrs x hx).el (by omega)
    have e1 : r.map rowTxt = (r.map asLst).map Dt.txt := by
      rw [List.map_map]
      exact List.map_congr_left fun x hx => (he x hx).2.2
    have e2 : (r.map asLst).map toRow = r := by
      rw [List.map_map]
      conv => rhs; rw [← List.map_id r]
      exact List.map_congr_left fun x hx => (he x hx).2.1
    have h34 : (34 : UInt8) ∉ join (c.map (·.data.toList)) [32] := join_no 34 [32] (by decide) _ fun y hy => by
      obtain ⟨s, hs, rfl⟩ := List.mem_map.1 hy
      exact (hcs s hs).2.2
    rw [txt_tab, show wTable = sTable ++ [40] from rfl, List.append_assoc, nextW_plain sTable _ (by simp [sTable]) (by decide) (Good.one (c := 40) (by decide) _)]
    unfold iVal
    rw [if_neg (by simp [sTable]), if_neg (by simp [sTable, sRange]), if_pos rfl]
    unfold iTable
    rw [nextW_skip [40] _ (by decide), nextW_quote _ _ h34 (Good.sep _)]
    simp only
    rw [nextW_skip sepC _ sepSkip, e1]
    unfold brk
    rw [List.cons_append, nextW_bracket 91 _ (.inl rfl)]
    simp only
    rw [List.append_assoc, show ([93] ++ [41] : List UInt8) = 93 :: [41] from rfl, iElems_of (2 != 0) (r.map asLst) [41] (fun y hy => by
        obtain ⟨x, hx, rfl⟩ := List.mem_map.1 hy
        exact iVal_el 2 _ (he x hx).1 2 (Nat.le_refl _)) (.inr rfl) (by simp; omega), trim34_quote _ h34, pcs_cols c hc (fun s hs => (hcs s hs).2.1), e2]
  · obtain ⟨k1, k2⟩ := eName_word h1 h8
    rw [txt_err, show wError = sError ++ [32] from rfl, List.append_assoc, nextW_plain sError _ (by simp [sError]) (by decide) (Good.one (c := 32) (by decide) _)]
    unfold iVal
    have hn := nextW_plain (eName n) [] k1 k2 Good.nil
    rw [List.append_nil] at hn
    rw [if_neg (by simp [sError]), if_neg (by simp [sError, sRange]), if_neg (by simp [sError, sTable]), if_pos rfl, nextW_skip [32] _ (by decide), hn, eCode_name n h1 h8]

/-! ### what the program reads is small -/
theorem nextW_wt (l : List UInt8) : (nextW l).1.length + (nextW l).2.length ≤ l.length := by
  have h := (List.dropWhile_sublist isSkip (l := l)).length_le
  unfold nextW
  split
  · simp
  · rename_i c r e
    rw [e] at h
    split
    · simp at h ⊢; omega
    · rw [List.length_take, List.length_drop]; omega
theorem dropWhile_le (p : UInt8 → Bool) (l : List UInt8) : (l.dropWhile p).length ≤ l.length := (List.dropWhile_sublist p).length_le
theorem trim34_le (l : List UInt8) : (trim34 l).length ≤ l.length := by
  unfold trim34
  have h1 := dropWhile_le (· == 34) l.reverse
  have h2 := dropWhile_le (· == 34) (l.reverse.dropWhile (· == 34)).reverse
  simp at h1 h2 ⊢
  omega
theorem trim34_lt {l : List UInt8} (h : [34].isPrefixOf l = true) : (trim34 l).length + 1 ≤ l.length := by
  obtain ⟨r, rfl⟩ := pre_mem h
  unfold trim34
  have h1 := dropWhile_le (· == 34) ([34] ++ r).reverse
  have hs : (([34] ++ r).reverse.dropWhile (· == 34)).reverse <+: [34] ++ r := by
    have := List.dropWhile_suffix (· == (34 : UInt8)) (l := ([34] ++ r).reverse)
    rw [← List.reverse_prefix, List.reverse_reverse] at this
    exact this
  generalize hy : (([34] ++ r).reverse.dropWhile (· == 34)).reverse = y at hs ⊢
  have hyl : y.length ≤ ([34] ++ r).length := hs.length_le
  cases y with
  | nil => simp
  | cons c y =>
    obtain ⟨z, hz⟩ := hs
    have : c = 34 := by simp at hz; exact hz.1
    subst this
    rw [List.dropWhile_cons, if_pos (by decide)]
    have h2 := dropWhile_le (· == 34) y
    simp only [List.length_cons] at hyl
    omega
def IWt (V : List UInt8 → List UInt8 → Dt × List UInt8) : Prop := ∀ w l, w ≠ [] → (V w l).1.wt + 1 + (V w l).2.length ≤ w.length + l.length
theorem iElems_wt {V : List UInt8 → List UInt8 → Dt × List UInt8} (hV : IWt V) (deep : Bool) : ∀ (n : Nat) (acc : List Dt) (l : List UInt8), (iElems V deep n acc l).1.length + wts (iElems V deep n acc l).1 + (iElems V deep n acc l).2.length ≤ acc.length + wts acc + l.length
  | 0, acc, l => by
    have := nextW_wt l
    simp [iElems]; omega
  | n + 1, acc, l => by
    have hw := nextW_wt l
    unfold iElems
    split
    · simp; omega
    · rename_i h1
      split
      · simp; omega
      · have h2 := hV (nextW l).1 (nextW l).2 (fun e => h1 (.inr e))
        have h3 := iElems_wt hV deep n (acc ++ [(V (nextW l).1 (nextW l).2).1]) (V (nextW l).1 (nextW l).2).2
        rw [List.length_append, wts_append] at h3
        simp only [wts, List.length_cons, List.length_nil] at h3
        omega
theorem iVal_wt : ∀ d, IWt (iVal d)
  | 0 => by intro w l hw; have := List.length_pos_iff.2 hw; simp [iVal, wt_zero]; omega
  | d + 1 => by
    intro w l hw
    have hp := List.length_pos_iff.2 hw
    have ih := iVal_wt d
    have he := iElems_wt ih (d != 0)
    unfold iVal
    split
    · have := he 12 [] l
      simp only [wt_lst, wts, List.length_nil] at this ⊢
      omega
    · split
      · have h1 := nextW_wt l
        have h2 := nextW_wt (nextW l).2
        unfold iStream
        simp only [wt_str]
        omega
      · split
        · rename_i h5
          have h1 := nextW_wt l
          have h2 := nextW_wt (nextW l).2
          have h3 := he 12 [] (nextW (nextW l).2).2
          have h4 := pcs_wtB 32 (trim34 (nextW l).1)
          have h6 := trim34_le (nextW l).1
          have h7 := toRows_wt (iElems (iVal d) (d != 0) 12 [] (nextW (nextW l).2).2).1
          have h8 : w.length = 5 := by rw [h5]; rfl
          unfold iTable
          simp only [wt_tab, wts, List.length_nil] at h3 ⊢
          rw [show ((iElems (iVal d) (d != 0) 12 [] (nextW (nextW l).2).2).1.map toRow).length = (iElems (iVal d) (d != 0) 12 [] (nextW (nextW l).2).2).1.length from by simp]
          omega
        · split
          · have h1 := nextW_wt l
            simp only [wt_err]
            omega
          · split
            · rename_i h
              have := trim34_lt h
              simp only [wt_txt]
              omega
            · simp only [wt_num]
              omega
theorem iParse_wt (l : List UInt8) : (iParse l).wt ≤ l.length := by
  have h1 := nextW_wt l
  unfold iParse
  by_cases h : (nextW l).1 = []
  · rw [h]
    have : iVal 3 [] (nextW l).2 = (vNum (rdNum []), (nextW l).2) := by
      unfold iVal
      rw [if_neg (by simp), if_neg (by simp [sRange]), if_neg (by simp [sTable]), if_neg (by simp [sError]), if_neg (by simp)]
    rw [this]
    simp [wt_num]
  · have := iVal_wt 3 (nextW l).1 (nextW l).2 h
    omega
/-- The scan for a word: a is where it starts, i where the scan is, q whether within quotes. -/
def scan : Nat → Nat → Bool → List UInt8 → Nat × Nat
  | a, i, _, [] => (a, i)
  | a, i, q, c :: r =>
    if (q != (c == 34)) || !isDel c then scan a (i + 1) (q != (c == 34)) r
    else if a < i then (a, i)
    else if c == 91 || c == 93 then (i, i + 1)
    else scan (i + 1) (i + 1) (q != (c == 34)) r
theorem scan_word : ∀ (r : List UInt8) (a i : Nat) (q : Bool), a < i → scan a i q r = (a, i + wl q r)
  | [], a, i, q, _ => by simp [scan, wl]
  | c :: r, a, i, q, h => by
    unfold scan wl
    by_cases h1 : (q != (c == 34)) = true
    · rw [h1, Bool.true_or, if_pos rfl, scan_word r a (i + 1) true (by omega), if_neg (by simp)]
      congr 1
      omega
    · have h1 : (q != (c == 34)) = false := by simpa using h1
      rw [h1]
      cases hd : isDel c
      · rw [if_pos (by simp), scan_word r a (i + 1) false (by omega), if_neg (by simp)]
        congr 1
        omega
      · rw [if_neg (by simp), if_pos h, if_pos (by simp)]
        rfl
theorem scan_next : ∀ (l : List UInt8) (a : Nat), ∃ k, scan a a false l = (a + k, a + k + (nextW l).1.length) ∧ k + (nextW l).1.length ≤ l.length ∧ (l.drop k).take (nextW l).1.length = (nextW l).1 ∧ l.drop (k + (nextW l).1.length) = (nextW l).2
  | [], a => ⟨0, by simp [scan, nextW]⟩
  | c :: r, a => by
    by_cases hs : isSkip c = true
    · obtain ⟨k, h1, h2, h3, h4⟩ := scan_next r (a + 1)
      have e : nextW (c :: r) = nextW r := nextW_skip [c] r (by simpa using hs)
      have hq : ¬ c = 34 := by intro e; subst e; revert hs; decide
      have hd : isDel c = true := by simp [isDel, hs]
      have hb : (c == 91 || c == 93) = false := by
        cases h : (c == 91 || c == 93)
        · rfl
        · rcases Bool.or_eq_true_iff.1 h with h | h
          · rw [eq_of_beq h] at hs; revert hs; decide
          · rw [eq_of_beq h] at hs; revert hs; decide
      rw [e]
      refine ⟨k + 1, ?_, by simp; omega, by simpa using h3, by rw [show k + 1 + (nextW r).1.length = (k + (nextW r).1.length) + 1 by omega, List.drop_succ_cons]; exact h4⟩
      unfold scan
      rw [show (false != (c == 34)) = false by simp [hq], hd, if_neg (by simp), if_neg (by omega), hb, if_neg (by simp), h1]
      congr 1 <;> omega
    · have hs : isSkip c = false := by simpa using hs
      refine ⟨0, ?_⟩
      unfold nextW
      rw [List.dropWhile_cons, hs]
      simp only [Bool.false_eq_true, if_false, Nat.add_zero, Nat.zero_add, List.drop_zero]
      by_cases hb : (c == 91 || c == 93) = true
      · have hq : ¬ c = 34 := by intro e; subst e; revert hb; decide
        have hd : isDel c = true := by simp only [isDel, hb, Bool.true_or]
        rw [if_pos hb]
        unfold scan
        rw [show (false != (c == 34)) = false by simp [hq], hd, if_neg (by simp), if_neg (by omega), if_pos hb]
        simp
      · have hd : isDel c = false := by simp only [isDel, hs, Bool.or_false]; simpa using hb
        rw [if_neg hb]
        have hw : wl false (c :: r) = wl (false != (c == 34)) r + 1 := by
          rw [wl, hd]
          simp
        have hle : ∀ (q : Bool) (l : List UInt8), wl q l ≤ l.length := by
          intro q l
          induction l generalizing q with
          | nil => simp [wl]
          | cons c l ih =>
            unfold wl
            split
            · simp
            · simp; exact ih _
        have h5 := hle false (c :: r)
        unfold scan
        rw [hd, if_pos (by simp), scan_word r a (a + 1) _ (by omega), hw]
        rw [hw] at h5
        simp only [List.length_take]
        rw [Nat.min_eq_left h5]
        exact ⟨by congr 1; omega, h5, rfl, rfl⟩
theorem scan_high {c : UInt8} (h : 128 ≤ c.toNat) (a i : Nat) (q : Bool) (r : List UInt8) : scan a i q (c :: r) = scan a (i + 1) q r := by
  have h1 : ¬ c = 34 := by intro e; subst e; revert h; decide
  have h2 : isDel c = false := by
    unfold isDel isSkip
    have : ∀ d : UInt8, d.toNat < 128 → (c == d) = false := fun d hd => by
      rw [beq_eq_false_iff_ne]
      intro e; subst e; omega
    rw [this 91 (by decide), this 93 (by decide), this 32 (by decide), this 44 (by decide), this 40 (by decide), this 41 (by decide)]
    rfl
  have h3 : (c == 34) = false := by simpa using h1
  rw [scan, h2, h3]
  simp
theorem iElems_val {V : List UInt8 → List UInt8 → Dt × List UInt8} (hV : ∀ w l, IsVal (V w l).1) (deep : Bool) : ∀ (n : Nat) (acc : List Dt) (l : List UInt8), (∀ x ∈ acc, IsVal x) → ∀ x ∈ (iElems V deep n acc l).1, IsVal x
  | 0, acc, l, ha => by simpa [iElems] using ha
  | n + 1, acc, l, ha => by
    unfold iElems
    split
    · exact ha
    · split
      · exact ha
      · exact iElems_val hV deep n _ _ fun x hx => by
          rcases List.mem_append.1 hx with hx | hx
          · exact ha x hx
          · simp at hx; subst hx; exact hV _ _
theorem iVal_val : ∀ d w l, IsVal (iVal d w l).1 ∧ NoFrom (iVal d w l).1
  | 0, w, l => ⟨IsVal.zero, by simp [NoFrom, vZero, iVal]⟩
  | d + 1, w, l => by
    have ih := iVal_val d
    unfold iVal
    split
    · exact ⟨IsVal.lst (iElems_val (fun w l => (ih w l).1) _ _ _ _ (by simp)), by simp [NoFrom, vLst]⟩
    · split
      · exact ⟨IsVal.str _ _, by simp [NoFrom, vStr, iStream]⟩
      · split
        · exact ⟨IsVal.tab _ fun x hx => by obtain ⟨y, _, rfl⟩ := List.mem_map.1 hx; exact toRow_isRow y, NoFrom.tab _ _⟩
        · split
          · exact ⟨IsVal.err _, by simp [NoFrom, vErr]⟩
          · split
            · exact ⟨IsVal.txt _, by simp [NoFrom, vTxt]⟩
            · exact ⟨IsVal.num _, by simp [NoFrom, vNum]⟩
end Go.Proofs.YtabcmnlmmpbmnaaGreatDoor
