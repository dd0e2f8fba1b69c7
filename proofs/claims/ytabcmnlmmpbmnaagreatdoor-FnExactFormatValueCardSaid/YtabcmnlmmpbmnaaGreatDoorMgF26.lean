/-
  Texts that the proof rests on, put together: Txt, SParse, SWt.
-/
import Derived.Test.YtabcmnlmmpbmnaaGreatDoorMgF2
import Derived.Test.YtabcmnlmmpbmnaaGreatDoorMgF1
import Derived.Test.YtabcmnlmmpbmnaaGreatDoorMgF8
import Derived.Test.YtabcmnlmmpbmnaaGreatDoorMgF15
import Derived.Lib.Join
/-
  The representations of values, and which values they are of: no program in this text.
-/

namespace Go.Proofs.YtabcmnlmmpbmnaaGreatDoor
open Go.Lib
set_option linter.unusedVariables false

/-- The values of each kind, as trees. -/
def vNum (n : Int) : Dt := .agg [.int 1, .int n, .int 0, .str ⟨#[]⟩, .lst [], .lst [], .lst []]
def vTxt (t : List UInt8) : Dt := .agg [.int 2, .int 0, .int 0, .str ⟨t.toArray⟩, .lst [], .lst [], .lst []]
def vLst (l : List Dt) : Dt := .agg [.int 3, .int 0, .int 0, .str ⟨#[]⟩, .lst l, .lst [], .lst []]
def vStr (a b : Int) : Dt := .agg [.int 4, .int a, .int b, .str ⟨#[]⟩, .lst [], .lst [], .lst []]
def vTab (c : List ByteArray) (r : List Dt) : Dt := .agg [.int 5, .int 0, .int 0, .str ⟨#[]⟩, .lst [], .lst (c.map .str), .lst r]
def vErr (n : Int) : Dt := .agg [.int 6, .int n, .int 0, .str ⟨#[]⟩, .lst [], .lst [], .lst []]
def vZero : Dt := .agg [.int 0, .int 0, .int 0, .str ⟨#[]⟩, .lst [], .lst [], .lst []]

def numTxt : Dt → List UInt8
  | .int n => itoa n
  | _ => []
def strTxt : Dt → List UInt8
  | .str s => s.data.toList
  | _ => []
def sepC : List UInt8 := [44, 32]
def brk (xs : List (List UInt8)) : List UInt8 := 91 :: (join xs sepC ++ [93])
def rowTxt : Dt → List UInt8
  | .agg [.lst ns, .lst _] => brk (ns.map numTxt)
  | _ => []
def eNames : List (List UInt8) := [[109, 105, 115, 115, 105, 110, 103], [100, 117, 112, 108, 105, 99, 97, 116, 101], [99, 121, 99, 108, 101], [116, 121, 112, 101], [114, 97, 110, 103, 101], [108, 105, 109, 105, 116], [99, 111, 108, 117, 109, 110], [115, 121, 110, 116, 97, 120]]
def eName (n : Int) : List UInt8 := if 1 ≤ n ∧ n ≤ 8 then eNames.getD (n.toNat - 1) [] else [63]
def eCode (s : List UInt8) : Int := if s ∈ eNames then (eNames.idxOf s : Nat) + 1 else 0
def wRange : List UInt8 := [114, 97, 110, 103, 101, 40]
def wTable : List UInt8 := [116, 97, 98, 108, 101, 40]
def wError : List UInt8 := [101, 114, 114, 111, 114, 32]

mutual
/-- The representation of a value. -/
def Dt.txt : Dt → List UInt8
  | .agg [.int k, .int n, .int s, .str t, .lst l, .lst c, .lst r] =>
    if k = 1 then itoa n
    else if k = 2 then 34 :: (t.data.toList ++ [34])
    else if k = 4 then wRange ++ (itoa n ++ (sepC ++ (itoa s ++ [41])))
    else if k = 5 then wTable ++ (34 :: (join (c.map strTxt) [32] ++ (34 :: (sepC ++ (brk (r.map rowTxt) ++ [41])))))
    else if k = 6 then wError ++ eName n
    else brk (txts l)
  | _ => []
def txts : List Dt → List (List UInt8)
  | [] => []
  | x :: xs => x.txt :: txts xs
end

theorem txts_map : ∀ xs : List Dt, txts xs = xs.map Dt.txt
  | [] => by simp [txts]
  | x :: xs => by simp [txts, txts_map xs]
theorem txt_num (n : Int) : (vNum n).txt = itoa n := by simp [vNum, Dt.txt]
theorem txt_txt (t : List UInt8) : (vTxt t).txt = 34 :: (t ++ [34]) := by simp [vTxt, Dt.txt]
theorem txt_lst (l : List Dt) : (vLst l).txt = brk (l.map Dt.txt) := by simp [vLst, Dt.txt, txts_map]
theorem txt_str (a b : Int) : (vStr a b).txt = wRange ++ (itoa a ++ (sepC ++ (itoa b ++ [41]))) := by simp [vStr, Dt.txt]
theorem txt_tab (c : List ByteArray) (r : List Dt) : (vTab c r).txt = wTable ++ (34 :: (join (c.map (·.data.toList)) [32] ++ (34 :: (sepC ++ (brk (r.map rowTxt) ++ [41]))))) := by
  simp [vTab, Dt.txt, List.map_map, Function.comp_def, strTxt]
theorem txt_err (n : Int) : (vErr n).txt = wError ++ eName n := by simp [vErr, Dt.txt]

/-- What may stand in a list, of at most this depth. -/
def El : Nat → Dt → Prop
  | 0, _ => False
  | m + 1, d => (∃ n, NumOk n ∧ d = vNum n) ∨ (∃ t : List UInt8, t.length ≤ 20 ∧ 34 ∉ t ∧ d = vTxt t) ∨ ∃ xs : List Dt, xs.length ≤ 8 ∧ (xs = [] ∨ 1 ≤ m) ∧ (∀ x ∈ xs, El m x) ∧ d = vLst xs
/-- A row without origins. -/
def RowV (m : Nat) (d : Dt) : Prop := ∃ ns : List Int, ns.length = m ∧ (∀ n ∈ ns, NumOk n) ∧ d = .agg [.lst (ns.map .int), .lst []]
/-- A valid value without origins. -/
def Top (d : Dt) : Prop := El 3 d ∨ (∃ a b, NumOk a ∧ NumOk b ∧ d = vStr a b) ∨
  (∃ (c : List ByteArray) (r : List Dt), c ≠ [] ∧ c.length ≤ 4 ∧ (∀ s ∈ c, s.size ≤ 8 ∧ (32 : UInt8) ∉ s.data.toList ∧ (34 : UInt8) ∉ s.data.toList) ∧ r.length ≤ 12 ∧ (∀ x ∈ r, RowV c.length x) ∧ d = vTab c r) ∨
  ∃ n, 1 ≤ n ∧ n ≤ 8 ∧ d = vErr n

/-- A row as a list of numbers. -/
def asLst : Dt → Dt
  | .agg [.lst ns, .lst _] => vLst (ns.map fun d => match d with | .int n => vNum n | _ => d)
  | d => d
/-- The number of a value. -/
def cellN : Dt → Dt
  | .agg (_ :: .int n :: _) => .int n
  | _ => .int 0
/-- A row of the numbers of a list's elements. -/
def toRow : Dt → Dt
  | .agg [_, _, _, _, .lst l, _, _] => .agg [.lst (l.map cellN), .lst []]
  | _ => .agg [.lst [], .lst []]
theorem asLst_row (ns : List Int) (os : List Dt) : asLst (.agg [.lst (ns.map .int), .lst os]) = vLst (ns.map vNum) := by
  simp [asLst, List.map_map, Function.comp_def]
theorem toRow_asLst (ns : List Int) : toRow (asLst (.agg [.lst (ns.map .int), .lst []])) = .agg [.lst (ns.map .int), .lst []] := by
  rw [asLst_row]
  simp [toRow, vLst, List.map_map, Function.comp_def, vNum, cellN]
theorem rowTxt_asLst (ns : List Int) (os : List Dt) : rowTxt (.agg [.lst (ns.map .int), .lst os]) = (asLst (.agg [.lst (ns.map .int), .lst os])).txt := by
  rw [asLst_row, txt_lst]
  simp [rowTxt, List.map_map, Function.comp_def, numTxt, txt_num]
theorem RowV.el {m : Nat} {d : Dt} (h : RowV m d) (hm : m ≤ 8) : El 2 (asLst d) ∧ toRow (asLst d) = d ∧ rowTxt d = (asLst d).txt := by
  obtain ⟨ns, rfl, hn, rfl⟩ := h
  refine ⟨?_, toRow_asLst ns, rowTxt_asLst ns []⟩
  rw [asLst_row]
  refine .inr (.inr ⟨_, by simpa using hm, .inr (Nat.le_refl 1), fun x hx => ?_, rfl⟩)
  obtain ⟨n, hm, rfl⟩ := List.mem_map.1 hx
  exact .inl ⟨n, hn n hm, rfl⟩

/-! ### numerals -/
def isDg (c : UInt8) : Bool := decide (48 ≤ c.toNat) && decide (c.toNat ≤ 57)
theorem isDg_dig (d : Nat) (h : d < 10) : isDg (UInt8.ofNat (48 + d)) = true := by
  unfold isDg; rw [ofNat_dig d h]; simp; omega
theorem decDigits_isDg (u : Nat) : ∀ c ∈ decDigits u, isDg c = true := by
  induction u using Nat.strongRecOn with
  | _ u ih =>
    rw [decDigits]
    split
    · rename_i h
      intro c hc
      simp only [List.mem_singleton] at hc
      subst hc
      exact isDg_dig u h
    · intro c hc
      rcases List.mem_append.1 hc with hc | hc
      · exact ih (u / 10) (by omega) c hc
      · simp only [List.mem_singleton] at hc
        subst hc
        exact isDg_dig _ (by omega)
/-- A numeral: a sign or none, then digits. -/
theorem itoa_form (n : Int) : ∃ ds : List UInt8, ds ≠ [] ∧ (∀ c ∈ ds, isDg c = true) ∧ (itoa n = ds ∨ itoa n = 45 :: ds) := by
  by_cases hneg : n < 0
  · obtain ⟨u, rfl⟩ : ∃ u : Nat, n = -(u : Int) := ⟨n.natAbs, by omega⟩
    exact ⟨decDigits u, decDigits_ne u, decDigits_isDg u, .inr (itoa_neg u (by omega))⟩
  · obtain ⟨u, rfl⟩ : ∃ u : Nat, n = u := ⟨n.toNat, by omega⟩
    exact ⟨decDigits u, decDigits_ne u, decDigits_isDg u, .inl (itoa_nonneg u)⟩
theorem itoa_ne (n : Int) : itoa n ≠ [] := by
  obtain ⟨ds, h1, _, h | h⟩ := itoa_form n
  · rw [h]; exact h1
  · rw [h]; simp
/-- No delimiter and no quote in a numeral. -/
theorem itoa_byte (n : Int) : ∀ c ∈ itoa n, c = 45 ∨ isDg c = true := by
  obtain ⟨ds, _, h2, h | h⟩ := itoa_form n
  · rw [h]; exact fun c hc => .inr (h2 c hc)
  · rw [h]
    intro c hc
    rcases List.mem_cons.1 hc with hc | hc
    · exact .inl hc
    · exact .inr (h2 c hc)
theorem itoa_len {n : Int} (h : NumOk n) : (itoa n).length ≤ 11 := by
  unfold NumOk at h
  by_cases hneg : n < 0
  · obtain ⟨u, rfl⟩ : ∃ u : Nat, n = -(u : Int) := ⟨n.natAbs, by omega⟩
    rw [itoa_neg u (by omega), List.length_cons, decDigits_length]
    have := nDigits_le_of_lt u 10 (by omega) (by omega)
    omega
  · obtain ⟨u, rfl⟩ : ∃ u : Nat, n = u := ⟨n.toNat, by omega⟩
    rw [itoa_nonneg, decDigits_length]
    have := nDigits_le_of_lt u 10 (by omega) (by omega)
    omega

/-! ### lengths -/
theorem joinTail_cons' (sep x : List UInt8) (r : List (List UInt8)) : joinTail sep (x :: r) = sep ++ (x ++ joinTail sep r) := by simp [joinTail]
theorem joinTail_le (B : Nat) : ∀ xs : List (List UInt8), (∀ x ∈ xs, x.length ≤ B) → (joinTail sepC xs).length ≤ xs.length * (B + 2)
  | [], _ => by simp [joinTail]
  | x :: xs, h => by
    have h1 := joinTail_le B xs fun y hy => h y (by simp [hy])
    have h2 := h x (by simp)
    rw [joinTail_cons', List.length_append, List.length_append, List.length_cons, Nat.succ_mul, show sepC.length = 2 from rfl]
    omega
theorem join_le (B : Nat) (xs : List (List UInt8)) (h : ∀ x ∈ xs, x.length ≤ B) : (join xs sepC).length ≤ xs.length * (B + 2) := by
  cases xs with
  | nil => simp [join_nil]
  | cons x xs =>
    have h1 := joinTail_le B xs fun y hy => h y (by simp [hy])
    have h2 := h x (by simp)
    rw [join_cons, List.length_append, List.length_cons, Nat.succ_mul]
    omega
theorem brk_le (B k : Nat) (xs : List (List UInt8)) (hk : xs.length ≤ k) (h : ∀ x ∈ xs, x.length ≤ B) : (brk xs).length ≤ k * (B + 2) + 2 := by
  have h1 := join_le B xs h
  have h2 := Nat.mul_le_mul_right (B + 2) hk
  simp [brk]
  omega
def elMax : Nat → Nat
  | 0 => 22
  | m + 1 => 8 * (elMax m + 2) + 2
theorem elMax_ge (m : Nat) : 22 ≤ elMax m := by
  induction m with
  | zero => simp [elMax]
  | succ m ih => simp [elMax]; omega
theorem el_len : ∀ (m : Nat) (d : Dt), El m d → d.txt.length ≤ elMax m
  | 0, _, h => by simp [El] at h
  | m + 1, d, h => by
    have hg := elMax_ge (m + 1)
    rcases h with ⟨n, hn, rfl⟩ | ⟨t, ht, _, rfl⟩ | ⟨xs, hl, _, hx, rfl⟩
    · rw [txt_num]; have := itoa_len hn; omega
    · rw [txt_txt]; simp; omega
    · rw [txt_lst]
      exact brk_le (elMax m) 8 _ (by simpa using hl) fun y hy => by
        obtain ⟨x, hx', rfl⟩ := List.mem_map.1 hy
        exact el_len m x (hx x hx')
theorem eName_len (n : Int) : (eName n).length ≤ 9 := by
  unfold eName
  split
  · have : ∀ x ∈ eNames, x.length ≤ 9 := by decide
    rw [List.getD_eq_getElem?_getD]
    cases h : eNames[n.toNat - 1]? with
    | none => simp
    | some v => exact this v (List.mem_of_getElem? h)
  · simp
end Go.Proofs.YtabcmnlmmpbmnaaGreatDoor

/-
  What the model reads of a text: every valid value without origins is read from its representation.
-/

namespace Go.Proofs.YtabcmnlmmpbmnaaGreatDoor
open Go.Lib
set_option linter.unusedVariables false

/-! ### what the model reads -/
/-- A sign or none, then digits; and what is left. -/
def tokL (l : List UInt8) : Nat := if l.head? = some 45 then 1 + (l.tail.takeWhile isDg).length else (l.takeWhile isDg).length
def pInt (l : List UInt8) : Int × Option (List UInt8) :=
  match rd 12 (l.take (tokL l)) with
  | some n => (n, some (l.drop (tokL l)))
  | none => (0, none)
def pQuote (l : List UInt8) : List UInt8 × Option (List UInt8) :=
  match l with
  | c :: r => if c = 34 then (if 34 ∈ r then (r.takeWhile (· != 34), some (r.drop ((r.takeWhile (· != 34)).length + 1))) else ([], none)) else ([], none)
  | [] => ([], none)
def pStream (l : List UInt8) : Dt × Option (List UInt8) :=
  match pInt l with
  | (n, some r1) => if sepC.isPrefixOf r1 then
      (match pInt (r1.drop 2) with
      | (s, some r2) => if [41].isPrefixOf r2 then (vStr n s, some (r2.drop 1)) else (vZero, none)
      | (_, none) => (vZero, none)) else (vZero, none)
  | (_, none) => (vZero, none)
def pLoop (P : List UInt8 → Dt × Option (List UInt8)) : Nat → List Dt → List UInt8 → List Dt × Option (List UInt8)
  | 0, _, _ => ([], none)
  | k + 1, acc, l =>
    match P l with
    | (_, none) => ([], none)
    | (v, some r) => if [93].isPrefixOf r then (acc ++ [v], some (r.drop 1)) else if sepC.isPrefixOf r then pLoop P k (acc ++ [v]) (r.drop 2) else ([], none)
def pItems (P : List UInt8 → Dt × Option (List UInt8)) (l : List UInt8) : List Dt × Option (List UInt8) :=
  if [93].isPrefixOf l then ([], some (l.drop 1)) else pLoop P 64 [] l
def pTable (P : List UInt8 → Dt × Option (List UInt8)) (l : List UInt8) : Dt × Option (List UInt8) :=
  match pQuote l with
  | (nm, some r1) => if [44, 32, 91].isPrefixOf r1 then
      (match pItems P (r1.drop 3) with
      | (xs, some r2) => if [41].isPrefixOf r2 then (vTab ((pcs 32 nm).map fun x => ⟨x.toArray⟩) (xs.map toRow), some (r2.drop 1)) else (vZero, none)
      | (_, none) => (vZero, none)) else (vZero, none)
  | (_, none) => (vZero, none)
def pParse : Nat → List UInt8 → Dt × Option (List UInt8)
  | 0, _ => (vZero, none)
  | f + 1, l =>
    if [34].isPrefixOf l then (vTxt (pQuote l).1, (pQuote l).2)
    else if [91].isPrefixOf l then (vLst (pItems (pParse f) (l.drop 1)).1, (pItems (pParse f) (l.drop 1)).2)
    else if wRange.isPrefixOf l then pStream (l.drop 6)
    else if wTable.isPrefixOf l then pTable (pParse f) (l.drop 6)
    else if wError.isPrefixOf l then (vErr (eCode (l.drop 6)), some [])
    else (vNum (pInt l).1, (pInt l).2)

theorem pre_mem {p l : List UInt8} (h : p.isPrefixOf l = true) : ∃ r, l = p ++ r := by
  obtain ⟨r, hr⟩ := List.isPrefixOf_iff_prefix.1 h
  exact ⟨r, hr.symm⟩
theorem pre_app (p r : List UInt8) : p.isPrefixOf (p ++ r) = true := List.isPrefixOf_iff_prefix.2 ⟨r, rfl⟩
theorem pre_app1 (c : UInt8) (r : List UInt8) : [c].isPrefixOf (c :: r) = true := pre_app [c] r
theorem pre_ne (c d : UInt8) (p l : List UInt8) (h : c ≠ d) : (c :: p).isPrefixOf (d :: l) = false := by simp [List.isPrefixOf, h]

/-! ### every value is read from its representation -/
/-- Nothing that would go on with a numeral. -/
def Stop (r : List UInt8) : Prop := ∀ c, r.head? = some c → isDg c = false
theorem Stop.nil : Stop [] := by simp [Stop]
theorem Stop.cons {c : UInt8} {r : List UInt8} (h : isDg c = false) : Stop (c :: r) := by
  intro d hd; simp at hd; subst hd; exact h
theorem Stop.sep (r : List UInt8) : Stop (sepC ++ r) := Stop.cons (c := 44) (r := 32 :: r) (by decide)
theorem takeWhile_stop {ds r : List UInt8} (h : ∀ c ∈ ds, isDg c = true) (hr : Stop r) : (ds ++ r).takeWhile isDg = ds := by
  rw [List.takeWhile_append_of_pos h]
  cases r with
  | nil => simp
  | cons c r => rw [List.takeWhile_cons, if_neg (by rw [hr c rfl]; simp), List.append_nil]
theorem tokL_itoa (n : Int) (r : List UInt8) (hr : Stop r) : tokL (itoa n ++ r) = (itoa n).length := by
  obtain ⟨ds, h1, h2, h | h⟩ := itoa_form n
  · rw [h]
    unfold tokL
    rw [takeWhile_stop h2 hr, if_neg]
    obtain ⟨c, ds, rfl⟩ := List.exists_cons_of_ne_nil h1
    have := h2 c (by simp)
    intro e
    simp at e
    subst e
    revert this
    decide
  · rw [h]
    unfold tokL
    rw [List.cons_append, List.head?_cons, if_pos rfl, List.tail_cons, takeWhile_stop h2 hr, List.length_cons]
    omega
theorem pInt_itoa (n : Int) (hn : NumOk n) (r : List UInt8) (hr : Stop r) : pInt (itoa n ++ r) = (n, some r) := by
  unfold pInt
  unfold NumOk at hn
  rw [tokL_itoa n r hr, List.take_left, List.drop_left, rd_of rfl (by have : (10 : Nat) ^ 12 = 1000000000000 := rfl; omega) (by omega)]
theorem takeWhile_quote {t r : List UInt8} (h : 34 ∉ t) : (t ++ 34 :: r).takeWhile (· != 34) = t := by
  rw [List.takeWhile_append_of_pos (fun c hc => by simp; intro e; subst e; exact h hc)]
  simp
theorem pQuote_of (t r : List UInt8) (h : 34 ∉ t) : pQuote (34 :: (t ++ 34 :: r)) = (t, some r) := by
  unfold pQuote
  simp only [if_true]
  rw [if_pos (by simp), takeWhile_quote h]
  congr 1
  congr 1
  rw [show t.length + 1 = (t ++ [34]).length by simp, show t ++ 34 :: r = (t ++ [34]) ++ r by simp, List.drop_left]

theorem itoa_not (n : Int) (c : UInt8) (p r : List UInt8) (h1 : c ≠ 45) (h2 : isDg c = false) : (c :: p).isPrefixOf (itoa n ++ r) = false := by
  obtain ⟨d, ds, hd⟩ := List.exists_cons_of_ne_nil (itoa_ne n)
  rw [hd]
  refine pre_ne c d p _ fun e => ?_
  subst e
  have := itoa_byte n c (by rw [hd]; simp)
  rcases this with h | h
  · exact h1 h
  · rw [h2] at h; cases h

/-- P reads the element x from its representation. -/
def Reads (P : List UInt8 → Dt × Option (List UInt8)) (x : Dt) : Prop := ∀ r, Stop r → P (x.txt ++ r) = (x, some r)
theorem pLoop_of {P : List UInt8 → Dt × Option (List UInt8)} : ∀ (xs : List Dt) (x : Dt) (k : Nat) (acc : List Dt) (r : List UInt8), (∀ y ∈ x :: xs, Reads P y) → (x :: xs).length ≤ k →
    pLoop P k acc (x.txt ++ (joinTail sepC (xs.map Dt.txt) ++ 93 :: r)) = (acc ++ x :: xs, some r)
  | [], x, k, acc, r, h, hk => by
    obtain ⟨k, rfl⟩ : ∃ k', k = k' + 1 := ⟨k - 1, by simp at hk; omega⟩
    unfold pLoop
    rw [show joinTail sepC (([] : List Dt).map Dt.txt) = [] from rfl, List.nil_append, h x (by simp) (93 :: r) (Stop.cons (by decide))]
    simp only
    rw [if_pos (pre_app1 93 r)]
    rfl
  | y :: xs, x, k, acc, r, h, hk => by
    obtain ⟨k, rfl⟩ : ∃ k', k = k' + 1 := ⟨k - 1, by simp at hk; omega⟩
    unfold pLoop
    rw [List.map_cons, joinTail_cons', List.append_assoc, List.append_assoc, h x (by simp) _ (Stop.sep _)]
    simp only
    rw [if_neg (by rw [show sepC = [44, 32] from rfl, List.cons_append, pre_ne 93 44 _ _ (by decide)]; simp), if_pos (pre_app sepC _),
      show (2 : Nat) = sepC.length from rfl, List.drop_left, pLoop_of xs y k (acc ++ [x]) r (fun z hz => h z (by simp at hz ⊢; exact .inr hz)) (by simp at hk ⊢; omega)]
    simp
theorem txt_head {m : Nat} {x : Dt} (h : El m x) : ∃ c r, x.txt = c :: r ∧ (c = 34 ∨ c = 91 ∨ c = 45 ∨ isDg c = true) := by
  cases m with
  | zero => simp [El] at h
  | succ m =>
    rcases h with ⟨n, hn, rfl⟩ | ⟨t, ht, _, rfl⟩ | ⟨xs, hl, _, hx, rfl⟩
    · obtain ⟨d, ds, hd⟩ := List.exists_cons_of_ne_nil (itoa_ne n)
      exact ⟨d, ds, by rw [txt_num, hd], by have := itoa_byte n d (by rw [hd]; simp); rcases this with h | h <;> simp [h]⟩
    · exact ⟨34, _, txt_txt t, .inl rfl⟩
    · exact ⟨91, _, txt_lst xs, .inr (.inl rfl)⟩
theorem pItems_of {P : List UInt8 → Dt × Option (List UInt8)} {m : Nat} (xs : List Dt) (r : List UInt8) (h : ∀ y ∈ xs, Reads P y) (he : ∀ y ∈ xs, El m y) (hk : xs.length ≤ 64) :
    pItems P (join (xs.map Dt.txt) sepC ++ 93 :: r) = (xs, some r) := by
  unfold pItems
  cases xs with
  | nil =>
    rw [show join (([] : List Dt).map Dt.txt) sepC = [] from rfl, List.nil_append, if_pos (pre_app1 93 r)]
    rfl
  | cons x xs =>
    obtain ⟨c, r', hc, h'⟩ := txt_head (he x (by simp))
    rw [List.map_cons, join_cons, List.append_assoc, if_neg, pLoop_of xs x 64 [] r h hk]
    · rfl
    · rw [hc, List.cons_append, pre_ne 93 c _ _ (by
        intro e; subst e
        rcases h' with h | h | h | h <;> revert h <;> decide)]
      simp
theorem pParse_el : ∀ (m : Nat) (x : Dt), El m x → ∀ f, m ≤ f → Reads (pParse f) x
  | 0, _, h, _, _ => by simp [El] at h
  | m + 1, x, h, f, hf => by
    obtain ⟨f, rfl⟩ : ∃ f', f = f' + 1 := ⟨f - 1, by omega⟩
    intro r hr
    rcases h with ⟨n, hn, rfl⟩ | ⟨t, ht, h34, rfl⟩ | ⟨xs, hl, _, hx, rfl⟩
    · rw [txt_num]
      unfold pParse
      rw [itoa_not n 34 _ r (by decide) (by decide), itoa_not n 91 _ r (by decide) (by decide), show wRange = 114 :: wRange.tail from rfl, itoa_not n 114 _ r (by decide) (by decide),
        show wTable = 116 :: wTable.tail from rfl, itoa_not n 116 _ r (by decide) (by decide), show wError = 101 :: wError.tail from rfl, itoa_not n 101 _ r (by decide) (by decide), pInt_itoa n hn r hr]
      rfl
    · rw [txt_txt]
      unfold pParse
      rw [List.cons_append, List.append_assoc, show [34] ++ r = 34 :: r from rfl, if_pos (pre_app1 34 _), pQuote_of t r h34]
    · rw [txt_lst]
      unfold pParse brk
      rw [List.cons_append, pre_ne 34 91 _ _ (by decide), if_neg (by simp), if_pos (pre_app1 91 _), List.append_assoc, show (91 :: (join (xs.map Dt.txt) sepC ++ ([93] ++ r))).drop 1 = join (xs.map Dt.txt) sepC ++ 93 :: r from rfl,
        pItems_of (m := m) xs r (fun y hy => pParse_el m y (hx y hy) f (by omega)) hx (by omega)]
theorem pcs_join (c : UInt8) : ∀ (x : List UInt8) (xs : List (List UInt8)), (∀ y ∈ x :: xs, c ∉ y) → pcs c (x ++ joinTail [c] xs) = x :: xs
  | [], [], _ => rfl
  | [], y :: xs, h => by
    rw [joinTail_cons', List.nil_append, List.singleton_append]
    unfold pcs
    rw [if_pos rfl, pcs_join c y xs fun z hz => h z (by simp at hz ⊢; exact .inr hz)]
  | b :: x, xs, h => by
    rw [List.cons_append]
    unfold pcs
    rw [if_neg (fun e => h (b :: x) (by simp) (by simp [e])), pcs_join c x xs fun z hz => by
      rcases List.mem_cons.1 hz with rfl | hz
      · exact fun hm => h (b :: z) (by simp) (by simp [hm])
      · exact h z (by simp [hz])]
    rfl
theorem pcs_cols (c : List ByteArray) (hc : c ≠ []) (h : ∀ s ∈ c, (32 : UInt8) ∉ s.data.toList) : ((pcs 32 (join (c.map (·.data.toList)) [32])).map fun x => (⟨x.toArray⟩ : ByteArray)) = c := by
  obtain ⟨x, xs, rfl⟩ := List.exists_cons_of_ne_nil hc
  rw [List.map_cons, join_cons, pcs_join 32 _ _ (fun y hy => by
    rcases List.mem_cons.1 hy with rfl | hy
    · exact h x (by simp)
    · obtain ⟨s, hs, rfl⟩ := List.mem_map.1 hy
      exact h s (by simp [hs])), List.map_cons, List.map_map]
  congr 1
  exact List.map_id' _ 
theorem join_no (c : UInt8) (sep : List UInt8) (hs : c ∉ sep) : ∀ xs : List (List UInt8), (∀ y ∈ xs, c ∉ y) → c ∉ join xs sep
  | [], _ => by simp [join_nil]
  | x :: xs, h => by
    rw [join_cons]
    intro hm
    rcases List.mem_append.1 hm with hm | hm
    · exact h x (by simp) hm
    · unfold joinTail at hm
      obtain ⟨y, hy, hm⟩ := List.mem_flatten.1 hm
      obtain ⟨z, hz, rfl⟩ := List.mem_map.1 hy
      rcases List.mem_append.1 hm with hm | hm
      · exact hs hm
      · exact h z (by simp [hz]) hm
theorem eCode_name (n : Int) (h1 : 1 ≤ n) (h8 : n ≤ 8) : eCode (eName n) = n := by
  have : n = 1 ∨ n = 2 ∨ n = 3 ∨ n = 4 ∨ n = 5 ∨ n = 6 ∨ n = 7 ∨ n = 8 := by omega
  rcases this with rfl | rfl | rfl | rfl | rfl | rfl | rfl | rfl <;> decide
/-- Every valid value without origins is read from its representation. -/
theorem pParse_top {d : Dt} (h : Top d) (f : Nat) (hf : 3 ≤ f) : pParse f d.txt = (d, some []) := by
  obtain ⟨f, rfl⟩ : ∃ f', f = f' + 1 := ⟨f - 1, by omega⟩
  rcases h with h | ⟨a, b, ha, hb, rfl⟩ | ⟨c, r, hc, _, hcs, hr, hrs, rfl⟩ | ⟨n, h1, h8, rfl⟩
  · have := pParse_el 3 d h (f + 1) hf [] Stop.nil
    rwa [List.append_nil] at this
  · rw [txt_str]
    unfold pParse
    rw [if_neg (by rw [show wRange = 114 :: wRange.tail from rfl, List.cons_append, pre_ne _ _ _ _ (by decide)]; simp), if_neg (by rw [show wRange = 114 :: wRange.tail from rfl, List.cons_append, pre_ne _ _ _ _ (by decide)]; simp),
      if_pos (pre_app wRange _), show (6 : Nat) = wRange.length from rfl, List.drop_left]
    unfold pStream
    rw [pInt_itoa a ha _ (Stop.sep _)]
    simp only
    rw [if_pos (pre_app sepC _), show (2 : Nat) = sepC.length from rfl, List.drop_left, pInt_itoa b hb _ (Stop.cons (by decide))]
    simp only
    rw [if_pos (pre_app1 41 [])]
    rfl
  · rw [txt_tab]
    unfold pParse
    have hn : ∀ c (p : List UInt8), c ≠ 116 → (c :: p).isPrefixOf (wTable ++ (34 :: (join (‹List ByteArray›.map (·.data.toList)) [32] ++ (34 :: (sepC ++ (brk (r.map rowTxt) ++ [41])))))) = false := fun c p h => by
      rw [show wTable = 116 :: wTable.tail from rfl, List.cons_append, pre_ne _ _ _ _ h]
    rw [hn 34 [] (by decide), hn 91 [] (by decide), show wRange = 114 :: wRange.tail from rfl, hn 114 _ (by decide), if_neg (by simp), if_neg (by simp), if_neg (by simp),
      if_pos (pre_app wTable _), show (6 : Nat) = wTable.length from rfl, List.drop_left]
    unfold pTable
    have he : ∀ x ∈ r, El 2 (asLst x) ∧ toRow (asLst x) = x ∧ rowTxt x = (asLst x).txt := fun x hx => (hrs x hx).el (by omega)
    have e1 : r.map rowTxt = (r.map asLst).map Dt.txt := by
      rw [List.map_map]
      exact List.map_congr_left fun x hx => (he x hx).2.2
    have e2 : (r.map asLst).map toRow = r := by
      rw [List.map_map]
      conv => rhs; rw [← List.map_id r]
      exact List.map_congr_left fun x hx => (he x hx).2.1
    rw [pQuote_of _ _ (join_no 34 [32] (by decide) _ fun y hy => by
      obtain ⟨s, hs, rfl⟩ := List.mem_map.1 hy
      exact (hcs s hs).2.2)]
    simp only
    rw [e1]
    unfold brk
    rw [if_pos (show [44, 32, 91].isPrefixOf (sepC ++ (91 :: (join ((r.map asLst).map Dt.txt) sepC ++ [93]) ++ [41])) = true from pre_app [44, 32, 91] _),
      show List.drop 3 (sepC ++ ((91 : UInt8) :: (join ((r.map asLst).map Dt.txt) sepC ++ [93]) ++ [41])) = join ((r.map asLst).map Dt.txt) sepC ++ [93] ++ [41] from rfl, List.append_assoc,
      show ([93] : List UInt8) ++ [41] = 93 :: [41] from rfl, pItems_of (m := 2) (r.map asLst) [41] (fun y hy => by
        obtain ⟨x, hx, rfl⟩ := List.mem_map.1 hy
        exact pParse_el 2 _ (he x hx).1 f (by omega)) (fun y hy => by
        obtain ⟨x, hx, rfl⟩ := List.mem_map.1 hy
        exact (he x hx).1) (by simp; omega)]
    simp only
    rw [if_pos (pre_app1 41 []), pcs_cols c hc (fun s hs => (hcs s hs).2.1), e2]
    rfl
  · rw [txt_err]
    unfold pParse
    have hn : ∀ c (p : List UInt8), c ≠ 101 → (c :: p).isPrefixOf (wError ++ eName n) = false := fun c p h => by
      rw [show wError = 101 :: wError.tail from rfl, List.cons_append, pre_ne _ _ _ _ h]
    rw [hn 34 [] (by decide), hn 91 [] (by decide), show wRange = 114 :: wRange.tail from rfl, hn 114 _ (by decide), show wTable = 116 :: wTable.tail from rfl, hn 116 _ (by decide), if_neg (by simp), if_neg (by simp), if_neg (by simp), if_neg (by simp),
      if_pos (pre_app wError _), show (6 : Nat) = wError.length from rfl, List.drop_left, eCode_name n h1 h8]
end Go.Proofs.YtabcmnlmmpbmnaaGreatDoor

/-
  What the model reads is a value, without origins, and small.
-/

namespace Go.Proofs.YtabcmnlmmpbmnaaGreatDoor
open Go.Lib
set_option linter.unusedVariables false

/-- No row has origins. -/
def NoFrom : Dt → Prop
  | .agg [_, _, _, _, _, _, .lst r] => ∀ x ∈ r, ∃ ns : List Int, x = .agg [.lst (ns.map .int), .lst []]
  | _ => True
theorem IsVal.num (n : Int) : IsVal (vNum n) := IsVal.mk 1 n 0 ⟨#[]⟩ [] [] [] (by simp) (by simp)
theorem IsVal.txt (t : List UInt8) : IsVal (vTxt t) := IsVal.mk 2 0 0 ⟨t.toArray⟩ [] [] [] (by simp) (by simp)
theorem IsVal.lst {l : List Dt} (h : ∀ x ∈ l, IsVal x) : IsVal (vLst l) := IsVal.mk 3 0 0 ⟨#[]⟩ l [] [] h (by simp)
theorem IsVal.str (a b : Int) : IsVal (vStr a b) := IsVal.mk 4 a b ⟨#[]⟩ [] [] [] (by simp) (by simp)
theorem IsVal.tab (c : List ByteArray) {r : List Dt} (h : ∀ x ∈ r, IsRow x) : IsVal (vTab c r) := IsVal.mk 5 0 0 ⟨#[]⟩ [] c r (by simp) h
theorem IsVal.err (n : Int) : IsVal (vErr n) := IsVal.mk 6 n 0 ⟨#[]⟩ [] [] [] (by simp) (by simp)
theorem IsVal.zero : IsVal vZero := IsVal.mk 0 0 0 ⟨#[]⟩ [] [] [] (by simp) (by simp)
theorem cellN_int : ∀ d : Dt, ∃ n, cellN d = .int n := by
  intro d
  unfold cellN
  split
  · exact ⟨_, rfl⟩
  · exact ⟨0, rfl⟩
theorem cells_ints : ∀ l : List Dt, ∃ ns : List Int, l.map cellN = ns.map .int ∧ ns.length = l.length
  | [] => ⟨[], rfl, rfl⟩
  | x :: l => by
    obtain ⟨n, h⟩ := cellN_int x
    obtain ⟨ns, h2, h3⟩ := cells_ints l
    exact ⟨n :: ns, by simp [h, h2], by simp [h3]⟩
theorem toRow_form (d : Dt) : ∃ ns : List Int, toRow d = .agg [.lst (ns.map .int), .lst []] := by
  unfold toRow
  split
  · obtain ⟨ns, h, _⟩ := cells_ints ‹List Dt›
    exact ⟨ns, by rw [h]⟩
  · exact ⟨[], rfl⟩
theorem toRow_isRow (d : Dt) : IsRow (toRow d) := by
  obtain ⟨ns, h⟩ := toRow_form d
  exact ⟨ns, [], h, by simp⟩
theorem NoFrom.tab (c : List ByteArray) (xs : List Dt) : NoFrom (vTab c (xs.map toRow)) := by
  intro x hx
  obtain ⟨y, _, rfl⟩ := List.mem_map.1 hx
  exact toRow_form y

theorem wt_num (n : Int) : (vNum n).wt = 0 := by simp [vNum, Dt.wt, wts]; rfl
theorem wt_txt (t : List UInt8) : (vTxt t).wt = t.length := by simp [vTxt, Dt.wt, wts]; rfl
theorem wt_lst (l : List Dt) : (vLst l).wt = l.length + wts l := by simp [vLst, Dt.wt, wts]; rfl
theorem wt_str (a b : Int) : (vStr a b).wt = 0 := by simp [vStr, Dt.wt, wts]; rfl
theorem wt_err (n : Int) : (vErr n).wt = 0 := by simp [vErr, Dt.wt, wts]; rfl
theorem wt_zero : vZero.wt = 0 := by simp [vZero, Dt.wt, wts]; rfl
theorem wt_tab (c : List ByteArray) (r : List Dt) : (vTab c r).wt = c.length + tot c + (r.length + wts r) := by simp [vTab, Dt.wt, wts, wts_strs]; rfl
theorem toRow_wt (d : Dt) : (toRow d).wt ≤ d.wt := by
  unfold toRow
  split
  · rename_i l _ _
    obtain ⟨ns, h, hl⟩ := cells_ints l
    rw [h]
    simp [Dt.wt, wts, wts_ints, hl]
    omega
  · simp [Dt.wt, wts]
theorem toRows_wt : ∀ xs : List Dt, wts (xs.map toRow) ≤ wts xs
  | [] => by simp [wts]
  | x :: xs => by
    have := toRows_wt xs
    have := toRow_wt x
    simp only [List.map_cons, wts]
    omega
theorem sum_hdT (b : UInt8) (c : UInt8) (l : List UInt8) : ((hd b (pcs c l)).map List.length).sum = 1 + ((pcs c l).map List.length).sum := by
  cases h : pcs c l with
  | nil => exact absurd h (pcs_ne c l)
  | cons x r => simp [hd]; omega
theorem pcs_wt (c : UInt8) : ∀ l, (pcs c l).length + ((pcs c l).map List.length).sum = l.length + 1
  | [] => by simp [pcs]
  | b :: l => by
    have ih := pcs_wt c l
    unfold pcs
    split
    · simp; omega
    · rw [sum_hdT]
      cases h : pcs c l with
      | nil => exact absurd h (pcs_ne c l)
      | cons x r => rw [h] at ih; simp [hd] at ih ⊢; omega
theorem pcs_wtB (c : UInt8) (l : List UInt8) : ((pcs c l).map fun x => (⟨x.toArray⟩ : ByteArray)).length + tot ((pcs c l).map fun x => (⟨x.toArray⟩ : ByteArray)) = l.length + 1 := by
  rw [← pcs_wt c l, List.length_map]
  unfold tot
  rw [List.map_map]
  rfl

theorem drop1 {c : UInt8} {l : List UInt8} (h : [c].isPrefixOf l = true) : (l.drop 1).length + 1 = l.length := by
  obtain ⟨r, rfl⟩ := pre_mem h
  simp
theorem drop2 {l : List UInt8} (h : sepC.isPrefixOf l = true) : (l.drop 2).length + 2 = l.length := by
  obtain ⟨r, rfl⟩ := pre_mem h
  simp [sepC]
theorem pInt_wt {l r : List UInt8} {n : Int} (h : pInt l = (n, some r)) : r.length + 1 ≤ l.length ∧ n.natAbs < 10 ^ 12 := by
  unfold pInt at h
  split at h
  · rename_i m hm
    injection h with h1 h2
    injection h2 with h2
    subst h1 h2
    have h3 := rd_some hm
    have hne : l.take (tokL l) ≠ [] := by rw [← h3.1]; exact itoa_ne m
    refine ⟨?_, h3.2⟩
    have := List.length_pos_iff.2 hne
    rw [List.length_take] at this
    rw [List.length_drop]
    omega
  · injection h with _ h; cases h
theorem tw_all (p : UInt8 → Bool) : ∀ (l : List UInt8), ∀ c ∈ l.takeWhile p, p c = true
  | [], c, h => by simp at h
  | a :: l, c, h => by
    rw [List.takeWhile_cons] at h
    split at h
    · rcases List.mem_cons.1 h with rfl | h
      · assumption
      · exact tw_all p l c h
    · simp at h
theorem pQuote_wt {l t r : List UInt8} (h : pQuote l = (t, some r)) : t.length + 2 + r.length ≤ l.length := by
  unfold pQuote at h
  split at h
  · rename_i c l'
    split at h
    · split at h
      · rename_i hm
        injection h with h1 h2
        injection h2 with h2
        subst h1 h2
        have h4 : (l'.takeWhile (· != 34)).length < l'.length := by
          have h5 := List.takeWhile_append_dropWhile (p := (· != (34 : UInt8))) (l := l')
          rcases Nat.lt_or_ge (l'.takeWhile (· != 34)).length l'.length with h | h
          · exact h
          · have h6 := congrArg List.length h5
            rw [List.length_append] at h6
            have h7 : l'.dropWhile (· != 34) = [] := List.length_eq_zero_iff.1 (by omega)
            rw [h7, List.append_nil] at h5
            rw [← h5] at hm
            have h8 := tw_all _ _ _ hm
            simp at h8
        rw [List.length_drop, List.length_cons]
        omega
      · injection h with _ h; cases h
    · injection h with _ h; cases h
  · injection h with _ h; cases h
theorem pQuote_len (l : List UInt8) : (pQuote l).1.length ≤ l.length := by
  unfold pQuote
  split
  · split
    · split
      · have := (List.takeWhile_prefix (p := (· != (34 : UInt8))) (l := ‹List UInt8›)).length_le
        simp; omega
      · simp
    · simp
  · simp
theorem pStream_wt {l r : List UInt8} {v : Dt} (h : pStream l = (v, some r)) : v.wt + r.length + 1 ≤ l.length := by
  unfold pStream at h
  split at h
  · rename_i n r1 h1
    split at h
    · rename_i hs
      split at h
      · rename_i s r2 h2
        split at h
        · rename_i h3
          injection h with e1 e2
          injection e2 with e2
          subst e1 e2
          have a := pInt_wt h1
          have b := pInt_wt h2
          have c := drop1 h3
          have d := drop2 hs
          rw [wt_str]
          omega
        · injection h with _ h; cases h
      · injection h with _ h; cases h
    · injection h with _ h; cases h
  · injection h with _ h; cases h
def PWt (P : List UInt8 → Dt × Option (List UInt8)) : Prop := ∀ l v r, P l = (v, some r) → v.wt + 1 + r.length ≤ l.length
theorem pLoop_wt {P : List UInt8 → Dt × Option (List UInt8)} (hP : PWt P) : ∀ (k : Nat) (acc : List Dt) (l : List UInt8) (xs : List Dt) (r : List UInt8), pLoop P k acc l = (xs, some r) → xs.length + wts xs + 1 + r.length ≤ acc.length + wts acc + l.length
  | 0, acc, l, xs, r, h => by unfold pLoop at h; injection h with _ h; cases h
  | k + 1, acc, l, xs, r, h => by
    unfold pLoop at h
    split at h
    · injection h with _ h; cases h
    · rename_i v r1 h1
      have a := hP _ _ _ h1
      split at h
      · rename_i h2
        have b := drop1 h2
        injection h with e1 e2
        injection e2 with e2
        subst e1 e2
        rw [List.length_append, wts_append]
        simp only [wts, List.length_cons, List.length_nil]
        omega
      · split at h
        · rename_i h3
          have b := drop2 h3
          have c := pLoop_wt hP k _ _ _ _ h
          rw [List.length_append, wts_append] at c
          simp only [wts, List.length_cons, List.length_nil] at c
          omega
        · injection h with _ h; cases h
theorem pItems_wt {P : List UInt8 → Dt × Option (List UInt8)} (hP : PWt P) {l r : List UInt8} {xs : List Dt} (h : pItems P l = (xs, some r)) : xs.length + wts xs + 1 + r.length ≤ l.length := by
  unfold pItems at h
  split at h
  · rename_i h1
    have b := drop1 h1
    injection h with e1 e2
    injection e2 with e2
    subst e1 e2
    simp [wts]
    simp at b
    omega
  · have := pLoop_wt hP 64 [] l xs r h
    simpa [wts] using this
theorem pTable_wt {P : List UInt8 → Dt × Option (List UInt8)} (hP : PWt P) {l r : List UInt8} {v : Dt} (h : pTable P l = (v, some r)) : v.wt + 1 + r.length ≤ l.length := by
  unfold pTable at h
  split at h
  · rename_i nm r1 h1
    split at h
    · rename_i hs
      split at h
      · rename_i xs r2 h2
        split at h
        · rename_i h3
          injection h with e1 e2
          injection e2 with e2
          subst e1 e2
          have a := pQuote_wt h1
          have b := pItems_wt hP h2
          have c := drop1 h3
          obtain ⟨r1', rfl⟩ := pre_mem hs
          have d := toRows_wt xs
          have e := pcs_wtB 32 nm
          rw [wt_tab, show (xs.map toRow).length = xs.length from by simp]
          simp at a b ⊢
          simp at c e
          omega
        · injection h with _ h; cases h
      · injection h with _ h; cases h
    · injection h with _ h; cases h
  · injection h with _ h; cases h
theorem pParse_wt : ∀ f, PWt (pParse f)
  | 0 => by intro l v r h; unfold pParse at h; injection h with _ h; cases h
  | f + 1 => by
    intro l v r h
    have ih := pParse_wt f
    unfold pParse at h
    split at h
    · injection h with e1 e2
      subst e1
      have := pQuote_wt (l := l) (t := (pQuote l).1) (r := r) (by rw [← e2])
      rw [wt_txt]
      omega
    · split at h
      · rename_i h1
        injection h with e1 e2
        subst e1
        have := pItems_wt ih (l := l.drop 1) (xs := (pItems (pParse f) (l.drop 1)).1) (r := r) (by rw [← e2])
        have b := drop1 h1
        rw [wt_lst]
        omega
      · split at h
        · rename_i h1
          obtain ⟨l', rfl⟩ := pre_mem h1
          have := pStream_wt h
          simp at this ⊢
          omega
        · split at h
          · rename_i h1
            obtain ⟨l', rfl⟩ := pre_mem h1
            have := pTable_wt ih h
            simp at this ⊢
            omega
          · split at h
            · rename_i h1
              obtain ⟨l', rfl⟩ := pre_mem h1
              injection h with e1 e2
              injection e2 with e2
              subst e1 e2
              rw [wt_err]
              simp [wError]
            · injection h with e1 e2
              subst e1
              have := pInt_wt (l := l) (n := (pInt l).1) (r := r) (by rw [← e2])
              rw [wt_num]
              omega
theorem pLoop_val {P : List UInt8 → Dt × Option (List UInt8)} (hP : ∀ l, IsVal (P l).1) : ∀ (k : Nat) (acc : List Dt) (l : List UInt8), (∀ x ∈ acc, IsVal x) → ∀ x ∈ (pLoop P k acc l).1, IsVal x
  | 0, acc, l, ha => by simp [pLoop]
  | k + 1, acc, l, ha => by
    have h1 := hP l
    unfold pLoop
    split
    · simp
    · rename_i v r e
      rw [e] at h1
      have h2 : ∀ x ∈ acc ++ [v], IsVal x := fun x hx => by
        rcases List.mem_append.1 hx with hx | hx
        · exact ha x hx
        · simp at hx; subst hx; exact h1
      split
      · exact h2
      · split
        · exact pLoop_val hP k _ _ h2
        · simp
theorem pItems_val {P : List UInt8 → Dt × Option (List UInt8)} (hP : ∀ l, IsVal (P l).1) (l : List UInt8) : ∀ x ∈ (pItems P l).1, IsVal x := by
  unfold pItems
  split
  · simp
  · exact pLoop_val hP 64 [] l (by simp)
theorem pTable_val {P : List UInt8 → Dt × Option (List UInt8)} (hP : ∀ l, IsVal (P l).1) (l : List UInt8) : IsVal (pTable P l).1 ∧ NoFrom (pTable P l).1 := by
  have hz : IsVal vZero ∧ NoFrom vZero := ⟨IsVal.zero, by simp [NoFrom, vZero]⟩
  unfold pTable
  split
  · split
    · split
      · split
        · exact ⟨IsVal.tab _ fun x hx => by obtain ⟨y, _, rfl⟩ := List.mem_map.1 hx; exact toRow_isRow y, NoFrom.tab _ _⟩
        · exact hz
      · exact hz
    · exact hz
  · exact hz
theorem pStream_val (l : List UInt8) : IsVal (pStream l).1 ∧ NoFrom (pStream l).1 := by
  have hz : IsVal vZero ∧ NoFrom vZero := ⟨IsVal.zero, by simp [NoFrom, vZero]⟩
  unfold pStream
  split
  · split
    · split
      · split
        · exact ⟨IsVal.str _ _, by simp [NoFrom, vStr]⟩
        · exact hz
      · exact hz
    · exact hz
  · exact hz
theorem pParse_val : ∀ f l, IsVal (pParse f l).1 ∧ NoFrom (pParse f l).1
  | 0, l => ⟨IsVal.zero, by simp [NoFrom, vZero, pParse]⟩
  | f + 1, l => by
    have ih := pParse_val f
    unfold pParse
    split
    · exact ⟨IsVal.txt _, by simp [NoFrom, vTxt]⟩
    · split
      · exact ⟨IsVal.lst (pItems_val (fun l => (ih l).1) _), by simp [NoFrom, vLst]⟩
      · split
        · exact pStream_val _
        · split
          · exact pTable_val (fun l => (ih l).1) _
          · split
            · exact ⟨IsVal.err _, by simp [NoFrom, vErr]⟩
            · exact ⟨IsVal.num _, by simp [NoFrom, vNum]⟩
end Go.Proofs.YtabcmnlmmpbmnaaGreatDoor
