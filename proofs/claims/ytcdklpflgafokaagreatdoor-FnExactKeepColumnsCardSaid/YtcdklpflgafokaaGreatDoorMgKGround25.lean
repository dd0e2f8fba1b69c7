/-
  Texts that the proof rests on, put together: Txt.
-/
import Derived.Test.YtcdklpflgafokaaGreatDoorMgKGround2
import Derived.Test.YtcdklpflgafokaaGreatDoorMgKGround1
import Derived.Test.YtcdklpflgafokaaGreatDoorMgKGround7
import Derived.Test.YtcdklpflgafokaaGreatDoorMgKGround13
import Derived.Lib.Join
/-
  The representations of values, and which values they are of: no program in this text.
-/

namespace Go.Proofs.YtcdklpflgafokaaGreatDoor
open Go.Lib
set_option linter.unusedVariables false

/-- The values of each kind, as trees. -/
def vNum (n : Int) : Dt := .agg [.int 1, .int n, .int 0, .str ⟨#[]⟩, .lst [], .lst [], .lst []]
def vTxt (t : List UInt8) : Dt := .agg [.int 2, .int 0, .int 0, .str ⟨t.toArray⟩, .lst [], .lst [], .lst []]
def vLst (l : List Dt) : Dt := .agg [.int 3, .int 0, .int 0, .str ⟨#[]⟩, .lst l, .lst [], .lst []]
def vStr (a b : Int) : Dt := .agg [.int 4, .int a, .int b, .str ⟨#[]⟩, .lst [], .lst [], .lst []]
def vTab (c : List ByteArray) (r : List Dt) : Dt := .agg [.int 5, .int 0, .int 0, .str ⟨#[]⟩, .lst [], .lst (c.map .str), .lst r]
def vErr (n : Int) : Dt := .agg [.int 6, .int n, .int 0, .str ⟨#[]⟩, .lst [], .lst [], .lst []]
def vZero : Dt := .agg [.int 0, .int 0, .int 0, .str ⟨#[]⟩, .lst [], .lst [], .lst []]

def numTxt : Dt → List UInt8
  | .int n => itoa n
  | _ => []
def strTxt : Dt → List UInt8
  | .str s => s.data.toList
  | _ => []
def sepC : List UInt8 := [44, 32]
def brk (xs : List (List UInt8)) : List UInt8 := 91 :: (join xs sepC ++ [93])
def rowTxt : Dt → List UInt8
  | .agg [.lst ns, .lst _] => brk (ns.map numTxt)
  | _ => []
def eNames : List (List UInt8) := [[109, 105, 115, 115, 105, 110, 103], [100, 117, 112, 108, 105, 99, 97, 116, 101], [99, 121, 99, 108, 101], [116, 121, 112, 101], [114, 97, 110, 103, 101], [108, 105, 109, 105, 116], [99, 111, 108, 117, 109, 110], [115, 121, 110, 116, 97, 120]]
def eName (n : Int) : List UInt8 := if 1 ≤ n ∧ n ≤ 8 then eNames.getD (n.toNat - 1) [] else [63]
def eCode (s : List UInt8) : Int := if s ∈ eNames then (eNames.idxOf s : Nat) + 1 else 0
def wRange : List UInt8 := [114, 97, 110, 103, 101, 40]
def wTable : List UInt8 := [116, 97, 98, 108, 101, 40]
def wError : List UInt8 := [101, 114, 114, 111, 114, 32]

mutual
/-- The representation of a value. -/
def Dt.txt : Dt → List UInt8
  | .agg [.int k, .int n, .int s, .str t, .lst l, .lst c, .lst r] =>
    if k = 1 then itoa n
    else if k = 2 then 34 :: (t.data.toList ++ [34])
    else if k = 4 then wRange ++ (itoa n ++ (sepC ++ (itoa s ++ [41])))
    else if k = 5 then wTable ++ (34 :: (join (c.map strTxt) [32] ++ (34 :: (sepC ++ (brk (r.map rowTxt) ++ [41])))))
    else if k = 6 then wError ++ eName n
    else brk (txts l)
  | _ => []
def txts : List Dt → List (List UInt8)
  | [] => []
  | x :: xs => x.txt :: txts xs
end

theorem txts_map : ∀ xs : List Dt, txts xs = xs.map Dt.txt
  | [] => by simp [txts]
  | x :: xs => by simp [txts, txts_map xs]
theorem txt_num (n : Int) : (vNum n).txt = itoa n := by simp [vNum, Dt.txt]
theorem txt_txt (t : List UInt8) : (vTxt t).txt = 34 :: (t ++ [34]) := by simp [vTxt, Dt.txt]
theorem txt_lst (l : List Dt) : (vLst l).txt = brk (l.map Dt.txt) := by simp [vLst, Dt.txt, txts_map]
theorem txt_str (a b : Int) : (vStr a b).txt = wRange ++ (itoa a ++ (sepC ++ (itoa b ++ [41]))) := by simp [vStr, Dt.txt]
theorem txt_tab (c : List ByteArray) (r : List Dt) : (vTab c r).txt = wTable ++ (34 :: (join (c.map (·.data.toList)) [32] ++ (34 :: (sepC ++ (brk (r.map rowTxt) ++ [41]))))) := by
  simp [vTab, Dt.txt, List.map_map, Function.comp_def, strTxt]
theorem txt_err (n : Int) : (vErr n).txt = wError ++ eName n := by simp [vErr, Dt.txt]

/-- What may stand in a list, of at most this depth. -/
def El : Nat → Dt → Prop
  | 0, _ => False
  | m + 1, d => (∃ n, NumOk n ∧ d = vNum n) ∨ (∃ t : List UInt8, t.length ≤ 20 ∧ 34 ∉ t ∧ d = vTxt t) ∨ ∃ xs : List Dt, xs.length ≤ 8 ∧ (xs = [] ∨ 1 ≤ m) ∧ (∀ x ∈ xs, El m x) ∧ d = vLst xs
/-- A row without origins. -/
def RowV (m : Nat) (d : Dt) : Prop := ∃ ns : List Int, ns.length = m ∧ (∀ n ∈ ns, NumOk n) ∧ d = .agg [.lst (ns.map .int), .lst []]
/-- A valid value without origins. -/
def Top (d : Dt) : Prop := El 3 d ∨ (∃ a b, NumOk a ∧ NumOk b ∧ d = vStr a b) ∨
  (∃ (c : List ByteArray) (r : List Dt), c ≠ [] ∧ c.length ≤ 4 ∧ (∀ s ∈ c, s.size ≤ 8 ∧ (32 : UInt8) ∉ s.data.toList ∧ (34 : UInt8) ∉ s.data.toList) ∧ r.length ≤ 12 ∧ (∀ x ∈ r, RowV c.length x) ∧ d = vTab c r) ∨
  ∃ n, 1 ≤ n ∧ n ≤ 8 ∧ d = vErr n

/-- A row as a list of numbers. -/
def asLst : Dt → Dt
  | .agg [.lst ns, .lst _] => vLst (ns.map fun d => match d with | .int n => vNum n | _ => d)
  | d => d
/-- The number of a value. -/
def cellN : Dt → Dt
  | .agg (_ :: .int n :: _) => .int n
  | _ => .int 0
/-- A row of the numbers of a list's elements. -/
def toRow : Dt → Dt
  | .agg [_, _, _, _, .lst l, _, _] => .agg [.lst (l.map cellN), .lst []]
  | _ => .agg [.lst [], .lst []]
theorem asLst_row (ns : List Int) (os : List Dt) : asLst (.agg [.lst (ns.map .int), .lst os]) = vLst (ns.map vNum) := by
  simp [asLst, List.map_map, Function.comp_def]
theorem toRow_asLst (ns : List Int) : toRow (asLst (.agg [.lst (ns.map .int), .lst []])) = .agg [.lst (ns.map .int), .lst []] := by
  rw [asLst_row]
  simp [toRow, vLst, List.map_map, Function.comp_def, vNum, cellN]
theorem rowTxt_asLst (ns : List Int) (os : List Dt) : rowTxt (.agg [.lst (ns.map .int), .lst os]) = (asLst (.agg [.lst (ns.map .int), .lst os])).txt := by
  rw [asLst_row, txt_lst]
  simp [rowTxt, List.map_map, Function.comp_def, numTxt, txt_num]
theorem RowV.el {m : Nat} {d : Dt} (h : RowV m d) (hm : m ≤ 8) : El 2 (asLst d) ∧ toRow (asLst d) = d ∧ rowTxt d = (asLst d).txt := by
  obtain ⟨ns, rfl, hn, rfl⟩ := h
  refine ⟨?_, toRow_asLst ns, rowTxt_asLst ns []⟩
  rw [asLst_row]
  refine .inr (.inr ⟨_, by simpa using hm, .inr (Nat.le_refl 1), fun x hx => ?_, rfl⟩)
  obtain ⟨n, hm, rfl⟩ := List.mem_map.1 hx
  exact .inl ⟨n, hn n hm, rfl⟩

/-! ### numerals -/
def isDg (c : UInt8) : Bool := decide (48 ≤ c.toNat) && decide (c.toNat ≤ 57)
theorem isDg_dig (d : Nat) (h : d < 10) : isDg (UInt8.ofNat (48 + d)) = true := by
  unfold isDg; rw [ofNat_dig d h]; simp; omega
theorem decDigits_isDg (u : Nat) : ∀ c ∈ decDigits u, isDg c = true := by
  induction u using Nat.strongRecOn with
  | _ u ih =>
    rw [decDigits]
    split
    · rename_i h
      intro c hc
      simp only [List.mem_singleton] at hc
      subst hc
      exact isDg_dig u h
    · intro c hc
      rcases List.mem_append.1 hc with hc | hc
      · exact ih (u / 10) (by omega) c hc
      · simp only [List.mem_singleton] at hc
        subst hc
        exact isDg_dig _ (by omega)
/-- A numeral: a sign or none, then digits. -/
theorem itoa_form (n : Int) : ∃ ds : List UInt8, ds ≠ [] ∧ (∀ c ∈ ds, isDg c = true) ∧ (itoa n = ds ∨ itoa n = 45 :: ds) := by
  by_cases hneg : n < 0
  · obtain ⟨u, rfl⟩ : ∃ u : Nat, n = -(u : Int) := ⟨n.natAbs, by omega⟩
    exact ⟨decDigits u, decDigits_ne u, decDigits_isDg u, .inr (itoa_neg u (by omega))⟩
  · obtain ⟨u, rfl⟩ : ∃ u : Nat, n = u := ⟨n.toNat, by omega⟩
    exact ⟨decDigits u, decDigits_ne u, decDigits_isDg u, .inl (itoa_nonneg u)⟩
theorem itoa_ne (n : Int) : itoa n ≠ [] := by
  obtain ⟨ds, h1, _, h | h⟩ := itoa_form n
  · rw [h]; exact h1
  · rw [h]; simp
/-- No delimiter and no quote in a numeral. -/
theorem itoa_byte (n : Int) : ∀ c ∈ itoa n, c = 45 ∨ isDg c = true := by
  obtain ⟨ds, _, h2, h | h⟩ := itoa_form n
  · rw [h]; exact fun c hc => .inr (h2 c hc)
  · rw [h]
    intro c hc
    rcases List.mem_cons.1 hc with hc | hc
    · exact .inl hc
    · exact .inr (h2 c hc)
theorem itoa_len {n : Int} (h : NumOk n) : (itoa n).length ≤ 11 := by
  unfold NumOk at h
  by_cases hneg : n < 0
  · obtain ⟨u, rfl⟩ : ∃ u : Nat, n = -(u : Int) := ⟨n.natAbs, by omega⟩
    rw [itoa_neg u (by omega), List.length_cons, decDigits_length]
    have := nDigits_le_of_lt u 10 (by omega) (by omega)
    omega
  · obtain ⟨u, rfl⟩ : ∃ u : Nat, n = u := ⟨n.toNat, by omega⟩
    rw [itoa_nonneg, decDigits_length]
    have := nDigits_le_of_lt u 10 (by omega) (by omega)
    omega

/-! ### lengths -/
theorem joinTail_cons' (sep x : List UInt8) (r : List (List UInt8)) : joinTail sep (x :: r) = sep ++ (x ++ joinTail sep r) := by simp [joinTail]
theorem joinTail_le (B : Nat) : ∀ xs : List (List UInt8), (∀ x ∈ xs, x.length ≤ B) → (joinTail sepC xs).length ≤ xs.length * (B + 2)
  | [], _ => by simp [joinTail]
  | x :: xs, h => by
    have h1 := joinTail_le B xs fun y hy => h y (by simp [hy])
    have h2 := h x (by simp)
    rw [joinTail_cons', List.length_append, List.length_append, List.length_cons, Nat.succ_mul, show sepC.length = 2 from rfl]
    omega
theorem join_le (B : Nat) (xs : List (List UInt8)) (h : ∀ x ∈ xs, x.length ≤ B) : (join xs sepC).length ≤ xs.length * (B + 2) := by
  cases xs with
  | nil => simp [join_nil]
  | cons x xs =>
    have h1 := joinTail_le B xs fun y hy => h y (by simp [hy])
    have h2 := h x (by simp)
    rw [join_cons, List.length_append, List.length_cons, Nat.succ_mul]
    omega
theorem brk_le (B k : Nat) (xs : List (List UInt8)) (hk : xs.length ≤ k) (h : ∀ x ∈ xs, x.length ≤ B) : (brk xs).length ≤ k * (B + 2) + 2 := by
  have h1 := join_le B xs h
  have h2 := Nat.mul_le_mul_right (B + 2) hk
  simp [brk]
  omega
def elMax : Nat → Nat
  | 0 => 22
  | m + 1 => 8 * (elMax m + 2) + 2
theorem elMax_ge (m : Nat) : 22 ≤ elMax m := by
  induction m with
  | zero => simp [elMax]
  | succ m ih => simp [elMax]; omega
theorem el_len : ∀ (m : Nat) (d : Dt), El m d → d.txt.length ≤ elMax m
  | 0, _, h => by simp [El] at h
  | m + 1, d, h => by
    have hg := elMax_ge (m + 1)
    rcases h with ⟨n, hn, rfl⟩ | ⟨t, ht, _, rfl⟩ | ⟨xs, hl, _, hx, rfl⟩
    · rw [txt_num]; have := itoa_len hn; omega
    · rw [txt_txt]; simp; omega
    · rw [txt_lst]
      exact brk_le (elMax m) 8 _ (by simpa using hl) fun y hy => by
        obtain ⟨x, hx', rfl⟩ := List.mem_map.1 hy
        exact el_len m x (hx x hx')
theorem eName_len (n : Int) : (eName n).length ≤ 9 := by
  unfold eName
  split
  · have : ∀ x ∈ eNames, x.length ≤ 9 := by decide
    rw [List.getD_eq_getElem?_getD]
    cases h : eNames[n.toNat - 1]? with
    | none => simp
    | some v => exact this v (List.mem_of_getElem? h)
  · simp
end Go.Proofs.YtcdklpflgafokaaGreatDoor
