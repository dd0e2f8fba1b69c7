/-
  Texts that the proof rests on, put together: Txt, SParse.
-/
import Derived.Test.YtjhmeaofbheonabGreatDoorMgT2
import Derived.Test.YtjhmeaofbheonabGreatDoorMgT1
import Derived.Test.YtjhmeaofbheonabGreatDoorMgT6
import Derived.Test.YtjhmeaofbheonabGreatDoorMgT8
import Derived.Lib.Join
/-
  The representations of values, and which values they are of: no program in this text.
-/

namespace Go.Proofs.YtjhmeaofbheonabGreatDoor
open Go.Lib
set_option linter.unusedVariables false

/-- The values of each kind, as trees. -/
def vNum (n : Int) : Dt := .agg [.int 1, .int n, .int 0, .str ⟨#[]⟩, .lst [], .lst [], .lst []]
def vTxt (t : List UInt8) : Dt := .agg [.int 2, .int 0, .int 0, .str ⟨t.toArray⟩, .lst [], .lst [], .lst []]
def vLst (l : List Dt) : Dt := .agg [.int 3, .int 0, .int 0, .str ⟨#[]⟩, .lst l, .lst [], .lst []]
def vErr (n : Int) : Dt := .agg [.int 6, .int n, .int 0, .str ⟨#[]⟩, .lst [], .lst [], .lst []]
def numTxt : Dt → List UInt8
  | .int n => itoa n
  | _ => []
def strTxt : Dt → List UInt8
  | .str s => s.data.toList
  | _ => []
def sepC : List UInt8 := [44, 32]
def brk (xs : List (List UInt8)) : List UInt8 := 91 :: (join xs sepC ++ [93])
def rowTxt : Dt → List UInt8
  | .agg [.lst ns, .lst _] => brk (ns.map numTxt)
  | _ => []
def eNames : List (List UInt8) := [[109, 105, 115, 115, 105, 110, 103], [100, 117, 112, 108, 105, 99, 97, 116, 101], [99, 121, 99, 108, 101], [116, 121, 112, 101], [114, 97, 110, 103, 101], [108, 105, 109, 105, 116], [99, 111, 108, 117, 109, 110], [115, 121, 110, 116, 97, 120]]
def eName (n : Int) : List UInt8 := if 1 ≤ n ∧ n ≤ 8 then eNames.getD (n.toNat - 1) [] else [63]
def wRange : List UInt8 := [114, 97, 110, 103, 101, 40]
def wTable : List UInt8 := [116, 97, 98, 108, 101, 40]
def wError : List UInt8 := [101, 114, 114, 111, 114, 32]

mutual
/-- The representation of a value. -/
def Dt.txt : Dt → List UInt8
  | .agg [.int k, .int n, .int s, .str t, .lst l, .lst c, .lst r] =>
    if k = 1 then itoa n
    else if k = 2 then 34 :: (t.data.toList ++ [34])
    else if k = 4 then wRange ++ (itoa n ++ (sepC ++ (itoa s ++ [41])))
    else if k = 5 then wTable ++ (34 :: (join (c.map strTxt) [32] ++ (34 :: (sepC ++ (brk (r.map rowTxt) ++ [41])))))
    else if k = 6 then wError ++ eName n
    else brk (txts l)
  | _ => []
def txts : List Dt → List (List UInt8)
  | [] => []
  | x :: xs => x.txt :: txts xs
end

theorem txts_map : ∀ xs : List Dt, txts xs = xs.map Dt.txt
  | [] => by simp [txts]
  | x :: xs => by simp [txts, txts_map xs]
theorem txt_num (n : Int) : (vNum n).txt = itoa n := by simp [vNum, Dt.txt]
theorem txt_lst (l : List Dt) : (vLst l).txt = brk (l.map Dt.txt) := by simp [vLst, Dt.txt, txts_map]
/-- What may stand in a list, of at most this depth. -/
def El : Nat → Dt → Prop
  | 0, _ => False
  | m + 1, d => (∃ n, NumOk n ∧ d = vNum n) ∨ (∃ t : List UInt8, t.length ≤ 20 ∧ 34 ∉ t ∧ d = vTxt t) ∨ ∃ xs : List Dt, xs.length ≤ 8 ∧ (xs = [] ∨ 1 ≤ m) ∧ (∀ x ∈ xs, El m x) ∧ d = vLst xs
/-- A row without origins. -/
def RowV (m : Nat) (d : Dt) : Prop := ∃ ns : List Int, ns.length = m ∧ (∀ n ∈ ns, NumOk n) ∧ d = .agg [.lst (ns.map .int), .lst []]
/-- A row as a list of numbers. -/
def asLst : Dt → Dt
  | .agg [.lst ns, .lst _] => vLst (ns.map fun d => match d with | .int n => vNum n | _ => d)
  | d => d
/-- The number of a value. -/
def cellN : Dt → Dt
  | .agg (_ :: .int n :: _) => .int n
  | _ => .int 0
/-- A row of the numbers of a list's elements. -/
def toRow : Dt → Dt
  | .agg [_, _, _, _, .lst l, _, _] => .agg [.lst (l.map cellN), .lst []]
  | _ => .agg [.lst [], .lst []]
theorem asLst_row (ns : List Int) (os : List Dt) : asLst (.agg [.lst (ns.map .int), .lst os]) = vLst (ns.map vNum) := by
  simp [asLst, List.map_map, Function.comp_def]
theorem toRow_asLst (ns : List Int) : toRow (asLst (.agg [.lst (ns.map .int), .lst []])) = .agg [.lst (ns.map .int), .lst []] := by
  rw [asLst_row]
  simp [toRow, vLst, List.map_map, Function.comp_def, vNum, cellN]
theorem rowTxt_asLst (ns : List Int) (os : List Dt) : rowTxt (.agg [.lst (ns.map .int), .lst os]) = (asLst (.agg [.lst (ns.map .int), .lst os])).txt := by
  rw [asLst_row, txt_lst]
  simp [rowTxt, List.map_map, Function.comp_def, numTxt, txt_num]
theorem RowV.el {m : Nat} {d : Dt} (h : RowV m d) (hm : m ≤ 8) : El 2 (asLst d) ∧ toRow (asLst d) = d ∧ rowTxt d = (asLst d).txt := by
  obtain ⟨ns, rfl, hn, rfl⟩ := h
  refine ⟨?_, toRow_asLst ns, rowTxt_asLst ns []⟩
  rw [asLst_row]
  refine .inr (.inr ⟨_, by simpa using hm, .inr (Nat.le_refl 1), fun x hx => ?_, rfl⟩)
  obtain ⟨n, hm, rfl⟩ := List.mem_map.1 hx
  exact .inl ⟨n, hn n hm, rfl⟩

/-! ### numerals -/
def isDg (c : UInt8) : Bool := decide (48 ≤ c.toNat) && decide (c.toNat ≤ 57)
/-! ### lengths -/
end Go.Proofs.YtjhmeaofbheonabGreatDoor

/-
  What the model reads of a text: every valid value without origins is read from its representation.
-/

namespace Go.Proofs.YtjhmeaofbheonabGreatDoor
open Go.Lib
set_option linter.unusedVariables false

/-! ### what the model reads -/
/-! ### every value is read from its representation -/
/-- Nothing that would go on with a numeral. -/
def Stop (r : List UInt8) : Prop := ∀ c, r.head? = some c → isDg c = false
theorem Stop.nil : Stop [] := by simp [Stop]
theorem Stop.cons {c : UInt8} {r : List UInt8} (h : isDg c = false) : Stop (c :: r) := by
  intro d hd; simp at hd; subst hd; exact h
end Go.Proofs.YtjhmeaofbheonabGreatDoor
