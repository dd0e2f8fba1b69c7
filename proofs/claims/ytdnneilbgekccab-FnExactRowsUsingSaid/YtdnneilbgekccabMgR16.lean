/-
  Texts that the proof rests on, put together: NameSort, Has, TabPart, ValPart.
-/
import Derived.Test.YtdnneilbgekccabMgR2
import Derived.Test.YtdnneilbgekccabMgR5
import Derived.Test.YtdnneilbgekccabMgR1
import Derived.Sort.OwnSorted
import Derived.Sort.Grow
import Derived.Lib.OwnBridge
import Derived.Lib.RowBridge
import Derived.Lib.SlicesS
/-
  Tables taken apart; the place of a column.
-/

namespace Go.Proofs.Ytdnneilbgekccab
open Go.RowKit
set_option linter.unusedVariables false

/-! ### tables taken apart -/
def Dt.co : Dt → List ByteArray
  | .agg [_, _, _, _, _, .lst c, _] => c.map fun x => match x with | .str s => s | _ => ⟨#[]⟩
  | _ => []
def Dt.rw : Dt → List Dt
  | .agg [_, _, _, _, _, _, .lst r] => r
  | _ => []
theorem co_mk (k n s : Dt) (t l : Dt) (c : List ByteArray) (r : Dt) : Dt.co (.agg [k, n, s, t, l, .lst (c.map .str), r]) = c := by
  simp only [Dt.co, List.map_map]
  conv => rhs; rw [← List.map_id c]
  rfl
theorem rw_mk (k n s t l c : Dt) (r : List Dt) : Dt.rw (.agg [k, n, s, t, l, c, .lst r]) = r := rfl
/-- A row's cells and origins. -/
def Dt.ce : Dt → List Int
  | .agg [.lst ns, _] => ns.map fun x => match x with | .int n => n | _ => 0
  | _ => []
def Dt.fr : Dt → List Dt
  | .agg [_, .lst os] => os
  | _ => []
theorem fr_mk (n : Dt) (os : List Dt) : Dt.fr (.agg [n, .lst os]) = os := rfl
def Dt.at (r : Dt) (k : Nat) : Int := (r.ce[k]?).getD 0
end Go.Proofs.Ytdnneilbgekccab

/-
  A value taken apart. (Written by gen8.py.)
-/

namespace Go.Proofs.Ytdnneilbgekccab
open Go.RowKit Go.Lib Go.Sort
set_option linter.unusedVariables false
set_option linter.unusedSimpArgs false

theorem rw_val8 {a : Dt} (h : IsVal a) : ∀ x ∈ a.rw, IsRow x := by cases h; assumption
theorem wt_parts8 {a : Dt} (h : IsVal a) : a.rw.length + wts a.rw + (Dt.lst (a.co.map .str)).wt ≤ a.wt := by
  cases h
  rw [rw_mk, co_mk]
  simp only [Dt.wt, wts]
  omega
theorem rd_rows8 {w : World} {B : Nat} {x : Dt} (hx : IsVal x) {y0 y1 y2 : Int} {y3 : ByteArray} {y4 : Option Addr} {n4 c4 : Nat} {y5 : Option Addr} {n5 c5 : Nat} {y6 : Option Addr} {n6 c6 : Nat}
    (h : Rd w B x [.int .i64 y0, .int .i64 y1, .int .i64 y2, .string y3, .slice y4 n4 c4, .slice y5 n5 c5, .slice y6 n6 c6]) : Rd w B (.lst x.rw) [.slice y6 n6 c6] := by
  cases hx
  obtain ⟨A4, q4, A5, q5, A6, q6, e, -, r5, r6⟩ := Rd.ofValue h
  simp only [List.cons.injEq, Value.slice.injEq, and_true, true_and] at e
  obtain ⟨-, -, -, -, -, ⟨rfl, rfl, rfl⟩, rfl, rfl, rfl⟩ := e
  rw [rw_mk]
  exact r6
theorem size_in8 {os : List Dt} {a : Dt} {m : Nat} (h : (Dt.agg [a, .lst os]).wt ≤ m) : os.length ≤ m := by
  simp only [Dt.wt, wts] at h
  omega
end Go.Proofs.Ytdnneilbgekccab
