/-
  Numbers within bounds, and origins in ascending order: the program's and the model's. (Written by gennumok.py.)
-/
import Derived.Test.YtehipnbielgbeaaShp
import Derived.Test.YtehipnbielgbeaaText
import Derived.Test.YtehipnbielgbeaaEq
import Derived.Deep.RegionHeld3
namespace Go.Proofs.Ytehipnbielgbeaa
open Go.RowKit
set_option linter.unusedVariables false

def NumOk (n : Int) : Prop := -1000000000 ≤ n ∧ n ≤ 1000000000


set_option maxHeartbeats 400000 in
set_option maxRecDepth 100000 in
theorem l1In_any (a lo hi : Int) (w : World) : Calls Try.prog 20 #[.int .i64 a, .int .i64 lo, .int .i64 hi] w (AnsP (lo ≤ a ∧ a ≤ hi) w) := by
  by_cases h1 : lo ≤ a
  · by_cases h2 : a ≤ hi
    · go_enter Try.func20, Try.ntmps20
      go_wp2_with fail
      go_ret
      exact ⟨true, by simp, iff_of_true rfl ⟨h1, h2⟩, rfl⟩
    · go_enter Try.func20, Try.ntmps20
      go_wp2_with fail
      go_ret
      exact ⟨false, by simp, iff_of_false (by simp) (fun h => by first | (have := h.2; omega) | omega), rfl⟩
  · go_enter Try.func20, Try.ntmps20
    go_wp2_with fail
    go_ret
    exact ⟨false, by simp, iff_of_false (by simp) (fun h => by first | (have := h.1; omega) | omega), rfl⟩


set_option maxHeartbeats 400000 in
set_option maxRecDepth 100000 in
theorem within_any (a : Int) (w : World) : Calls Try.prog 41 #[.int .i64 a] w (AnsP (NumOk a) w) := by
  by_cases h1 : -1000000000 ≤ a
  · by_cases h2 : a ≤ 1000000000
    · go_enter Try.func41, Try.ntmps41
      go_wp2_with fail
      go_ret
      exact ⟨true, by simp, iff_of_true rfl ⟨h1, h2⟩, rfl⟩
    · go_enter Try.func41, Try.ntmps41
      go_wp2_with fail
      go_ret
      exact ⟨false, by simp, iff_of_false (by simp) (fun h => by first | (have := h.2; omega) | omega), rfl⟩
  · go_enter Try.func41, Try.ntmps41
    go_wp2_with fail
    go_ret
    exact ⟨false, by simp, iff_of_false (by simp) (fun h => by first | (have := h.1; omega) | omega), rfl⟩


set_option maxHeartbeats 400000 in
set_option maxRecDepth 100000 in
theorem l3Number_any (a : Int) (w : World) : Calls Try.prog 39 #[.int .i64 a] w (AnsP (NumOk a) w) := by
  go_enter Try.func39, Try.ntmps39
  go_wp2_with fail
  refine (l1In_any a (-1000000000) 1000000000 w).mono ?_
  rintro e w1 ⟨b, rfl, hb, rfl⟩
  have HB := Lib.hid hb
  clear hb
  go_wp2_with fail
  go_ret
  exact ⟨b, rfl, HB.out, rfl⟩

/-- One origin lies ahead of another. -/
def OLt (p q : Int × Int) : Prop := p.1 < q.1 ∨ p.1 = q.1 ∧ p.2 < q.2


def cmpI (a b : Int) : Int := if a < b then -1 else if b < a then 1 else 0


def orI (x y : Int) : Int := if x = 0 then y else x

theorem cmp_or (a b c d : Int) : (0 ≤ orI (cmpI a c) (cmpI b d)) ↔ ¬ OLt (a, b) (c, d) := by
  unfold orI cmpI OLt
  simp only
  split <;> (try split) <;> (try split) <;> omega

def pr : Dt → Int × Int
  | .agg [.int a, .int b] => (a, b)
  | _ => (0, 0)
def prAt (os : List Dt) (i : Nat) : Int × Int := pr (os.getD i (.int 0))
def OrgAt (os : List Dt) (i : Nat) : Prop := 0 ≤ (prAt os i).1 ∧ 0 ≤ (prAt os i).2 ∧ (0 < i → OLt (prAt os (i - 1)) (prAt os i))
def OrgOk (os : List Dt) : Prop := ∀ i, i < os.length → OrgAt os i
theorem prAt_mk {os : List Dt} {i : Nat} (h : i < os.length) {a b : Int} (e : os[i] = .agg [.int a, .int b]) : prAt os i = (a, b) := by
  unfold prAt
  rw [List.getD_eq_getElem?_getD, List.getElem?_eq_getElem h, e]
  rfl
theorem OrgAt_next {os : List Dt} {k : Nat} (h : ∀ i, i < k → OrgAt os i) (hk : OrgAt os k) : ∀ i, i < k + 1 → OrgAt os i := by
  intro i hi
  by_cases e : i = k
  · subst e; exact hk
  · exact h i (by omega)


end Go.Proofs.Ytehipnbielgbeaa
