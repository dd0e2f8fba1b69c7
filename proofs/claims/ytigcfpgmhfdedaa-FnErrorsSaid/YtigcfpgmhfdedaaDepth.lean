/-
  DepthOf, the program's and the model's.
-/
import Derived.Test.YtigcfpgmhfdedaaSize
namespace Go.Proofs.Ytigcfpgmhfdedaa
open Go.RowKit
set_option linter.unusedVariables false

mutual
def Dt.dep : Dt → Nat
  | .agg [_, _, _, _, .lst l, _, _] => 1 + deps l
  | _ => 0
def deps : List Dt → Nat
  | [] => 0
  | x :: xs => max x.dep (deps xs)
end
def kids : Dt → List Dt
  | .agg [_, _, _, _, .lst l, _, _] => l
  | _ => []
def nxt (xs : List Dt) : List Dt := xs.flatMap kids
theorem dep_mk (k n s : Int) (t : ByteArray) (l c r : List Dt) : Dt.dep (.agg [.int k, .int n, .int s, .str t, .lst l, .lst c, .lst r]) = 1 + deps l := by simp only [Dt.dep]
theorem kids_mk (k n s : Int) (t : ByteArray) (l c r : List Dt) : kids (.agg [.int k, .int n, .int s, .str t, .lst l, .lst c, .lst r]) = l := rfl
theorem deps_append : ∀ us vs : List Dt, deps (us ++ vs) = max (deps us) (deps vs)
  | [], vs => by simp [deps]
  | u :: us, vs => by simp only [List.cons_append, deps, deps_append us vs]; omega
theorem deps_nxt : ∀ xs : List Dt, (∀ x ∈ xs, IsVal x) → xs ≠ [] → deps xs = 1 + deps (nxt xs)
  | [], _, h => absurd rfl h
  | [x], hv, _ => by
    have hx := hv x (by simp)
    cases hx
    simp [deps, nxt, dep_mk, kids_mk]
  | x :: y :: xs, hv, _ => by
    have ih := deps_nxt (y :: xs) (fun z hz => hv z (by simp [hz])) (by simp)
    have hx := hv x (by simp)
    have e : nxt (x :: y :: xs) = kids x ++ nxt (y :: xs) := rfl
    have e' : deps (x :: y :: xs) = max x.dep (deps (y :: xs)) := by rw [deps]
    rw [e, e', deps_append, ih]
    cases hx
    simp only [dep_mk, kids_mk]
    omega
theorem vszs_nxt : ∀ xs : List Dt, (∀ x ∈ xs, IsVal x) → vszs (nxt xs) + xs.length ≤ vszs xs
  | [], _ => by simp [nxt, vszs]
  | x :: xs, hv => by
    have ih := vszs_nxt xs fun z hz => hv z (by simp [hz])
    have hx := hv x (by simp)
    have e : nxt (x :: xs) = kids x ++ nxt xs := rfl
    rw [e, vszs_append]
    simp only [vszs, List.length_cons]
    cases hx
    simp only [vsz_mk, kids_mk]
    omega
theorem nxt_val {xs : List Dt} (hv : ∀ x ∈ xs, IsVal x) : ∀ x ∈ nxt xs, IsVal x := by
  intro x hx
  obtain ⟨y, hy, hx⟩ := List.mem_flatMap.1 hx
  have h := hv y hy
  cases h with
  | mk k n s t l c r hl hr => exact hl x hx
theorem nxt_take (xs : List Dt) (k : Nat) (hk : k < xs.length) : nxt (xs.take (k + 1)) = nxt (xs.take k) ++ kids xs[k] := by
  rw [List.take_succ_eq_append_getElem hk]
  unfold nxt
  rw [List.flatMap_append]
  simp
theorem nxt_len (xs : List Dt) (k : Nat) : (nxt (xs.take k)).length ≤ (nxt xs).length := by
  have h : nxt xs = nxt (xs.take k) ++ nxt (xs.drop k) := by simp [nxt, ← List.flatMap_append]
  rw [h, List.length_append]
  omega
theorem deps_take (xs : List Dt) (k : Nat) (hk : k < xs.length) : deps (xs.take (k + 1)) = max (deps (xs.take k)) xs[k].dep := by
  rw [List.take_succ_eq_append_getElem hk, deps_append]
  simp [deps]
theorem deps_le_vszs : ∀ xs : List Dt, (∀ x ∈ xs, x.dep ≤ x.vsz) → deps xs ≤ vszs xs
  | [], _ => by simp [deps]
  | x :: xs, h => by
    have h1 := h x (by simp)
    have h2 := deps_le_vszs xs fun y hy => h y (by simp [hy])
    simp only [deps, vszs]
    omega
theorem dep_le {d : Dt} (h : IsVal d) : d.dep ≤ d.vsz := by
  induction h with
  | mk k n s t l c r hl hr ih =>
    have := deps_le_vszs l ih
    rw [dep_mk, vsz_mk]
    omega
theorem wts_mem1 : ∀ {xs : List Dt} {x : Dt}, x ∈ xs → x.wt ≤ wts xs
  | y :: ys, x, h => by
    simp only [wts]
    rcases List.mem_cons.1 h with rfl | h
    · omega
    · have := wts_mem1 h; omega
/-- What the call owns, read. -/
theorem Rd.of_own {w : World} {base k B : Nat} {e : TypeId} {v : Value} {n : Nat} {cells : List Value} {xs : List Dt} (h : w.ownsRow base e k v n cells) (hl : RdL w B xs cells) (hn : n = xs.length) (hB : B ≤ w.heap.size) :
    ∃ A c, v = .slice A xs.length c ∧ Rd w w.heap.size (.lst xs) [.slice A xs.length c] := by
  subst hn
  have hlt := h.lt
  obtain ⟨A, c, rfl⟩ : ∃ A c, v = .slice A xs.length c := by
    rcases h.2 with ⟨rfl, e⟩ | ⟨g, cap, cur, rfl, _⟩
    · rw [e]; exact ⟨_, _, rfl⟩
    · exact ⟨_, _, rfl⟩
  refine ⟨A, c, rfl, ?_⟩
  simp only [Rd]
  exact ⟨A, c, cells, rfl, (own_cap h).1, (own_cap h).2, own_row h fun b hb => (hlt b hb).2, hl.more hB⟩

set_option maxHeartbeats 400000 in
set_option maxRecDepth 100000 in
theorem l1Max_any (a b : Nat) (w : World) (ha : a ≤ 4194304) (hb : b ≤ 4194304) : Calls Try.prog 54 #[.int .i64 (a : Int), .int .i64 (b : Int)] w fun e w' => e = .returned (.int .i64 ((max a b : Nat) : Int)) ∧ w' = w := by
  by_cases hab : b < a
  · have e : max a b = a := by omega
    rw [e]
    go_enter Try.func54, Try.ntmps54
    go_wp2_with fail
    go_ret
    exact ⟨rfl, rfl⟩
  · have e : max a b = b := by omega
    rw [e]
    go_enter Try.func54, Try.ntmps54
    go_wp2_with fail
    go_ret
    exact ⟨rfl, rfl⟩

end Go.Proofs.Ytigcfpgmhfdedaa
