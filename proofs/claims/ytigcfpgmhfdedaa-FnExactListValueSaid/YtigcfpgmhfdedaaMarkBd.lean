/-
  How many marks a tree of values takes; a value's marks as one step of a law.
-/
import Derived.Test.YtigcfpgmhfdedaaMarkTop
import Derived.Test.YtigcfpgmhfdedaaMem
namespace Go.Proofs.Ytigcfpgmhfdedaa
open Go.RowKit
set_option linter.unusedVariables false

theorem cnts_rows : ∀ rs : List Dt, (∀ x ∈ rs, IsRow x) → cnts rs ≤ 2 * wts rs
  | [], _ => by simp [cnts]
  | x :: rs, h => by
    have ih := cnts_rows rs fun y hy => h y (by simp [hy])
    obtain ⟨ns, os, rfl, ho⟩ := h x (by simp)
    have h1 := cnts_ints ns
    have h2 := cnts_orgs os ho
    have h3 := wts_ints ns
    have h4 := wts_orgs os ho
    simp only [cnts, Dt.cnt, wts, Dt.wt, h1, h2, h3, h4, List.length_map]
    omega
theorem cnts_vals : ∀ xs : List Dt, (∀ x ∈ xs, x.cnt ≤ 4 + 4 * x.wt) → cnts xs ≤ 4 * (xs.length + wts xs)
  | [], _ => by simp [cnts]
  | x :: xs, h => by
    have ih := cnts_vals xs fun y hy => h y (by simp [hy])
    have h1 := h x (by simp)
    simp only [cnts, wts, List.length_cons]
    omega
theorem cnt_val {d : Dt} (h : IsVal d) : d.cnt ≤ 4 + 4 * d.wt := by
  induction h with
  | mk k n s t l c r hl hr ih =>
    have h1 := cnts_vals l ih
    have h2 := cnts_rows r hr
    have h3 := cnts_strs c
    simp only [Dt.cnt, cnts, Dt.wt, wts, h3, List.length_map]
    omega
theorem cnts_le_vals {xs : List Dt} (h : ∀ x ∈ xs, IsVal x) : cnts xs ≤ 4 * (xs.length + wts xs) := cnts_vals xs fun x hx => cnt_val (h x hx)

theorem Objs.mark {B : Nat} {w w' : World} {d d' : Dt} {cs : List Value} {fp : List Nat} {L : List Asn} (h : Objs B w (owA d cs fp :: L)) (hf : Fr w w' fp) (ho : Ow w' d' cs fp) (hB : B ≤ w.heap.size) : Objs B w' (owA d' cs fp :: L) :=
  h.upd hf.size (fun b hb hn => hf.block b hb hn) ⟨ho, h.head.2⟩ (owA_loc _ _ _) (fun b hb => .inl hb) hB
theorem Fr.below {B : Nat} {w w' : World} {fp : List Nat} (h : Fr w w' fp) (hB : ∀ b ∈ fp, B ≤ b) (hs : B ≤ w.heap.size) : Below B w w' :=
  ⟨h.os, h.tape, h.output, h.size, fun k hk => h.block k (Nat.lt_of_lt_of_le hk hs) fun hm => by have := hB k hm; omega⟩
end Go.Proofs.Ytigcfpgmhfdedaa
